/- The contracts of Mul and Div. -/
import Derived.Test.YtplepbaafamjfaaV5
import Derived.Test.YtplepbaafamjfaaV7
namespace Go.Proofs.Ytplepbaafamjfaa
open Go.ChangeShapes Go.WideShapes Go.ChangeAt Go.RowKit
set_option linter.unusedVariables false
set_option linter.unusedSimpArgs false

theorem around3 (x y a0 b0 a1 b1 a2 b2 : Int) (c0 c1 : Value) (W : World) (g : Nat) (h : Has W g 63 #[c0, c1, .int .i64 a0, .int .i64 b0, .int .i64 a1, .int .i64 b1, .int .i64 a2, .int .i64 b2]) :
    Calls Try.prog 46 #[.agg #[.int .i64 x, .int .i64 y], .slice (some ⟨g, 2, none⟩) 3 3] W fun e w' => e = .returned (.agg #[.int .i64 (mn (mn (mn x a0) a1) a2), .int .i64 (mx (mx (mx y b0) b1) b2)]) ∧ Below W.heap.size W w' :=
  around_any x y [(a0, b0), (a1, b1), (a2, b2)] g 2 3 3 W (by omega) rfl h.size_ (by
    intro k hk
    have hk' : k < 3 := by simpa using hk
    have : k = 0 ∨ k = 1 ∨ k = 2 := by omega
    rcases this with rfl | rfl | rfl
    · exact ⟨h.read 2, h.read 3⟩
    · exact ⟨h.read 4, h.read 5⟩
    · exact ⟨h.read 6, h.read 7⟩)

/-- What the last statement of Mul and of Div keeps: the result's block, and the array of the results at the corners. -/
def Non (w0 w : World) (g : Nat) (cs : Array Value) : Prop := Below w0.heap.size w0 w ∧ (∃ c d : Value, Has w (w0.heap.size + 1 + 1) 23 #[c, d]) ∧ Has w g 63 cs ∧ w0.heap.size + 1 + 1 < g
theorem Non.next {w0 w w1 : World} {g : Nat} {cs : Array Value} (h : Non w0 w g cs) (hb : Below w.heap.size w w1) : Non w0 w1 g cs := by
  obtain ⟨h1, ⟨c, d, h2⟩, h3, h4⟩ := h
  exact ⟨belows h1 hb, ⟨c, d, h2.on hb⟩, h3.on hb, h4⟩
theorem Non.drew {w0 w : World} {g : Nat} {cs : Array Value} (h : Non w0 w g cs) : Non w0 w.drew g cs := h.next (Dr.below' ⟨1, rfl⟩)
theorem Non.set2 {w0 w : World} {g : Nat} {cs : Array Value} (h : Non w0 w g cs) (x y : Value) : Non w0 ((w.setCell ⟨w0.heap.size + 1 + 1, 0, none⟩ x).setCell ⟨w0.heap.size + 1 + 1, 1, none⟩ y) g cs := by
  obtain ⟨h1, ⟨c, d, h2⟩, h3, h4⟩ := h
  exact ⟨(h1.setCell (by simp; omega) _).setCell (by simp; omega) _, ⟨x, y, (h2.put_ 0 x).put_ 1 y⟩, (h3.apart_ (by simp; omega) _).apart_ (by simp; omega) _, h4⟩
theorem Non.has {w0 w : World} {g : Nat} {cs : Array Value} (h : Non w0 w g cs) : Has w g 63 cs := h.2.2.1
theorem Non.kept {w0 w : World} {g : Nat} {cs : Array Value} (h : Non w0 w g cs) : ∃ c d : Value, w.cell? ⟨w0.heap.size + 1 + 1, 0, none⟩ = some c ∧ w.cell? ⟨w0.heap.size + 1 + 1, 1, none⟩ = some d ∧ w.frozen? ⟨w0.heap.size + 1 + 1, 0, none⟩ = false ∧ w.frozen? ⟨w0.heap.size + 1 + 1, 1, none⟩ = false := by
  obtain ⟨h1, ⟨c, d, h2⟩, h3, h4⟩ := h
  exact ⟨c, d, h2.read 0, h2.read 1, h2.open_ 0, h2.open_ 1⟩
theorem Non.two {w0 w : World} {g : Nat} {a b c2 c3 c4 c5 c6 c7 : Value} (h : Non w0 w g #[a, b, c2, c3, c4, c5, c6, c7]) : w.cell? ⟨g, 0, none⟩ = some a ∧ w.cell? ⟨g, 1, none⟩ = some b ∧ Non w0 w g #[a, b, c2, c3, c4, c5, c6, c7] :=
  ⟨h.has.read 0, h.has.read 1, h⟩
theorem non_start {w0 w : World} {c d : Int} {l : List Fb} (E : Env w0 w (⟨w0.heap.size + 1 + 1, 23, c, d⟩ :: l)) (cs : Array Value) : Non w0 (w.alloc (.cells cs 63)) w.heap.size cs :=
  ⟨al E.1 _, ⟨_, _, E.2.1.alloc_ _⟩, Has.new_ _ _ _, E.2.1.size_⟩

set_option maxHeartbeats 4000000 in
theorem smul_ok (al ah bl bh : Int) (w : World) (va : SV al ah) (vb : SV bl bh) {x y e0 : Int} (hr : mulS al ah bl bh = (x, y, e0)) :
    Calls Try.prog 23 #[.agg #[.int .i64 al, .int .i64 ah], .agg #[.int .i64 bl, .int .i64 bh]] w fun e w' => e = .returned (.tuple #[.agg #[.int .i64 x, .int .i64 y], .int .i64 e0]) ∧ Below w.heap.size w w' := by
  have hA := sB_t.2 va
  have hB := sB_t.2 vb
  have hC := fun W => corners_mul al ah bl bh W va vb
  unfold mulS mn4 mx4 at hr
  generalize sLo al bl 1 = x0 at *
  generalize sHi al bl 1 = y0 at *
  generalize sLo al bh 1 = x1 at *
  generalize sHi al bh 1 = y1 at *
  generalize sLo ah bl 1 = x2 at *
  generalize sHi ah bl 1 = y2 at *
  generalize sLo ah bh 1 = x3 at *
  generalize sHi ah bh 1 = y3 at *
  have hM := fun W g c0 c1 h => around3 x0 y0 x1 y1 x2 y2 x3 y3 c0 c1 W g h
  generalize mn (mn (mn x0 x1) x2) x3 = m at *
  generalize mx (mx (mx y0 y1) y2) y3 = M at *
  have hF := fun w => sfit_any m M w hr
  clear hr va vb
  go_enter Try.func23, Try.ntmps23
  go_wp2_with (first | (go_at_call 16; refine (svalid_any _ _ _).mono ?_; first | (rw [hA]; rintro e w1 ⟨rfl, hb⟩; have E := (env_three w al ah bl bh 0 0 23 23 23).on hb; have C := E.cells; simp only [BC] at C; clear hb) | (rw [hB]; rintro e w2 ⟨rfl, hb⟩; replace E := E.on hb; replace C := E.cells; simp only [BC] at C; clear hb)) | (go_at_call 50; (with_reducible refine (hC _).mono ?_); rintro e w3 ⟨rfl, hb⟩; replace E := E.on hb; replace C := E.cells; simp only [BC] at C; clear hb))
  have N := non_start E #[.int .i64 x0, .int .i64 y0, .int .i64 x1, .int .i64 y1, .int .i64 x2, .int .i64 y2, .int .i64 x3, .int .i64 y3]
  clear E C
  generalize w3.heap.size = g at *
  obtain ⟨W, hW⟩ : ∃ W, W = w3.alloc (.cells #[.int .i64 x0, .int .i64 y0, .int .i64 x1, .int .i64 y1, .int .i64 x2, .int .i64 y2, .int .i64 x3, .int .i64 y3] 63) := ⟨_, rfl⟩
  rw [← hW] at N ⊢
  clear hW
  go_region_held3 (fun w' => w'.cell? ⟨g, 0, none⟩ = some (.int .i64 x0) ∧ w'.cell? ⟨g, 1, none⟩ = some (.int .i64 y0) ∧ Non w w' g #[.int .i64 x0, .int .i64 y0, .int .i64 x1, .int .i64 y1, .int .i64 x2, .int .i64 y2, .int .i64 x3, .int .i64 y3])
    (first | with_reducible exact Non.two N.drew | with_reducible exact Non.two (Non.next (by go_split_ands; assumption) hb) | with_reducible exact Non.two (Non.set2 Q0 _ _) | go_keep)
    (first | (go_at_call 46; (with_reducible refine (hM _ _ _ _ (Non.has (w0 := w) (by go_split_ands; assumption))).mono ?_); rintro e w4 ⟨rfl, hb⟩) | (go_at_call 45; (with_reducible refine (hF _).mono ?_); rintro e w5 ⟨rfl, hb⟩; have Q0 : Non w w5 g #[.int .i64 x0, .int .i64 y0, .int .i64 x1, .int .i64 y1, .int .i64 x2, .int .i64 y2, .int .i64 x3, .int .i64 y3] := (by with_reducible exact Non.next (by go_split_ands; assumption) hb); obtain ⟨c, d, QQ⟩ := Non.kept Q0))
  all_goals rename_i hH
  all_goals clear hH
  all_goals go_wp2
  all_goals refine bodyPost_ret (v := .tuple #[.agg #[.int .i64 x, .int .i64 y], .int .i64 e0]) (by simp [results, Try.results23, go_sem, QQ]) rfl ⟨rfl, ?_⟩
  all_goals exact (Q0.1.setCell (by simp; omega) _).setCell (by simp; omega) _

theorem sdiv_zero (al ah bl bh : Int) (w : World) (va : SV al ah) (vb : SV bl bh) (h1 : bl ≤ 0) (h2 : 0 ≤ bh) :
    Calls Try.prog 24 #[.agg #[.int .i64 al, .int .i64 ah], .agg #[.int .i64 bl, .int .i64 bh]] w fun e w' => e = .returned (.tuple #[.agg #[.int .i64 0, .int .i64 0], .int .i64 16]) ∧ Below w.heap.size w w' := by
  have hA := sB_t.2 va
  have hB := sB_t.2 vb
  clear va vb
  go_enter Try.func24, Try.ntmps24
  go_wp2_with (go_at_call 16; refine (svalid_any _ _ _).mono ?_; first | (rw [hA]; rintro e w1 ⟨rfl, hb⟩; have E := (env_three w al ah bl bh 0 0 23 23 23).on hb; have C := E.cells; simp only [BC] at C; clear hb) | (rw [hB]; rintro e w2 ⟨rfl, hb⟩; replace E := E.on hb; replace C := E.cells; simp only [BC] at C; clear hb))
  refine bodyPost_ret (v := .tuple #[.agg #[.int .i64 0, .int .i64 0], .int .i64 16]) (by simp [results, Try.results24, go_sem, C]) rfl ⟨rfl, ?_⟩
  exact (E.1.setCell (by simp; omega) _).setCell (by simp; omega) _

set_option maxHeartbeats 4000000 in
theorem sdiv_ok (al ah bl bh : Int) (w : World) (va : SV al ah) (vb : SV bl bh) (hs : 0 < bl ∨ bh < 0) {x y e0 : Int} (hr : divS al ah bl bh = (x, y, e0)) :
    Calls Try.prog 24 #[.agg #[.int .i64 al, .int .i64 ah], .agg #[.int .i64 bl, .int .i64 bh]] w fun e w' => e = .returned (.tuple #[.agg #[.int .i64 x, .int .i64 y], .int .i64 e0]) ∧ Below w.heap.size w w' := by
  have hA := sB_t.2 va
  have hB := sB_t.2 vb
  have hC := fun W => corners_div al ah bl bh W va vb (by obtain ⟨b1, _, _⟩ := vb; omega) (by obtain ⟨b1, _, _⟩ := vb; omega)
  unfold divS mn4 mx4 at hr
  generalize sLo al 1 bl = x0 at *
  generalize sHi al 1 bl = y0 at *
  generalize sLo al 1 bh = x1 at *
  generalize sHi al 1 bh = y1 at *
  generalize sLo ah 1 bl = x2 at *
  generalize sHi ah 1 bl = y2 at *
  generalize sLo ah 1 bh = x3 at *
  generalize sHi ah 1 bh = y3 at *
  have hM := fun W g c0 c1 h => around3 x0 y0 x1 y1 x2 y2 x3 y3 c0 c1 W g h
  generalize mn (mn (mn x0 x1) x2) x3 = m at *
  generalize mx (mx (mx y0 y1) y2) y3 = M at *
  have hF := fun w => sfit_any m M w hr
  have vbb := vb.1
  clear hr va vb
  rcases hs with hs | hs
  · have b1 : ¬ bl ≤ 0 := by omega
    go_enter Try.func24, Try.ntmps24
    go_wp2_with (first | (go_at_call 16; refine (svalid_any _ _ _).mono ?_; first | (rw [hA]; rintro e w1 ⟨rfl, hb⟩; have E := (env_three w al ah bl bh 0 0 23 23 23).on hb; have C := E.cells; simp only [BC] at C; clear hb) | (rw [hB]; rintro e w2 ⟨rfl, hb⟩; replace E := E.on hb; replace C := E.cells; simp only [BC] at C; clear hb)) | (go_at_call 50; (with_reducible refine (hC _).mono ?_); rintro e w3 ⟨rfl, hb⟩; replace E := E.on hb; replace C := E.cells; simp only [BC] at C; clear hb))
    have N := non_start E #[.int .i64 x0, .int .i64 y0, .int .i64 x1, .int .i64 y1, .int .i64 x2, .int .i64 y2, .int .i64 x3, .int .i64 y3]
    clear E C
    generalize w3.heap.size = g at *
    obtain ⟨W, hW⟩ : ∃ W, W = w3.alloc (.cells #[.int .i64 x0, .int .i64 y0, .int .i64 x1, .int .i64 y1, .int .i64 x2, .int .i64 y2, .int .i64 x3, .int .i64 y3] 63) := ⟨_, rfl⟩
    rw [← hW] at N ⊢
    clear hW
    go_region_held3 (fun w' => w'.cell? ⟨g, 0, none⟩ = some (.int .i64 x0) ∧ w'.cell? ⟨g, 1, none⟩ = some (.int .i64 y0) ∧ Non w w' g #[.int .i64 x0, .int .i64 y0, .int .i64 x1, .int .i64 y1, .int .i64 x2, .int .i64 y2, .int .i64 x3, .int .i64 y3])
      (first | with_reducible exact Non.two N.drew | with_reducible exact Non.two (Non.next (by go_split_ands; assumption) hb) | with_reducible exact Non.two (Non.set2 Q0 _ _) | go_keep)
      (first | (go_at_call 46; (with_reducible refine (hM _ _ _ _ (Non.has (w0 := w) (by go_split_ands; assumption))).mono ?_); rintro e w4 ⟨rfl, hb⟩) | (go_at_call 45; (with_reducible refine (hF _).mono ?_); rintro e w5 ⟨rfl, hb⟩; have Q0 : Non w w5 g #[.int .i64 x0, .int .i64 y0, .int .i64 x1, .int .i64 y1, .int .i64 x2, .int .i64 y2, .int .i64 x3, .int .i64 y3] := (by with_reducible exact Non.next (by go_split_ands; assumption) hb); obtain ⟨c, d, QQ⟩ := Non.kept Q0))
    all_goals rename_i hH
    all_goals clear hH
    all_goals go_wp2
    all_goals refine bodyPost_ret (v := .tuple #[.agg #[.int .i64 x, .int .i64 y], .int .i64 e0]) (by simp [results, Try.results24, go_sem, QQ]) rfl ⟨rfl, ?_⟩
    all_goals exact (Q0.1.setCell (by simp; omega) _).setCell (by simp; omega) _
  · have b1 : bl ≤ 0 := by omega
    have b2 : ¬ 0 ≤ bh := by omega
    go_enter Try.func24, Try.ntmps24
    go_wp2_with (first | (go_at_call 16; refine (svalid_any _ _ _).mono ?_; first | (rw [hA]; rintro e w1 ⟨rfl, hb⟩; have E := (env_three w al ah bl bh 0 0 23 23 23).on hb; have C := E.cells; simp only [BC] at C; clear hb) | (rw [hB]; rintro e w2 ⟨rfl, hb⟩; replace E := E.on hb; replace C := E.cells; simp only [BC] at C; clear hb)) | (go_at_call 50; (with_reducible refine (hC _).mono ?_); rintro e w3 ⟨rfl, hb⟩; replace E := E.on hb; replace C := E.cells; simp only [BC] at C; clear hb))
    have N := non_start E #[.int .i64 x0, .int .i64 y0, .int .i64 x1, .int .i64 y1, .int .i64 x2, .int .i64 y2, .int .i64 x3, .int .i64 y3]
    clear E C
    generalize w3.heap.size = g at *
    obtain ⟨W, hW⟩ : ∃ W, W = w3.alloc (.cells #[.int .i64 x0, .int .i64 y0, .int .i64 x1, .int .i64 y1, .int .i64 x2, .int .i64 y2, .int .i64 x3, .int .i64 y3] 63) := ⟨_, rfl⟩
    rw [← hW] at N ⊢
    clear hW
    go_region_held3 (fun w' => w'.cell? ⟨g, 0, none⟩ = some (.int .i64 x0) ∧ w'.cell? ⟨g, 1, none⟩ = some (.int .i64 y0) ∧ Non w w' g #[.int .i64 x0, .int .i64 y0, .int .i64 x1, .int .i64 y1, .int .i64 x2, .int .i64 y2, .int .i64 x3, .int .i64 y3])
      (first | with_reducible exact Non.two N.drew | with_reducible exact Non.two (Non.next (by go_split_ands; assumption) hb) | with_reducible exact Non.two (Non.set2 Q0 _ _) | go_keep)
      (first | (go_at_call 46; (with_reducible refine (hM _ _ _ _ (Non.has (w0 := w) (by go_split_ands; assumption))).mono ?_); rintro e w4 ⟨rfl, hb⟩) | (go_at_call 45; (with_reducible refine (hF _).mono ?_); rintro e w5 ⟨rfl, hb⟩; have Q0 : Non w w5 g #[.int .i64 x0, .int .i64 y0, .int .i64 x1, .int .i64 y1, .int .i64 x2, .int .i64 y2, .int .i64 x3, .int .i64 y3] := (by with_reducible exact Non.next (by go_split_ands; assumption) hb); obtain ⟨c, d, QQ⟩ := Non.kept Q0))
    all_goals rename_i hH
    all_goals clear hH
    all_goals go_wp2
    all_goals refine bodyPost_ret (v := .tuple #[.agg #[.int .i64 x, .int .i64 y], .int .i64 e0]) (by simp [results, Try.results24, go_sem, QQ]) rfl ⟨rfl, ?_⟩
    all_goals exact (Q0.1.setCell (by simp; omega) _).setCell (by simp; omega) _

end Go.Proofs.Ytplepbaafamjfaa
