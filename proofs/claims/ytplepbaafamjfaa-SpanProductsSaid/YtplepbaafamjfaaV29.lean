/- The reference's Div. -/
import Derived.Test.YtplepbaafamjfaaV27
namespace Go.Proofs.Ytplepbaafamjfaa
open Go.ChangeShapes Go.WideShapes Go.ChangeAt Go.RowKit
set_option linter.unusedVariables false
set_option linter.unusedSimpArgs false

theorem least4 (a b c d : Int) (W : World) (g : Nat) (h : Has W g 3 #[.int .i64 a, .int .i64 b, .int .i64 c, .int .i64 d]) :
    Calls Try.prog 49 #[.slice (some ⟨g, 0, none⟩) 4 4] W fun e w' => e = .returned (.int .i64 (mn4 a b c d)) ∧ W = w' :=
  least_any [a, b, c, d] g 0 4 4 W (by omega) (by omega) rfl (by
    intro k hk
    have hk' : k < 4 := by simpa using hk
    have : k = 0 ∨ k = 1 ∨ k = 2 ∨ k = 3 := by omega
    rcases this with rfl | rfl | rfl | rfl
    · exact h.read 0
    · exact h.read 1
    · exact h.read 2
    · exact h.read 3)

theorem greatest4 (a b c d : Int) (W : World) (g : Nat) (h : Has W g 3 #[.int .i64 a, .int .i64 b, .int .i64 c, .int .i64 d]) :
    Calls Try.prog 48 #[.slice (some ⟨g, 0, none⟩) 4 4] W fun e w' => e = .returned (.int .i64 (mx4 a b c d)) ∧ W = w' :=
  greatest_any [a, b, c, d] g 0 4 4 W (by omega) (by omega) rfl (by
    intro k hk
    have hk' : k < 4 := by simpa using hk
    have : k = 0 ∨ k = 1 ∨ k = 2 ∨ k = 3 := by omega
    rcases this with rfl | rfl | rfl | rfl
    · exact h.read 0
    · exact h.read 1
    · exact h.read 2
    · exact h.read 3)

/-- What the reference's Div keeps in its last statement. -/
def Dvk (w0 w : World) (al ah bl bh : Int) : Prop := Env w0 w [⟨w0.heap.size + 1, 23, bl, bh⟩, ⟨w0.heap.size, 23, al, ah⟩] ∧ ∃ c d : Value, Has w (w0.heap.size + 1 + 1) 23 #[c, d]
theorem Dvk.next {w0 w w1 : World} {al ah bl bh : Int} (h : Dvk w0 w al ah bl bh) (hb : Below w.heap.size w w1) : Dvk w0 w1 al ah bl bh := by
  obtain ⟨h1, c, d, h2⟩ := h
  exact ⟨h1.on hb, c, d, h2.on hb⟩
theorem Dvk.drew {w0 w : World} {al ah bl bh : Int} (h : Dvk w0 w al ah bl bh) : Dvk w0 w.drew al ah bl bh := h.next (Dr.below' ⟨1, rfl⟩)
theorem Dvk.more {w0 w : World} {al ah bl bh : Int} (h : Dvk w0 w al ah bl bh) (o : Obj) : Dvk w0 (w.alloc o) al ah bl bh := h.next (al1 _ _)
theorem Dvk.set2 {w0 w : World} {al ah bl bh : Int} (h : Dvk w0 w al ah bl bh) (x y : Value) : Dvk w0 ((w.setCell ⟨w0.heap.size + 1 + 1, 0, none⟩ x).setCell ⟨w0.heap.size + 1 + 1, 1, none⟩ y) al ah bl bh := by
  obtain ⟨⟨h1, h2, h3, -⟩, c, d, h4⟩ := h
  exact ⟨⟨(h1.setCell (by simp; omega) _).setCell (by simp; omega) _, (h2.apart_ (by simp) _).apart_ (by simp) _, (h3.apart_ (by simp; omega) _).apart_ (by simp; omega) _, trivial⟩, x, y, (h4.put_ 0 x).put_ 1 y⟩
theorem Dvk.four {w0 w : World} {al ah bl bh : Int} (h : Dvk w0 w al ah bl bh) : w.cell? ⟨w0.heap.size, 0, none⟩ = some (.int .i64 al) ∧ w.cell? ⟨w0.heap.size, 1, none⟩ = some (.int .i64 ah) ∧ w.cell? ⟨w0.heap.size + 1, 0, none⟩ = some (.int .i64 bl) ∧ w.cell? ⟨w0.heap.size + 1, 1, none⟩ = some (.int .i64 bh) ∧ Dvk w0 w al ah bl bh :=
  ⟨h.1.cells.2.1.1, h.1.cells.2.1.2.1, h.1.cells.1.1, h.1.cells.1.2.1, h⟩
theorem Dvk.kept {w0 w : World} {al ah bl bh : Int} (h : Dvk w0 w al ah bl bh) : ∃ c d : Value, w.cell? ⟨w0.heap.size + 1 + 1, 0, none⟩ = some c ∧ w.cell? ⟨w0.heap.size + 1 + 1, 1, none⟩ = some d ∧ w.frozen? ⟨w0.heap.size + 1 + 1, 0, none⟩ = false ∧ w.frozen? ⟨w0.heap.size + 1 + 1, 1, none⟩ = false := by
  obtain ⟨h1, c, d, h2⟩ := h
  exact ⟨c, d, h2.read 0, h2.read 1, h2.open_ 0, h2.open_ 1⟩
theorem dvk_start {w0 w : World} {al ah bl bh c d : Int} (E : Env w0 w [⟨w0.heap.size + 1 + 1, 23, c, d⟩, ⟨w0.heap.size + 1, 23, bl, bh⟩, ⟨w0.heap.size, 23, al, ah⟩]) : Dvk w0 w al ah bl bh := ⟨⟨E.1, E.2.2⟩, _, _, E.2.1⟩

theorem rdiv_zero (al ah bl bh : Int) (w : World) (h : hasB bl bh 0 = true) :
    Calls Try.prog 26 #[.agg #[.int .i64 al, .int .i64 ah], .agg #[.int .i64 bl, .int .i64 bh]] w fun e w' => e = .returned (.tuple #[.agg #[.int .i64 0, .int .i64 0], .int .i64 16]) ∧ Below w.heap.size w w' := by
  have f := fun W => hHas _ _ _ _ h W
  go_enter Try.func26, Try.ntmps26
  go_wp2_with (go_at_call 35; (with_reducible refine (f _).mono ?_); rintro e w1 ⟨rfl, hb⟩; have E := (env_three w al ah bl bh 0 0 23 23 23).on hb; have C := E.cells; simp only [BC] at C; clear hb)
  refine bodyPost_ret (v := .tuple #[.agg #[.int .i64 0, .int .i64 0], .int .i64 16]) (by simp [results, Try.results26, go_sem, C]) rfl ⟨rfl, ?_⟩
  exact (E.1.setCell (by simp; omega) _).setCell (by simp; omega) _

set_option maxRecDepth 100000 in
set_option maxHeartbeats 8000000 in
theorem rdiv_ok (al ah bl bh f0 f1 f2 f3 c0 c1 c2 c3 : Int) (w : World) (h : hasB bl bh 0 = false)
    (q0 : ∀ W, Calls Try.prog 37 #[.int .i64 al, .int .i64 bl] W fun e w' => e = .returned (.int .i64 f0) ∧ Below W.heap.size W w') (r0 : ∀ W, Calls Try.prog 38 #[.int .i64 al, .int .i64 bl] W fun e w' => e = .returned (.int .i64 c0) ∧ Below W.heap.size W w')
    (q1 : ∀ W, Calls Try.prog 37 #[.int .i64 al, .int .i64 bh] W fun e w' => e = .returned (.int .i64 f1) ∧ Below W.heap.size W w') (r1 : ∀ W, Calls Try.prog 38 #[.int .i64 al, .int .i64 bh] W fun e w' => e = .returned (.int .i64 c1) ∧ Below W.heap.size W w')
    (q2 : ∀ W, Calls Try.prog 37 #[.int .i64 ah, .int .i64 bl] W fun e w' => e = .returned (.int .i64 f2) ∧ Below W.heap.size W w') (r2 : ∀ W, Calls Try.prog 38 #[.int .i64 ah, .int .i64 bl] W fun e w' => e = .returned (.int .i64 c2) ∧ Below W.heap.size W w')
    (q3 : ∀ W, Calls Try.prog 37 #[.int .i64 ah, .int .i64 bh] W fun e w' => e = .returned (.int .i64 f3) ∧ Below W.heap.size W w') (r3 : ∀ W, Calls Try.prog 38 #[.int .i64 ah, .int .i64 bh] W fun e w' => e = .returned (.int .i64 c3) ∧ Below W.heap.size W w')
    {x y e0 : Int} (hr : fitS (mn4 f0 f1 f2 f3) (mx4 c0 c1 c2 c3) = (x, y, e0)) :
    Calls Try.prog 26 #[.agg #[.int .i64 al, .int .i64 ah], .agg #[.int .i64 bl, .int .i64 bh]] w fun e w' => e = .returned (.tuple #[.agg #[.int .i64 x, .int .i64 y], .int .i64 e0]) ∧ Below w.heap.size w w' := by
  have f := fun W => hHas _ _ _ _ h W
  have hl := fun W g h => least4 f0 f1 f2 f3 W g h
  have hg := fun W g h => greatest4 c0 c1 c2 c3 W g h
  generalize mn4 f0 f1 f2 f3 = m at *
  generalize mx4 c0 c1 c2 c3 = M at *
  have hF := fun W => rfits_any m M W hr
  clear hr h
  go_enter Try.func26, Try.ntmps26
  go_wp2_with (go_at_call 35; (with_reducible refine (f _).mono ?_); rintro e w1 ⟨rfl, hb⟩; have E := (env_three w al ah bl bh 0 0 23 23 23).on hb; have C := E.cells; simp only [BC] at C; clear hb)
  have N := dvk_start E
  clear E C
  go_region_held3 (fun w' => w'.cell? ⟨w.heap.size, 0, none⟩ = some (.int .i64 al) ∧ w'.cell? ⟨w.heap.size, 1, none⟩ = some (.int .i64 ah) ∧ w'.cell? ⟨w.heap.size + 1, 0, none⟩ = some (.int .i64 bl) ∧ w'.cell? ⟨w.heap.size + 1, 1, none⟩ = some (.int .i64 bh) ∧ Dvk w w' al ah bl bh)
    (first | with_reducible exact Dvk.four (Dvk.set2 Q0 _ _) | with_reducible exact Dvk.four N.drew | with_reducible exact Dvk.four (Dvk.next (by go_split_ands; assumption) hb) | with_reducible exact Dvk.four (by go_split_ands; assumption) | with_reducible exact Dvk.four (Dvk.more (by go_split_ands; assumption) _))
    (first | (go_at_call 37; first | ((with_reducible refine (q0 _).mono ?_); rintro e w2 ⟨rfl, hb⟩) | ((with_reducible refine (q1 _).mono ?_); rintro e w2 ⟨rfl, hb⟩) | ((with_reducible refine (q2 _).mono ?_); rintro e w2 ⟨rfl, hb⟩) | ((with_reducible refine (q3 _).mono ?_); rintro e w2 ⟨rfl, hb⟩)) | (go_at_call 38; first | ((with_reducible refine (r0 _).mono ?_); rintro e w2 ⟨rfl, hb⟩) | ((with_reducible refine (r1 _).mono ?_); rintro e w2 ⟨rfl, hb⟩) | ((with_reducible refine (r2 _).mono ?_); rintro e w2 ⟨rfl, hb⟩) | ((with_reducible refine (r3 _).mono ?_); rintro e w2 ⟨rfl, hb⟩)) | (go_at_call 49; (with_reducible refine (hl _ _ (Has.new_ _ _ _)).mono ?_); rintro e w3 ⟨rfl, rfl⟩) | (go_at_call 48; (with_reducible refine (hg _ _ (Has.new_ _ _ _)).mono ?_); rintro e w3 ⟨rfl, rfl⟩) | (go_at_call 47; (with_reducible refine (hF _).mono ?_); rintro e w5 ⟨rfl, hb⟩; have Q0 : Dvk w w5 al ah bl bh := (by with_reducible exact Dvk.next (by go_split_ands; assumption) hb); obtain ⟨c, d, QQ⟩ := Dvk.kept Q0))
  all_goals rename_i hH
  all_goals clear hH
  all_goals go_wp2
  all_goals refine bodyPost_ret (v := .tuple #[.agg #[.int .i64 x, .int .i64 y], .int .i64 e0]) (by simp [results, Try.results26, go_sem, QQ]) rfl ⟨rfl, ?_⟩
  all_goals exact (Q0.1.1.setCell (by simp; omega) _).setCell (by simp; omega) _
theorem rdiv_p (al ah bl bh : Int) (w : World) (va : SV al ah) (vb : SV bl bh) : Calls Try.prog 26 #[.agg #[.int .i64 al, .int .i64 ah], .agg #[.int .i64 bl, .int .i64 bh]] w (Tup w (divR al ah bl bh)) := by
  by_cases c : bl ≤ 0 ∧ 0 ≤ bh
  · exact tup_of (rdiv_zero al ah bl bh w (has_t c.1 c.2)) (by unfold divR; rw [ok2_of va vb, if_pos rfl, if_pos c])
  · have e : divR al ah bl bh = divS al ah bl bh := by unfold divR; rw [ok2_of va vb, if_pos rfl, if_neg c]
    have o := divS_ok va vb.1 (by omega)
    have nh : hasB bl bh 0 = false := by unfold hasB; simp; omega
    rw [e]
    obtain ⟨a1, a2, a3⟩ := va
    obtain ⟨b1, b2, b3⟩ := vb
    have F := fun x y (h1 : -1152921504606846976 ≤ x) (h2 : x ≤ 1152921504606846976) (h3 : -1152921504606846976 ≤ y) (h4 : y ≤ 1152921504606846976) (h5 : y ≠ 0) W => floor_any x y W h1 h2 h3 h4 h5
    have G := fun x y (h1 : -1152921504606846976 ≤ x) (h2 : x ≤ 1152921504606846976) (h3 : -1152921504606846976 ≤ y) (h4 : y ≤ 1152921504606846976) (h5 : y ≠ 0) W => ceil_any x y W h1 h2 h3 h4 h5
    have hf : fitS (mn4 (fl al bl) (fl al bh) (fl ah bl) (fl ah bh)) (mx4 (ce al bl) (ce al bh) (ce ah bl) (ce ah bh)) = divS al ah bl bh := by
      unfold divS
      rw [(d_fl (x := al) (y := bl) (by omega) (by omega) (by omega)).1, (d_fl (x := al) (y := bh) (by omega) (by omega) (by omega)).1, (d_fl (x := ah) (y := bl) (by omega) (by omega) (by omega)).1, (d_fl (x := ah) (y := bh) (by omega) (by omega) (by omega)).1,
        (d_fl (x := al) (y := bl) (by omega) (by omega) (by omega)).2, (d_fl (x := al) (y := bh) (by omega) (by omega) (by omega)).2, (d_fl (x := ah) (y := bl) (by omega) (by omega) (by omega)).2, (d_fl (x := ah) (y := bh) (by omega) (by omega) (by omega)).2]
    rw [← hf]
    exact tup_of (rdiv_ok al ah bl bh _ _ _ _ _ _ _ _ w nh (F al bl (by omega) (by omega) (by omega) (by omega) (by omega)) (G al bl (by omega) (by omega) (by omega) (by omega) (by omega)) (F al bh (by omega) (by omega) (by omega) (by omega) (by omega)) (G al bh (by omega) (by omega) (by omega) (by omega) (by omega)) (F ah bl (by omega) (by omega) (by omega) (by omega) (by omega)) (G ah bl (by omega) (by omega) (by omega) (by omega) (by omega)) (F ah bh (by omega) (by omega) (by omega) (by omega) (by omega)) (G ah bh (by omega) (by omega) (by omega) (by omega) (by omega)) (pr3 _)) rfl

end Go.Proofs.Ytplepbaafamjfaa
