/- The contract of Times. -/
import Derived.Test.YtplepbaafamjfaaV5
import Derived.Test.YtplepbaafamjfaaV6
namespace Go.Proofs.Ytplepbaafamjfaa
open Go.ChangeShapes Go.WideShapes Go.ChangeAt Go.RowKit
set_option linter.unusedVariables false
set_option linter.unusedSimpArgs false

def inR (n : Int) : Bool := decide (-1152921504606846976 ≤ n) && decide (n ≤ 1152921504606846976)
def timesR (al ah num den : Int) : Int × Int × Int := if sB al ah then (if den = 0 then (0, 0, 16) else if -1152921504606846976 ≤ num ∧ num ≤ 1152921504606846976 ∧ -1152921504606846976 ≤ den ∧ den ≤ 1152921504606846976 then timesS al ah num den else (0, 0, 2)) else (0, 0, 1)

theorem stimes_bad (al ah num den : Int) (w : World) (hv : sB al ah = false) :
    Calls Try.prog 27 #[.agg #[.int .i64 al, .int .i64 ah], .int .i64 num, .int .i64 den] w fun e w' => e = .returned (.tuple #[.agg #[.int .i64 0, .int .i64 0], .int .i64 1]) ∧ Below w.heap.size w w' := by
  go_enter Try.func27, Try.ntmps27
  go_wp2_with (go_at_call 16; refine (svalid_any _ _ _).mono ?_; rw [hv]; rintro e w1 ⟨rfl, hb⟩; have E := (env_two w al ah 0 0 23 23).on hb; have C := E.cells; simp only [BC] at C; clear hb)
  refine bodyPost_ret (v := .tuple #[.agg #[.int .i64 0, .int .i64 0], .int .i64 1]) (by simp [results, Try.results27, go_sem, C]) rfl ⟨rfl, ?_⟩
  exact (E.1.setCell (by simp) _).setCell (by simp) _
theorem stimes_zero (al ah num : Int) (w : World) (hv : sB al ah = true) :
    Calls Try.prog 27 #[.agg #[.int .i64 al, .int .i64 ah], .int .i64 num, .int .i64 0] w fun e w' => e = .returned (.tuple #[.agg #[.int .i64 0, .int .i64 0], .int .i64 16]) ∧ Below w.heap.size w w' := by
  go_enter Try.func27, Try.ntmps27
  go_wp2_with (go_at_call 16; refine (svalid_any _ _ _).mono ?_; rw [hv]; rintro e w1 ⟨rfl, hb⟩; have E := (env_two w al ah 0 0 23 23).on hb; have C := E.cells; simp only [BC] at C; clear hb)
  refine bodyPost_ret (v := .tuple #[.agg #[.int .i64 0, .int .i64 0], .int .i64 16]) (by simp [results, Try.results27, go_sem, C]) rfl ⟨rfl, ?_⟩
  exact (E.1.setCell (by simp) _).setCell (by simp) _
theorem stimes_far (al ah num den : Int) (w : World) (hv : sB al ah = true) (h0 : (den == 0) = false) (hr : num < -1152921504606846976 ∨ 1152921504606846976 < num ∨ den < -1152921504606846976 ∨ 1152921504606846976 < den) :
    Calls Try.prog 27 #[.agg #[.int .i64 al, .int .i64 ah], .int .i64 num, .int .i64 den] w fun e w' => e = .returned (.tuple #[.agg #[.int .i64 0, .int .i64 0], .int .i64 2]) ∧ Below w.heap.size w w' := by
  by_cases c1 : num < -1152921504606846976
  · clear hr
    go_enter Try.func27, Try.ntmps27
    go_wp2_with (go_at_call 16; refine (svalid_any _ _ _).mono ?_; rw [hv]; rintro e w1 ⟨rfl, hb⟩; have E := (env_two w al ah 0 0 23 23).on hb; have C := E.cells; simp only [BC] at C; clear hb)
    refine bodyPost_ret (v := .tuple #[.agg #[.int .i64 0, .int .i64 0], .int .i64 2]) (by simp [results, Try.results27, go_sem, C]) rfl ⟨rfl, ?_⟩
    exact (E.1.setCell (by simp) _).setCell (by simp) _
  · by_cases c2 : 1152921504606846976 < num
    · clear hr
      go_enter Try.func27, Try.ntmps27
      go_wp2_with (go_at_call 16; refine (svalid_any _ _ _).mono ?_; rw [hv]; rintro e w1 ⟨rfl, hb⟩; have E := (env_two w al ah 0 0 23 23).on hb; have C := E.cells; simp only [BC] at C; clear hb)
      refine bodyPost_ret (v := .tuple #[.agg #[.int .i64 0, .int .i64 0], .int .i64 2]) (by simp [results, Try.results27, go_sem, C]) rfl ⟨rfl, ?_⟩
      exact (E.1.setCell (by simp) _).setCell (by simp) _
    · by_cases c3 : den < -1152921504606846976
      · clear hr
        go_enter Try.func27, Try.ntmps27
        go_wp2_with (go_at_call 16; refine (svalid_any _ _ _).mono ?_; rw [hv]; rintro e w1 ⟨rfl, hb⟩; have E := (env_two w al ah 0 0 23 23).on hb; have C := E.cells; simp only [BC] at C; clear hb)
        refine bodyPost_ret (v := .tuple #[.agg #[.int .i64 0, .int .i64 0], .int .i64 2]) (by simp [results, Try.results27, go_sem, C]) rfl ⟨rfl, ?_⟩
        exact (E.1.setCell (by simp) _).setCell (by simp) _
      · have c4 : 1152921504606846976 < den := by omega
        clear hr
        go_enter Try.func27, Try.ntmps27
        go_wp2_with (go_at_call 16; refine (svalid_any _ _ _).mono ?_; rw [hv]; rintro e w1 ⟨rfl, hb⟩; have E := (env_two w al ah 0 0 23 23).on hb; have C := E.cells; simp only [BC] at C; clear hb)
        refine bodyPost_ret (v := .tuple #[.agg #[.int .i64 0, .int .i64 0], .int .i64 2]) (by simp [results, Try.results27, go_sem, C]) rfl ⟨rfl, ?_⟩
        exact (E.1.setCell (by simp) _).setCell (by simp) _

/-- What the last statement of Times keeps. -/
def Tim (w0 w : World) (al ah : Int) : Prop := Below w0.heap.size w0 w ∧ Has w w0.heap.size 23 #[.int .i64 al, .int .i64 ah] ∧ ∃ c d : Value, Has w (w0.heap.size + 1) 23 #[c, d]
theorem Tim.next {w0 w w1 : World} {al ah : Int} (h : Tim w0 w al ah) (hb : Below w.heap.size w w1) : Tim w0 w1 al ah := by
  obtain ⟨h1, h2, c, d, h3⟩ := h
  exact ⟨belows h1 hb, h2.on hb, c, d, h3.on hb⟩
theorem Tim.drew {w0 w : World} {al ah : Int} (h : Tim w0 w al ah) : Tim w0 w.drew al ah := h.next (Dr.below' ⟨1, rfl⟩)
theorem Tim.al1 {w0 w : World} {al ah : Int} (h : Tim w0 w al ah) (o : Obj) : Tim w0 (w.alloc o) al ah := h.next (Go.Proofs.Ytplepbaafamjfaa.al1 _ _)
theorem Tim.al2 {w0 w : World} {al ah : Int} (h : Tim w0 w al ah) (o : Obj) : Tim w0 (w.alloc o).drew al ah := (h.al1 o).drew
theorem Tim.set2 {w0 w : World} {al ah : Int} (h : Tim w0 w al ah) (x y : Value) : Tim w0 ((w.setCell ⟨w0.heap.size + 1, 0, none⟩ x).setCell ⟨w0.heap.size + 1, 1, none⟩ y) al ah := by
  obtain ⟨h1, h2, c, d, h3⟩ := h
  exact ⟨(h1.setCell (by simp) _).setCell (by simp) _, (h2.apart_ (by simp) _).apart_ (by simp) _, x, y, (h3.put_ 0 x).put_ 1 y⟩
theorem Tim.kept {w0 w : World} {al ah : Int} (h : Tim w0 w al ah) : ∃ c d : Value, w.cell? ⟨w0.heap.size + 1, 0, none⟩ = some c ∧ w.cell? ⟨w0.heap.size + 1, 1, none⟩ = some d ∧ w.frozen? ⟨w0.heap.size + 1, 0, none⟩ = false ∧ w.frozen? ⟨w0.heap.size + 1, 1, none⟩ = false := by
  obtain ⟨h1, h2, c, d, h3⟩ := h
  exact ⟨c, d, h3.read 0, h3.read 1, h3.open_ 0, h3.open_ 1⟩
theorem Tim.two {w0 w : World} {al ah : Int} (h : Tim w0 w al ah) : w.cell? ⟨w0.heap.size, 0, none⟩ = some (.int .i64 al) ∧ w.cell? ⟨w0.heap.size, 1, none⟩ = some (.int .i64 ah) ∧ Tim w0 w al ah := ⟨h.2.1.read 0, h.2.1.read 1, h⟩
theorem tim_start {w0 w : World} {al ah c d : Int} (E : Env w0 w [⟨w0.heap.size + 1, 23, c, d⟩, ⟨w0.heap.size, 23, al, ah⟩]) : Tim w0 w al ah := ⟨E.1, E.2.2.1, _, _, E.2.1⟩

set_option maxHeartbeats 4000000 in
theorem stimes_ok (al ah num den : Int) (w : World) (va : SV al ah) (h0 : ¬ den = 0) (m1 : -1152921504606846976 ≤ num) (m2 : num ≤ 1152921504606846976) (d1 : -1152921504606846976 ≤ den) (d2 : den ≤ 1152921504606846976) {x y e0 : Int} (hr : timesS al ah num den = (x, y, e0)) :
    Calls Try.prog 27 #[.agg #[.int .i64 al, .int .i64 ah], .int .i64 num, .int .i64 den] w fun e w' => e = .returned (.tuple #[.agg #[.int .i64 x, .int .i64 y], .int .i64 e0]) ∧ Below w.heap.size w w' := by
  have hA := sB_t.2 va
  obtain ⟨a1, a2, a3⟩ := va
  have h1 := fun W => scaled_any al num den W (by omega) (by omega) m1 m2 d1 d2 h0
  have h2 := fun W => scaled_any ah num den W (by omega) (by omega) m1 m2 d1 d2 h0
  unfold timesS at hr
  generalize sLo al num den = x0 at *
  generalize sHi al num den = y0 at *
  generalize sLo ah num den = x1 at *
  generalize sHi ah num den = y1 at *
  have hM := fun W g h => around1 x0 y0 x1 y1 W g h
  generalize mn x0 x1 = m at *
  generalize mx y0 y1 = M at *
  have hF := fun w => sfit_any m M w hr
  have hz : (den == 0) = false := by simp [h0]
  clear hr h0
  go_enter Try.func27, Try.ntmps27
  go_wp2_with (go_at_call 16; refine (svalid_any _ _ _).mono ?_; rw [hA]; rintro e w1 ⟨rfl, hb⟩; have E := (env_two w al ah 0 0 23 23).on hb; have C := E.cells; simp only [BC] at C; clear hb)
  have N := tim_start E
  clear E C
  go_region_held3 (fun w' => w'.cell? ⟨w.heap.size, 0, none⟩ = some (.int .i64 al) ∧ w'.cell? ⟨w.heap.size, 1, none⟩ = some (.int .i64 ah) ∧ Tim w w' al ah)
    (first | with_reducible exact Tim.two N.drew | with_reducible exact Tim.two (Tim.next (by go_split_ands; assumption) hb) | with_reducible exact Tim.two (Tim.al1 (by go_split_ands; assumption) _) | with_reducible exact Tim.two (Tim.al2 (by go_split_ands; assumption) _) | with_reducible exact Tim.two (Tim.set2 Q0 _ _) | go_keep)
    (first | (go_at_call 52; first | ((with_reducible refine (h1 _).mono ?_); rintro e w2 ⟨rfl, hb⟩) | ((with_reducible refine (h2 _).mono ?_); rintro e w3 ⟨rfl, hb⟩)) | (go_at_call 46; first | ((with_reducible refine (hM _ _ (Has.new_ _ _ _)).mono ?_); rintro e w4 ⟨rfl, hb⟩) | ((with_reducible refine (hM _ _ (Has.drew_ (Has.new_ _ _ _))).mono ?_); rintro e w4 ⟨rfl, hb⟩)) | (go_at_call 45; (with_reducible refine (hF _).mono ?_); rintro e w5 ⟨rfl, hb⟩; have Q0 : Tim w w5 al ah := (by with_reducible exact Tim.next (by go_split_ands; assumption) hb); obtain ⟨c, d, QQ⟩ := Tim.kept Q0))
  all_goals rename_i hH
  all_goals clear hH
  all_goals go_wp2
  all_goals refine bodyPost_ret (v := .tuple #[.agg #[.int .i64 x, .int .i64 y], .int .i64 e0]) (by simp [results, Try.results27, go_sem, QQ]) rfl ⟨rfl, ?_⟩
  all_goals exact (Q0.1.setCell (by simp) _).setCell (by simp) _
end Go.Proofs.Ytplepbaafamjfaa
