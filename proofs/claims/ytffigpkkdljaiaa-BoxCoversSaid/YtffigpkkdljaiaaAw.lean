/- awake: the example of the chapter. -/
import Derived.Test.YtffigpkkdljaiaaBc
namespace Go.Proofs.Ytffigpkkdljaiaa
open Go.ChangeShapes Go.WideShapes Go.ChangeAt Go.RowKit
set_option linter.unusedVariables false
set_option linter.unusedSimpArgs false

theorem ex_ok : xA.ok = true ∧ xB.ok = true ∧ [xC, xD].all Bx.ok = true := by decide
theorem ex_gap : gapB xA xB = 4 ∧ sqB xA xB = 25 := by decide
theorem ex_near : nr xA xB 0 = (10, 13) ∧ nr xA xB 1 = (10, 14) ∧ nr xA xB 2 = (5, 5) := by decide
theorem gap_ex (w : World) : Calls Try.prog 11 #[.agg #[.int .i64 0, .int .i64 0, .int .i64 0, .int .i64 10, .int .i64 10, .int .i64 10], .agg #[.int .i64 13, .int .i64 14, .int .i64 5, .int .i64 20, .int .i64 20, .int .i64 20]] w fun E w' => E = .returned (.tuple #[.int .i64 4, .int .i64 0]) ∧ Below w.heap.size w w' := by
  have h := Gap_ok xA xB w ex_ok.1 ex_ok.2.1
  rw [ex_gap.1] at h; exact h
theorem square_ex (w : World) : Calls Try.prog 12 #[.agg #[.int .i64 0, .int .i64 0, .int .i64 0, .int .i64 10, .int .i64 10, .int .i64 10], .agg #[.int .i64 13, .int .i64 14, .int .i64 5, .int .i64 20, .int .i64 20, .int .i64 20]] w fun E w' => E = .returned (.tuple #[.int .i64 25, .int .i64 0]) ∧ Below w.heap.size w w' := by
  have h := Square_ok xA xB w ex_ok.1 ex_ok.2.1
  rw [ex_gap.2] at h; exact h
theorem near_ex (w : World) : Calls Try.prog 13 #[.agg #[.int .i64 0, .int .i64 0, .int .i64 0, .int .i64 10, .int .i64 10, .int .i64 10], .agg #[.int .i64 13, .int .i64 14, .int .i64 5, .int .i64 20, .int .i64 20, .int .i64 20]] w fun E w' => E = .returned (.tuple #[.agg #[.int .i64 10, .int .i64 10, .int .i64 5], .agg #[.int .i64 13, .int .i64 14, .int .i64 5], .int .i64 0]) ∧ Below w.heap.size w w' := by
  have h := Near_ok xA xB w ex_ok.1 ex_ok.2.1
  rw [ex_near.1, ex_near.2.1, ex_near.2.2] at h; exact h
theorem lit_sl {w : World} {g : Nat} (h : Has w g 25 #[.int .i64 0, .int .i64 0, .int .i64 0, .int .i64 4, .int .i64 10, .int .i64 10, .int .i64 4, .int .i64 0, .int .i64 0, .int .i64 11, .int .i64 10, .int .i64 10]) : Sl w (some ⟨g, 0, none⟩) [xC, xD] := by
  refine ⟨by simp, fun a e => ?_, by unfold maxLen; simp⟩
  cases e
  intro i hi
  have r := fun j => h.read j
  rcases (by simp at hi; omega : i = 0 ∨ i = 1) with rfl | rfl
  · exact ⟨r 0, r 1, r 2, r 3, r 4, r 5⟩
  · exact ⟨r 6, r 7, r 8, r 9, r 10, r 11⟩
theorem covers_ex (g : Nat) (w : World) (h : Has w g 25 #[.int .i64 0, .int .i64 0, .int .i64 0, .int .i64 4, .int .i64 10, .int .i64 10, .int .i64 4, .int .i64 0, .int .i64 0, .int .i64 11, .int .i64 10, .int .i64 10]) : Calls Try.prog 32 #[.slice (some ⟨g, 0, none⟩) 2 2, .agg #[.int .i64 0, .int .i64 0, .int .i64 0, .int .i64 10, .int .i64 10, .int .i64 10]] w fun E w' => E = .returned (.tuple #[.bool true, .int .i64 0]) ∧ Below w.heap.size w w' := by
  have h := Covers_ok (some ⟨g, 0, none⟩) [xC, xD] 2 xA w (lit_sl h) ex_ok.1 ex_ok.2.2 (by simp)
  rw [ex_cov] at h; exact h
theorem cells_ex {w2 W : World} {n : Nat} (h : Env w2 W [⟨n + 1, 23, #[.int .i64 13, .int .i64 14, .int .i64 5]⟩, ⟨n, 23, #[.int .i64 10, .int .i64 10, .int .i64 5]⟩, ⟨w2.heap.size + 1, 25, #[.int .i64 13, .int .i64 14, .int .i64 5, .int .i64 20, .int .i64 20, .int .i64 20]⟩, ⟨w2.heap.size, 25, #[.int .i64 0, .int .i64 0, .int .i64 0, .int .i64 10, .int .i64 10, .int .i64 10]⟩]) : W.cell? ⟨w2.heap.size, 0, none⟩ = some (.int .i64 0) ∧ W.cell? ⟨w2.heap.size, 1, none⟩ = some (.int .i64 0) ∧ W.cell? ⟨w2.heap.size, 2, none⟩ = some (.int .i64 0) ∧ W.cell? ⟨w2.heap.size, 3, none⟩ = some (.int .i64 10) ∧ W.cell? ⟨w2.heap.size, 4, none⟩ = some (.int .i64 10) ∧ W.cell? ⟨w2.heap.size, 5, none⟩ = some (.int .i64 10) ∧ Env w2 W [⟨n + 1, 23, #[.int .i64 13, .int .i64 14, .int .i64 5]⟩, ⟨n, 23, #[.int .i64 10, .int .i64 10, .int .i64 5]⟩, ⟨w2.heap.size + 1, 25, #[.int .i64 13, .int .i64 14, .int .i64 5, .int .i64 20, .int .i64 20, .int .i64 20]⟩, ⟨w2.heap.size, 25, #[.int .i64 0, .int .i64 0, .int .i64 0, .int .i64 10, .int .i64 10, .int .i64 10]⟩] := by
  have C := h.cells
  simp [BC, CF] at C
  simp [C, h]
set_option maxHeartbeats 8000000 in
set_option maxRecDepth 100000 in
theorem awake_any (w : World) : Calls Try.prog 10 #[] w fun E w' => E = .returned (.bool true) ∧ Below w.heap.size w w' := by
  have c1 := fun W => cube_any 0 0 0 10 10 10 W
  have c2 := fun W => cube_any 13 14 5 20 20 20 W
  have c3 := fun W => cube_any 0 0 0 4 10 10 W
  have c4 := fun W => cube_any 4 0 0 11 10 10 W
  have B0 := Below.refl w.heap.size w
  go_enter Try.func10, Try.ntmps10
  go_upto_region 2 with (go_at_call 37; first
      | ((with_reducible refine (c1 _).mono ?_); rintro X w1 ⟨rfl, hb⟩; replace B0 := belows B0 hb; clear hb)
      | ((with_reducible refine (c2 _).mono ?_); rintro X w2 ⟨rfl, hb⟩; replace B0 := belows B0 hb; clear hb))
  have E := ((Env.nil w2).add w2.heap.size 25 #[.int .i64 0, .int .i64 0, .int .i64 0, .int .i64 10, .int .i64 10, .int .i64 10] rfl).add (w2.heap.size + 1) 25 #[.int .i64 13, .int .i64 14, .int .i64 5, .int .i64 20, .int .i64 20, .int .i64 20] (by simp)
  have C := E.cells
  simp [BC, CF] at C
  go_upto_region 5 with (first
    | (go_at_call 11; (with_reducible refine (gap_ex _).mono ?_); rintro X w3 ⟨rfl, hb⟩; replace E := E.on hb; replace C := E.cells; simp [BC, CF] at C; clear hb)
    | (go_at_call 12; (with_reducible refine (square_ex _).mono ?_); rintro X w4 ⟨rfl, hb⟩; replace E := E.on hb; replace C := E.cells; simp [BC, CF] at C; clear hb)
    | (go_at_call 13; (with_reducible refine (near_ex _).mono ?_); rintro X w5 ⟨rfl, hb⟩; replace E := (((E.on hb).add w5.heap.size 23 #[.int .i64 10, .int .i64 10, .int .i64 5] rfl).add (w5.heap.size + 1) 23 #[.int .i64 13, .int .i64 14, .int .i64 5] (by simp)); replace C := E.cells; simp [BC, CF] at C; clear hb))
  go_region_held3 (fun W' => W'.cell? ⟨w2.heap.size, 0, none⟩ = some (.int .i64 0) ∧ W'.cell? ⟨w2.heap.size, 1, none⟩ = some (.int .i64 0) ∧ W'.cell? ⟨w2.heap.size, 2, none⟩ = some (.int .i64 0) ∧ W'.cell? ⟨w2.heap.size, 3, none⟩ = some (.int .i64 10) ∧ W'.cell? ⟨w2.heap.size, 4, none⟩ = some (.int .i64 10) ∧ W'.cell? ⟨w2.heap.size, 5, none⟩ = some (.int .i64 10) ∧ Env w2 W' [⟨w5.heap.size + 1, 23, #[.int .i64 13, .int .i64 14, .int .i64 5]⟩, ⟨w5.heap.size, 23, #[.int .i64 10, .int .i64 10, .int .i64 5]⟩, ⟨w2.heap.size + 1, 25, #[.int .i64 13, .int .i64 14, .int .i64 5, .int .i64 20, .int .i64 20, .int .i64 20]⟩, ⟨w2.heap.size, 25, #[.int .i64 0, .int .i64 0, .int .i64 0, .int .i64 10, .int .i64 10, .int .i64 10]⟩]) (first | exact cells_ex (by go_split_ands; assumption) | exact cells_ex E | exact cells_ex E.drw | exact cells_ex (E.more _) | exact cells_ex (E.drw.more _) | exact cells_ex (E.more _).drw) ((first
    | (go_at_call 37; first
      | ((with_reducible refine (c3 _).mono ?_); rintro X w6 ⟨rfl, hb⟩; (first | have E := E.drw.on hb | have E := E.on hb); clear hb)
      | ((with_reducible refine (c4 _).mono ?_); rintro X w7 ⟨rfl, hb⟩; (first | have E := E.drw.on hb | have E := E.on hb); clear hb))
    | (go_at_call 32; refine (covers_ex _ _ (by first | exact Has.new_ _ _ _ | exact (Has.new_ _ _ _).drew_)).mono ?_; rintro X w8 ⟨rfl, hb⟩; (first | have E := (E.more _).on hb | have E := (E.more _).drw.on hb | have E := (E.drw.more _).on hb); clear hb)))
  all_goals (
    have C := E.cells
    simp [BC, CF] at C
    go_wp2
    go_ret
    exact ⟨rfl, belows B0 E.1⟩)
end Go.Proofs.Ytffigpkkdljaiaa
