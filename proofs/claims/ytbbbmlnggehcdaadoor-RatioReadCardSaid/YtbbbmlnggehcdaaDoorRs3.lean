/- The reference's Cmp: its contract. -/
import Derived.Test.YtbbbmlnggehcdaaDoorRx
import Derived.Test.YtbbbmlnggehcdaaDoorRs2
namespace Go.Proofs.YtbbbmlnggehcdaaDoor
open Go.ChangeShapes Go.WideShapes Go.ChangeAt Go.RowKit
set_option linter.unusedVariables false
set_option linter.unusedSimpArgs false

set_option maxHeartbeats 4000000 in
theorem rcmp_ok (an ad bn bd : Int) (w : World) (va : V an ad) (vb : V bn bd) :
    Calls Tryd.prog 30 #[.agg #[.int .i64 an, .int .i64 ad], .agg #[.int .i64 bn, .int .i64 bd]] w fun e w' => e = .returned (.int .i64 (cmpQ an ad bn bd)) ∧ Below w.heap.size w w' := by
  obtain ⟨ux, uy, x0, x1, y0, y1, d0, d1, ed, ex, ey⟩ := addM va vb
  have a0 := V0 va
  have b0 := V0 vb
  obtain ⟨a1, a2, a3, a4, -⟩ := va
  obtain ⟨b1, b2, b3, b4, -⟩ := vb
  have s1 := fun W => refSize_p an _ W (by omega) (by omega) rfl
  have s2 := fun W => refSize_p ad _ W (by omega) (by omega) rfl
  have s3 := fun W => refSize_p bn _ W (by omega) (by omega) rfl
  have s4 := fun W => refSize_p bd _ W (by omega) (by omega) rfl
  have m1 := fun W => mulU_any (ab an) (ab bd) W (by unfold ab; omega) (by unfold ab; omega)
  have m2 := fun W => mulU_any (ab bn) (ab ad) W (by unfold ab; omega) (by unfold ab; omega)
  have hL := fun W => less_any (pU (ab an) (ab bd)) (pU (ab bn) (ab ad)) W ux uy
  refine rcmp_core an ad bn bd w _ _ _ _ _ _ _ _ _ _ s1 s2 s3 s4 m1 m2 hL ?_
  have gx : an * bd = if an < 0 then -(pU (ab an) (ab bd)) else pU (ab an) (ab bd) := by
    rw [ex]
    split
    · rw [ab_neg (n := an) (by omega)]; grind
    · rw [ab_pos (n := an) (by omega)]
  have gy : bn * ad = if bn < 0 then -(pU (ab bn) (ab ad)) else pU (ab bn) (ab ad) := by
    rw [ey]
    split
    · rw [ab_neg (n := bn) (by omega)]; grind
    · rw [ab_pos (n := bn) (by omega)]
  have px : an < 0 → 0 < pU (ab an) (ab bd) := fun h => by rw [ex]; exact Int.mul_pos (by unfold ab; omega) b0
  have py : bn < 0 → 0 < pU (ab bn) (ab ad) := fun h => by rw [ey]; exact Int.mul_pos (by unfold ab; omega) a0
  unfold cmpQ
  rw [gx, gy]
  clear gx gy ex ey ed s1 s2 s3 s4 m1 m2 hL
  generalize pU (ab an) (ab bd) = X at *
  generalize pU (ab bn) (ab ad) = Y at *
  have hx := uHL X
  have hy := uHL Y
  have hq : (uH X = uH Y ∧ uL X = uL Y) ↔ X = Y := ⟨fun h => by rw [← hx, ← hy, h.1, h.2], fun h => by rw [h]; exact ⟨rfl, rfl⟩⟩
  simp only [hq]
  by_cases c1 : an < 0 <;> by_cases c2 : bn < 0 <;> simp only [c1, c2, decide_true, decide_false, Bool.not_true, Bool.not_false, Bool.and_true, Bool.and_false, Bool.true_and, Bool.false_and, if_true, if_false, Bool.false_eq_true]
  · have := px c1
    have := py c2
    by_cases c3 : X = Y
    · simp [c3]
    · by_cases c4 : X < Y <;> simp [c3, c4] <;> (repeat' split) <;> omega
  · have := px c1
    (repeat' split) <;> omega
  · have := py c2
    (repeat' split) <;> omega
  · by_cases c3 : X = Y
    · simp [c3]
    · by_cases c4 : X < Y <;> simp [c3, c4] <;> (repeat' split) <;> omega
end Go.Proofs.YtbbbmlnggehcdaaDoor
