/- The contracts of Add and Sub. -/
import Derived.Test.YtbbbmlnggehcdaaDoorDi
namespace Go.Proofs.YtbbbmlnggehcdaaDoor
open Go.ChangeShapes Go.WideShapes Go.ChangeAt Go.RowKit Go.Shelf
set_option linter.unusedVariables false

def cG (ad bd : Int) : Int := gd (ab ad) (ab bd)
def xN (an ad bn bd : Int) : Int := aI (mI an (qI (ab bd) (cG ad bd))) (mI bn (qI (ab ad) (cG ad bd)))
def lG (an ad bn bd : Int) : Int := gd (rI (ab (xN an ad bn bd)) (cG ad bd)) (cG ad bd)

theorem gd_mod (x c : Int) : gd (rI (ab x) c) c = gd x c := by
  unfold gd rI
  have : Int.gcd (ab x % c) c = Int.gcd (ab x) c := by
    have e := Int.emod_add_mul_ediv (ab x) c
    rw [Int.gcd_comm, Int.gcd_comm (ab x)]
    have h : Int.gcd c (ab x % c + (ab x / c) * c) = Int.gcd c (ab x % c) := Int.gcd_add_mul_right_right _ _ _
    rw [← h, Int.mul_comm (ab x / c), e]
  rw [this]
  have : Int.gcd (ab x) c = Int.gcd x c := by unfold ab; simp [Int.gcd_eq_natAbs_gcd_natAbs]
  rw [this]

theorem add_facts {an ad bn bd : Int} (va : V an ad) (vb : V bn bd) :
    0 < cG ad bd ∧ cG ad bd ≤ 1152921504606846976 ∧ 0 < lG an ad bn bd ∧ lG an ad bn bd ≤ 1152921504606846976 ∧ 0 < qI (ab ad) (cG ad bd) ∧ qI (ab ad) (cG ad bd) ≤ 1152921504606846976 ∧ 0 < qI (ab bd) (cG ad bd) ∧ qI (ab bd) (cG ad bd) ≤ 1152921504606846976 ∧
    Sm (mI an (qI (ab bd) (cG ad bd))) ∧ Sm (mI bn (qI (ab ad) (cG ad bd))) ∧ Sm (xN an ad bn bd) ∧
    fitQ (wS (xN an ad bn bd)) (qI (ab (xN an ad bn bd)) (lG an ad bn bd)) (qI (ab ad) (cG ad bd) * qI (ab bd) (lG an ad bn bd)) = addQ an ad bn bd ∧
    (lG an ad bn bd ≤ wH (xN an ad bn bd) → addQ an ad bn bd = (0, 0, 5)) := by
  have a0 := V0 va
  have b0 := V0 vb
  have eA : ab ad = ad := ab_pos (by omega)
  have eB : ab bd = bd := ab_pos (by omega)
  have ec : cG ad bd = (Int.gcd ad bd : Int) := by unfold cG; rw [gd_ab]; rfl
  have ex : xN an ad bn bd = an * (bd / cG ad bd) + bn * (ad / cG ad bd) := by unfold xN aI mI qI; rw [eA, eB]
  have el : lG an ad bn bd = (Int.gcd (xN an ad bn bd) (cG ad bd) : Int) := by unfold lG; rw [gd_mod]; rfl
  obtain ⟨c0, l0, ldb, ldn, kA, kB, pA, pB, g, eX, eQ⟩ := add_red (c := cG ad bd) (rA := ad / cG ad bd) (rB := bd / cG ad bd) (left := lG an ad bn bd) va vb ec rfl rfl (by rw [el, ex])
  rw [← ex] at ldn eX
  have cle : cG ad bd ≤ ad := by rw [ec]; exact Int.le_of_dvd a0 (Int.gcd_dvd_left _ _)
  have lle : lG an ad bn bd ≤ bd := Int.le_of_dvd b0 ldb
  have q1 : qI (ab ad) (cG ad bd) = ad / cG ad bd := by unfold qI; rw [eA]
  have q2 : qI (ab bd) (cG ad bd) = bd / cG ad bd := by unfold qI; rw [eB]
  have b1 : ad / cG ad bd ≤ ad := Int.ediv_le_self _ (by omega)
  have b2 : bd / cG ad bd ≤ bd := Int.ediv_le_self _ (by omega)
  obtain ⟨va1, va2, va3, va4, -⟩ := id va
  obtain ⟨vb1, vb2, vb3, vb4, -⟩ := id vb
  rw [q1, q2]
  have s1 : Sm (mI an (bd / cG ad bd)) := Sm_mul va3 va4 pB (by omega)
  have s2 : Sm (mI bn (ad / cG ad bd)) := Sm_mul vb3 vb4 pA (by omega)
  have s3 : Sm (xN an ad bn bd) := by
    have h1 : ab (an * (bd / cG ad bd)) ≤ 1329227995784915872903807060280344576 := by
      unfold ab; rw [Int.natAbs_mul, Int.natCast_mul]
      have : (an.natAbs : Int) * ((bd / cG ad bd).natAbs : Int) ≤ 1152921504606846976 * 1152921504606846976 := Int.mul_le_mul (by omega) (by omega) (by omega) (by omega)
      omega
    have h2 : ab (bn * (ad / cG ad bd)) ≤ 1329227995784915872903807060280344576 := by
      unfold ab; rw [Int.natAbs_mul, Int.natCast_mul]
      have : (bn.natAbs : Int) * ((ad / cG ad bd).natAbs : Int) ≤ 1152921504606846976 * 1152921504606846976 := Int.mul_le_mul (by omega) (by omega) (by omega) (by omega)
      omega
    unfold Sm; rw [ex]
    generalize an * (bd / cG ad bd) = x at *
    generalize bn * (ad / cG ad bd) = y at *
    unfold ab at *; omega
  generalize xN an ad bn bd = X at *
  have key : fitQ (wS X) (qI (ab X) (lG an ad bn bd)) (ad / cG ad bd * qI (ab bd) (lG an ad bn bd)) = addQ an ad bn bd := by
    have eAX : ab (an * bd + bn * ad) = cG ad bd * ab X := by
      rw [eX]; unfold ab; rw [Int.natAbs_mul, Int.natCast_mul]
      have : ((cG ad bd).natAbs : Int) = cG ad bd := by omega
      rw [this]
    have hs : (decide (an * bd + bn * ad < 0)) = wS X := by
      unfold wS; rw [eX, Bool.eq_iff_iff]; simp only [decide_eq_true_eq]
      constructor
      · intro h
        rcases Int.lt_or_le X 0 with k | k
        · exact k
        · have := Int.mul_nonneg (Int.le_of_lt c0) k; omega
      · intro h; exact Int.mul_neg_of_pos_of_neg c0 h
    have k := fit_mk (x := an * bd + bn * ad) (q := ad * bd) (minus := wS X) (VV va vb) (by
      rw [← hs]
      by_cases h : an * bd + bn * ad < 0
      · rw [ab_neg (by omega)]; simp [h]
      · rw [ab_pos (by omega)]; simp [h])
    rw [show gd (an * bd + bn * ad) (ad * bd) = cG ad bd * lG an ad bn bd from g, eQ, eAX, Int.mul_ediv_mul_of_pos _ _ c0] at k
    unfold addQ qI
    rw [eB, ← k]
  refine ⟨c0, by omega, l0, by omega, pA, by omega, pB, by omega, s1, s2, s3, key, fun h => ?_⟩
  rw [← key]; unfold fitQ
  rw [if_pos]
  refine .inl ?_
  have : 18446744073709551616 ≤ qI (ab X) (lG an ad bn bd) := by
    unfold qI
    refine (Int.le_ediv_iff_mul_le l0).2 ?_
    have := wHL X
    have := wL_b X
    generalize wH X = hh at *
    omega
  omega

theorem add_start (an ad bn bd : Int) : True := trivial
end Go.Proofs.YtbbbmlnggehcdaaDoor
