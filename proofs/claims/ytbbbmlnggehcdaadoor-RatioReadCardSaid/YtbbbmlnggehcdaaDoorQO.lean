import Derived.Test.YtbbbmlnggehcdaaDoorQ
/- The order of fractions: what sums, differences and products do to it. -/
namespace Go.Proofs.YtbbbmlnggehcdaaDoor
set_option linter.unusedVariables false

def sg (z : Int) : Int := if z < 0 then -1 else if 0 < z then 1 else 0
theorem cmp_sg (an ad bn bd : Int) : cmpQ an ad bn bd = sg (an * bd - bn * ad) := by
  unfold cmpQ sg
  generalize an * bd = p
  generalize bn * ad = q
  repeat' split
  all_goals omega
theorem sg_scale {p q u v : Int} (hu : 0 < u) (hv : 0 < v) (e : p * u = q * v) : sg p = sg q := by
  unfold sg
  rcases Int.lt_trichotomy p 0 with h | h | h
  · have : q * v < 0 := by rw [← e]; exact Int.mul_neg_of_neg_of_pos h hu
    have : q < 0 := by
      rcases Int.lt_or_le q 0 with k | k
      · exact k
      · have := Int.mul_nonneg k (Int.le_of_lt hv); omega
    rw [if_pos h, if_pos this]
  · subst h
    have : q * v = 0 := by rw [← e]; simp
    have : q = 0 := by rcases Int.mul_eq_zero.1 this with k | k <;> omega
    subst this; rfl
  · have : 0 < q * v := by rw [← e]; exact Int.mul_pos h hu
    have : 0 < q := by
      rcases Int.lt_or_le 0 q with k | k
      · exact k
      · have := Int.mul_nonpos_of_nonpos_of_nonneg k (Int.le_of_lt hv); omega
    rw [if_neg (by omega), if_pos h, if_neg (by omega), if_pos this]
theorem sg_neg (z : Int) : sg (-z) = -(sg z) := by
  unfold sg; repeat' split
  all_goals omega
theorem cmp_back (an ad bn bd : Int) : cmpQ bn bd an ad = -(cmpQ an ad bn bd) := by
  rw [cmp_sg, cmp_sg, ← sg_neg]; congr 1; omega
theorem cmp_bd (an ad bn bd : Int) : -1 ≤ cmpQ an ad bn bd ∧ cmpQ an ad bn bd ≤ 1 := by
  unfold cmpQ; repeat' split
  all_goals omega
theorem cmp_zero {an ad bn bd : Int} (va : V an ad) (vb : V bn bd) (h : cmpQ an ad bn bd = 0) : an = bn ∧ ad = bd := by
  refine V_eq va vb ?_
  unfold cmpQ at h
  split at h
  · omega
  · split at h
    · omega
    · omega
theorem cmp_self (an ad : Int) : cmpQ an ad an ad = 0 := by unfold cmpQ; rw [if_neg (by omega), if_neg (by omega)]
theorem sub_sign {an ad bn bd dn dd : Int} (va : V an ad) (vb : V bn bd) (h : addQ an ad (-bn) bd = (dn, dd, 0)) : V dn dd ∧ sg dn = cmpQ an ad bn bd := by
  have k := mk_ok (VV va vb) (by unfold addQ at h; rw [h])
  unfold addQ at h; rw [h] at k
  obtain ⟨v, e⟩ := k
  simp only at e
  refine ⟨v, ?_⟩
  rw [cmp_sg]
  refine sg_scale (VV va vb) (V0 v) ?_
  grind
theorem add_order {an ad bn bd cn cd xn xd yn yd : Int} (va : V an ad) (vb : V bn bd) (vc : V cn cd) (h : addQ an ad cn cd = (xn, xd, 0)) (h' : addQ bn bd cn cd = (yn, yd, 0)) :
    V xn xd ∧ V yn yd ∧ cmpQ xn xd yn yd = cmpQ an ad bn bd := by
  have k := mk_ok (VV va vc) (by unfold addQ at h; rw [h])
  unfold addQ at h; rw [h] at k
  have k' := mk_ok (VV vb vc) (by unfold addQ at h'; rw [h'])
  unfold addQ at h'; rw [h'] at k'
  obtain ⟨v, e⟩ := k
  obtain ⟨v', e'⟩ := k'
  simp only at e e'
  refine ⟨v, v', ?_⟩
  rw [cmp_sg, cmp_sg]
  refine sg_scale (u := ad * cd * (bd * cd)) (v := cd * cd * (xd * yd)) (Int.mul_pos (VV va vc) (VV vb vc)) (Int.mul_pos (Int.mul_pos (V0 vc) (V0 vc)) (VV v v')) ?_
  grind
theorem mul_order {an ad bn bd cn cd xn xd yn yd : Int} (va : V an ad) (vb : V bn bd) (vc : V cn cd) (h : mulQ an ad cn cd = (xn, xd, 0)) (h' : mulQ bn bd cn cd = (yn, yd, 0)) :
    V xn xd ∧ V yn yd ∧ cmpQ xn xd yn yd = sg (cn * (an * bd - bn * ad)) := by
  have k := mk_ok (VV va vc) (by unfold mulQ at h; rw [h])
  unfold mulQ at h; rw [h] at k
  have k' := mk_ok (VV vb vc) (by unfold mulQ at h'; rw [h'])
  unfold mulQ at h'; rw [h'] at k'
  obtain ⟨v, e⟩ := k
  obtain ⟨v', e'⟩ := k'
  simp only at e e'
  refine ⟨v, v', ?_⟩
  rw [cmp_sg]
  refine sg_scale (u := ad * cd * (bd * cd)) (v := cd * (xd * yd)) (Int.mul_pos (VV va vc) (VV vb vc)) (Int.mul_pos (V0 vc) (VV v v')) ?_
  grind
theorem sg_mul (c z : Int) : sg (c * z) = sg c * sg z := by
  unfold sg
  rcases Int.lt_trichotomy c 0 with h | h | h <;> rcases Int.lt_trichotomy z 0 with k | k | k
  · have := Int.mul_pos_of_neg_of_neg h k
    rw [if_neg (by omega), if_pos this, if_pos h, if_pos k]; rfl
  · subst k; simp
  · have := Int.mul_neg_of_neg_of_pos h k
    rw [if_pos this, if_pos h, if_neg (by omega), if_pos k]; rfl
  · subst h; simp
  · subst h; simp
  · subst h; simp
  · have := Int.mul_neg_of_pos_of_neg h k
    rw [if_pos this, if_neg (by omega), if_pos h, if_pos k]; rfl
  · subst k; simp
  · have := Int.mul_pos h k
    rw [if_neg (by omega), if_pos this, if_neg (by omega), if_pos h, if_neg (by omega), if_pos k]; rfl
end Go.Proofs.YtbbbmlnggehcdaaDoor
