import Derived.Test.YtbbbmlnggehcdaaDoorQ
/- How sums and products of fractions are reduced before they are multiplied out. -/
namespace Go.Proofs.YtbbbmlnggehcdaaDoor
set_option linter.unusedVariables false

theorem cop_l {a b d : Int} (h : Int.gcd a b = 1) (hd : d ∣ a) : Int.gcd d b = 1 := by
  rw [Int.gcd_eq_natAbs_gcd_natAbs] at *
  exact Nat.Coprime.coprime_dvd_left (Int.natAbs_dvd_natAbs.2 hd) h
theorem cop_r {a b d : Int} (h : Int.gcd a b = 1) (hd : d ∣ b) : Int.gcd a d = 1 := by
  rw [Int.gcd_comm] at *; exact cop_l h hd
theorem cop_mul {a b c : Int} (h : Int.gcd a c = 1) (h' : Int.gcd b c = 1) : Int.gcd (a * b) c = 1 := by
  rw [Int.gcd_eq_natAbs_gcd_natAbs] at *
  rw [Int.natAbs_mul]; exact Nat.Coprime.mul_left h h'
theorem gcd_cancel {k m n : Int} (h : Int.gcd k m = 1) : Int.gcd m (k * n) = Int.gcd m n := by
  rw [Int.gcd_eq_natAbs_gcd_natAbs] at *
  rw [Int.gcd_eq_natAbs_gcd_natAbs, Int.natAbs_mul]
  exact Nat.Coprime.gcd_mul_left_cancel_right _ h
theorem gcd_pull (c x y : Int) (hc : 0 ≤ c) : (Int.gcd (c * x) (c * y) : Int) = c * (Int.gcd x y : Int) := by
  rw [Int.gcd_mul_left, Int.natCast_mul]
  have : (c.natAbs : Int) = c := by omega
  rw [this]
theorem dvd_div {a b : Int} (h : b ∣ a) : b * (a / b) = a := Int.mul_ediv_cancel' h

/-- A sum, reduced. -/
theorem add_red {an ad bn bd c rA rB left : Int} (va : V an ad) (vb : V bn bd) (hc : c = (Int.gcd ad bd : Int)) (hA : rA = ad / c) (hB : rB = bd / c) (hl : left = (Int.gcd (an * rB + bn * rA) c : Int)) :
    0 < c ∧ 0 < left ∧ left ∣ bd ∧ left ∣ an * rB + bn * rA ∧ c * rA = ad ∧ c * rB = bd ∧ 0 < rA ∧ 0 < rB ∧
    (Int.gcd (an * bd + bn * ad) (ad * bd) : Int) = c * left ∧ (an * bd + bn * ad) = c * (an * rB + bn * rA) ∧ (ad * bd) / (c * left) = rA * (bd / left) := by
  have a0 := V0 va
  have b0 := V0 vb
  have c0 : 0 < c := by rw [hc]; have := Int.gcd_pos_of_ne_zero_right ad (b := bd) (by omega); omega
  have dA : c ∣ ad := by rw [hc]; exact Int.gcd_dvd_left _ _
  have dB : c ∣ bd := by rw [hc]; exact Int.gcd_dvd_right _ _
  have eA : c * rA = ad := by rw [hA]; exact dvd_div dA
  have eB : c * rB = bd := by rw [hB]; exact dvd_div dB
  have pA : 0 < rA := Int.pos_of_mul_pos_left (by rw [Int.mul_comm, eA]; exact a0) c0
  have pB : 0 < rB := Int.pos_of_mul_pos_left (by rw [Int.mul_comm, eB]; exact b0) c0
  have cAB : Int.gcd rA rB = 1 := by
    rw [hA, hB, hc]; exact Int.gcd_ediv_gcd_ediv_gcd (by omega)
  have ca : Int.gcd rA an = 1 := by rw [Int.gcd_comm]; exact cop_r va.2.2.2.2 ⟨c, by rw [← eA, Int.mul_comm]⟩
  have cb : Int.gcd rB bn = 1 := by rw [Int.gcd_comm]; exact cop_r vb.2.2.2.2 ⟨c, by rw [← eB, Int.mul_comm]⟩
  have n1 : Int.gcd rA (an * rB + bn * rA) = 1 := by
    have k : Int.gcd (an * rB) rA = 1 := cop_mul (by rw [Int.gcd_comm]; exact ca) (by rw [Int.gcd_comm]; exact cAB)
    rw [Int.gcd_comm] at k
    rw [Int.gcd_add_mul_right_right]; exact k
  have n2 : Int.gcd rB (an * rB + bn * rA) = 1 := by
    have k : Int.gcd (bn * rA) rB = 1 := cop_mul (by rw [Int.gcd_comm]; exact cb) cAB
    rw [Int.gcd_comm] at k
    rw [Int.add_comm, Int.gcd_add_mul_right_right]; exact k
  have l0 : 0 < left := by rw [hl]; have := Int.gcd_pos_of_ne_zero_right (an * rB + bn * rA) (b := c) (by omega); omega
  have ldc : left ∣ c := by rw [hl]; exact Int.gcd_dvd_right _ _
  have ldn : left ∣ an * rB + bn * rA := by rw [hl]; exact Int.gcd_dvd_left _ _
  have ldb : left ∣ bd := Int.dvd_trans ldc dB
  have eX : an * bd + bn * ad = c * (an * rB + bn * rA) := by rw [← eA, ← eB]; grind
  have eQ : ad * bd = c * (rA * bd) := by rw [← eA]; grind
  have g : (Int.gcd (an * bd + bn * ad) (ad * bd) : Int) = c * left := by
    rw [eX, eQ, gcd_pull _ _ _ (by omega), gcd_cancel n1, ← eB, Int.mul_comm c rB, gcd_cancel n2, ← hl]
  refine ⟨c0, l0, ldb, ldn, eA, eB, pA, pB, g, eX, ?_⟩
  have : ad * bd = (c * left) * (rA * (bd / left)) := by
    rw [eQ]
    have h := dvd_div ldb
    generalize bd / left = z at *
    rw [← h]; grind
  rw [this, Int.mul_ediv_cancel_left _ (by have := Int.mul_pos c0 l0; omega)]

/-- A product, reduced crosswise. -/
theorem mul_red {an ad bn bd f s : Int} (va : V an ad) (vb : V bn bd) (hf : f = (Int.gcd an bd : Int)) (hs : s = (Int.gcd bn ad : Int)) :
    0 < f ∧ 0 < s ∧ f ∣ an ∧ s ∣ bn ∧ s ∣ ad ∧ f ∣ bd ∧ (Int.gcd (an * bn) (ad * bd) : Int) = f * s ∧ (an * bn) = (f * s) * ((an / f) * (bn / s)) ∧ (ad * bd) / (f * s) = (ad / s) * (bd / f) := by
  have a0 := V0 va
  have b0 := V0 vb
  have f0 : 0 < f := by rw [hf]; have := Int.gcd_pos_of_ne_zero_right an (b := bd) (by omega); omega
  have s0 : 0 < s := by rw [hs]; have := Int.gcd_pos_of_ne_zero_right bn (b := ad) (by omega); omega
  have d1 : f ∣ an := by rw [hf]; exact Int.gcd_dvd_left _ _
  have d2 : f ∣ bd := by rw [hf]; exact Int.gcd_dvd_right _ _
  have d3 : s ∣ bn := by rw [hs]; exact Int.gcd_dvd_left _ _
  have d4 : s ∣ ad := by rw [hs]; exact Int.gcd_dvd_right _ _
  have c1 : Int.gcd (an / f) (bd / f) = 1 := by rw [hf]; exact Int.gcd_ediv_gcd_ediv_gcd (by omega)
  have c2 : Int.gcd (bn / s) (ad / s) = 1 := by rw [hs]; exact Int.gcd_ediv_gcd_ediv_gcd (by omega)
  have e1 := dvd_div d1
  have e2 := dvd_div d2
  have e3 := dvd_div d3
  have e4 := dvd_div d4
  generalize an / f = x at *
  generalize bd / f = y at *
  generalize bn / s = z at *
  generalize ad / s = t at *
  have c3 : Int.gcd x t = 1 := cop_r (cop_l va.2.2.2.2 ⟨f, by rw [← e1, Int.mul_comm]⟩) ⟨s, by rw [← e4, Int.mul_comm]⟩
  have c4 : Int.gcd z y = 1 := cop_r (cop_l vb.2.2.2.2 ⟨s, by rw [← e3, Int.mul_comm]⟩) ⟨f, by rw [← e2, Int.mul_comm]⟩
  have eX : an * bn = (f * s) * (x * z) := by rw [← e1, ← e3]; grind
  have eQ : ad * bd = (f * s) * (t * y) := by rw [← e4, ← e2]; grind
  have p0 := Int.mul_pos f0 s0
  have g1 : Int.gcd (x * z) (t * y) = 1 := by
    refine cop_mul ?_ ?_
    · rw [Int.gcd_comm]; exact cop_mul (by rw [Int.gcd_comm]; exact c3) (by rw [Int.gcd_comm]; exact c1)
    · rw [Int.gcd_comm]; exact cop_mul (by rw [Int.gcd_comm]; exact c2) (by rw [Int.gcd_comm]; exact c4)
  refine ⟨f0, s0, d1, d3, d4, d2, ?_, eX, ?_⟩
  · rw [eX, eQ, gcd_pull _ _ _ (by omega), g1]; simp
  · rw [eQ, Int.mul_ediv_cancel_left _ (by omega)]
end Go.Proofs.YtbbbmlnggehcdaaDoor
