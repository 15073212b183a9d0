/- The arithmetic of a division of two words by one (Knuth), and of greatest common divisors of sums and products. -/
namespace Go.Proofs.YtbbbmlnggehcdaaDoor
set_option linter.unusedVariables false
set_option maxRecDepth 20000

/-- One digit: what holds when the loop is entered. -/
theorem kn_start {u a b z : Nat} (ha : 2147483648 ≤ a) (ha2 : a < 4294967296) (hb : b < 4294967296) (hz : z < 4294967296) (hu : u < a * 4294967296 + b) :
    u / a ≤ 4294967297 ∧ u % a < 4294967296 ∧ (u * 4294967296 + z) / (a * 4294967296 + b) ≤ u / a ∧ u / a * a + u % a = u := by
  have h := Nat.mod_lt u (show 0 < a by omega)
  have e := Nat.div_add_mod u a
  have e' : u / a * a + u % a = u := by rw [Nat.mul_comm]; exact e
  refine ⟨?_, by omega, ?_, e'⟩
  · refine Nat.lt_succ_iff.1 ((Nat.div_lt_iff_lt_mul (by omega)).2 ?_)
    omega
  · refine (Nat.le_div_iff_mul_le (by omega)).2 ?_
    have k : (u * 4294967296 + z) / (a * 4294967296 + b) * (a * 4294967296 + b) ≤ u * 4294967296 + z := Nat.div_mul_le_self _ _
    generalize (u * 4294967296 + z) / (a * 4294967296 + b) = q at *
    have k2 : q * (a * 4294967296 + b) = q * a * 4294967296 + q * b := by rw [Nat.mul_add, Nat.mul_assoc]
    rw [k2] at k
    omega

/-- The digit is too great: one less is none too small. -/
theorem kn_big {u a b z q r : Nat} (ha : 2147483648 ≤ a) (hz : z < 4294967296) (hu : u < a * 4294967296 + b) (e : q * a + r = u) (h : 4294967296 ≤ q ∨ r * 4294967296 + z < q * b) :
    (u * 4294967296 + z) / (a * 4294967296 + b) < q ∧ (q - 1) * a + (r + a) = u ∧ 0 < q := by
  have h1 : (u * 4294967296 + z) / (a * 4294967296 + b) < q := by
    refine (Nat.div_lt_iff_lt_mul (by omega)).2 ?_
    rcases h with h | h
    · have : 4294967296 * (a * 4294967296 + b) ≤ q * (a * 4294967296 + b) := Nat.mul_le_mul_right _ h
      omega
    · rw [show q * (a * 4294967296 + b) = q * a * 4294967296 + q * b by rw [Nat.mul_add, Nat.mul_assoc]]
      clear hu ha hz
      have e2 : u * 4294967296 = q * a * 4294967296 + r * 4294967296 := by rw [← e, Nat.add_mul]
      rw [e2, Nat.add_assoc]
      exact Nat.add_lt_add_left h _
  have h2 : 0 < q := Nat.lt_of_le_of_lt (Nat.zero_le _) h1
  refine ⟨h1, ?_, h2⟩
  obtain ⟨p, hp⟩ : ∃ p, q = p + 1 := ⟨q - 1, by omega⟩
  have e' : q * a = p * a + a := by rw [hp, Nat.add_mul, Nat.one_mul]
  rw [show q - 1 = p by omega]
  omega

/-- The loop ends: the digit is right. -/
theorem kn_end {u a b z q r : Nat} (ha : 2147483648 ≤ a) (hb : b < 4294967296) (e : q * a + r = u) (hq : (u * 4294967296 + z) / (a * 4294967296 + b) ≤ q)
    (h : q * b ≤ r * 4294967296 + z ∨ (q ≤ 4294967296 ∧ 4294967296 ≤ r)) : q = (u * 4294967296 + z) / (a * 4294967296 + b) := by
  refine Nat.le_antisymm ((Nat.le_div_iff_mul_le (by omega)).2 ?_) hq
  have k2 : q * (a * 4294967296 + b) = q * a * 4294967296 + q * b := by rw [Nat.mul_add, Nat.mul_assoc]
  rcases h with h | ⟨h, h'⟩
  · omega
  · have : q * b ≤ 4294967296 * b := Nat.mul_le_mul_right _ h
    omega

theorem kn_q {N y Q : Nat} (le : Q * y ≤ N) (lt : N - Q * y < y) : Q = N / y ∧ N - Q * y = N % y := by
  have hy : 0 < y := Nat.lt_of_le_of_lt (Nat.zero_le _) lt
  have k : N = y * Q + (N - Q * y) := by rw [Nat.mul_comm y]; omega
  constructor
  · rw [show N / y = (y * Q + (N - Q * y)) / y by rw [← k], Nat.mul_add_div hy, Nat.div_eq_of_lt lt, Nat.add_zero]
  · rw [show N % y = (y * Q + (N - Q * y)) % y by rw [← k], Nat.mul_add_mod, Nat.mod_eq_of_lt lt]

theorem kn_fin0 {N y s q1 q0 u d1 d0 r1 r0 : Nat} (hy : 0 < y) (hN : N * 2 ^ s = (u * 4294967296 + d1) * 4294967296 + d0)
    (e1 : y * 2 ^ s * q1 + r1 = u * 4294967296 + d1) (e0 : y * 2 ^ s * q0 + r0 = r1 * 4294967296 + d0) (l0 : r0 < y * 2 ^ s) :
    q1 * 4294967296 + q0 = N / y ∧ r0 / 2 ^ s = N % y := by
  have hs : 0 < 2 ^ s := Nat.two_pow_pos s
  have e : N * 2 ^ s = (q1 * 4294967296 + q0) * y * 2 ^ s + r0 := by
    rw [hN, ← e1]
    have : (y * 2 ^ s * q1 + r1) * 4294967296 + d0 = y * 2 ^ s * q1 * 4294967296 + (r1 * 4294967296 + d0) := by omega
    rw [this, ← e0]
    grind
  have er : r0 = (N - (q1 * 4294967296 + q0) * y) * 2 ^ s := by rw [Nat.sub_mul]; omega
  have er2 : r0 / 2 ^ s = N - (q1 * 4294967296 + q0) * y := by rw [er, Nat.mul_div_cancel _ hs]
  have le : (q1 * 4294967296 + q0) * y ≤ N := by
    refine Nat.le_of_mul_le_mul_right (c := 2 ^ s) ?_ hs
    omega
  have lt : N - (q1 * 4294967296 + q0) * y < y := by
    refine Nat.lt_of_mul_lt_mul_right (a := 2 ^ s) ?_
    rw [← er]; exact l0
  rw [er2]
  exact kn_q le lt

theorem kn_fin {N y s q1 q0 u d1 d0 : Nat} (hy : 0 < y) (hN : N * 2 ^ s = (u * 4294967296 + d1) * 4294967296 + d0)
    (h1 : q1 = (u * 4294967296 + d1) / (y * 2 ^ s)) (h0 : q0 = ((u * 4294967296 + d1) % (y * 2 ^ s) * 4294967296 + d0) / (y * 2 ^ s)) :
    q1 * 4294967296 + q0 = N / y ∧ ((u * 4294967296 + d1) % (y * 2 ^ s) * 4294967296 + d0) % (y * 2 ^ s) / 2 ^ s = N % y := by
  have hy' : 0 < y * 2 ^ s := Nat.mul_pos hy (Nat.two_pow_pos s)
  subst h1 h0
  exact kn_fin0 hy hN (Nat.div_add_mod _ _) (Nat.div_add_mod _ _) (Nat.mod_lt _ hy')

/-- The words of the shifted dividend. -/
theorem kn_shift {hi lo y s : Nat} (hs : s < 64) (hlo : lo < 18446744073709551616) (hy : y * 2 ^ s < 18446744073709551616) (hhi : hi < y) :
    hi * 2 ^ s < 18446744073709551616 ∧ lo / 2 ^ (64 - s) < 2 ^ s ∧ hi * 2 ^ s + lo / 2 ^ (64 - s) < y * 2 ^ s ∧
    (hi * 18446744073709551616 + lo) * 2 ^ s = (hi * 2 ^ s + lo / 2 ^ (64 - s)) * 18446744073709551616 + lo * 2 ^ s % 18446744073709551616 := by
  have p0 : 0 < 2 ^ s := Nat.two_pow_pos s
  have e64 : 2 ^ (64 - s) * 2 ^ s = 18446744073709551616 := by rw [← Nat.pow_add, show 64 - s + s = 64 by omega]
  have p1 : 0 < 2 ^ (64 - s) := Nat.two_pow_pos _
  generalize 2 ^ (64 - s) = b at *
  generalize 2 ^ s = a at *
  have l1 : lo / b < a := (Nat.div_lt_iff_lt_mul p1).2 (by rw [Nat.mul_comm]; omega)
  have l2 : (hi + 1) * a ≤ y * a := Nat.mul_le_mul_right _ hhi
  rw [Nat.add_mul] at l2
  have l3 : lo * a / 18446744073709551616 = lo / b := by rw [← e64, Nat.mul_div_mul_right _ _ p0]
  have l4 := Nat.div_add_mod (lo * a) 18446744073709551616
  rw [l3] at l4
  refine ⟨by omega, l1, by omega, ?_⟩
  rw [Nat.add_mul, Nat.add_mul, Nat.mul_right_comm]
  omega
end Go.Proofs.YtbbbmlnggehcdaaDoor
