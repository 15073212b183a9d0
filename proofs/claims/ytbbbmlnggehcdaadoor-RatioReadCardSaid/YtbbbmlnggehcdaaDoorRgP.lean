/- The arithmetic of the binary greatest common divisor. -/
import Derived.Test.YtbbbmlnggehcdaaDoorRg
import Derived.Test.YtbbbmlnggehcdaaDoorQA
namespace Go.Proofs.YtbbbmlnggehcdaaDoor
set_option linter.unusedVariables false

/-- The binary greatest common divisor, on its way. -/
def G2 (G x y : Int) (t : Nat) : Prop := (Int.gcd x y : Int) * 2 ^ t = G ∧ 0 < y ∧ 0 ≤ x ∧ (od x = 1 ∨ od y = 1) ∧ UU x ∧ UU y ∧ t < 128
theorem od_two (x : Int) : od x = 0 ∨ od x = 1 := by unfold od; omega
theorem cop_two {y : Int} (h : od y = 1) : Int.gcd 2 y = 1 := by
  unfold od at h
  have h1 : (Int.gcd 2 y : Int) ∣ 2 := Int.gcd_dvd_left _ _
  have h2 : (Int.gcd 2 y : Int) ∣ y := Int.gcd_dvd_right _ _
  have p : 0 < Int.gcd 2 y := Int.gcd_pos_of_ne_zero_left _ (by omega)
  have l := Int.le_of_dvd (by omega) h1
  have c : Int.gcd 2 y = 1 ∨ Int.gcd 2 y = 2 := by omega
  rcases c with c | c
  · exact c
  · rw [c] at h2
    obtain ⟨k, hk⟩ := h2
    have : ((2 : Nat) : Int) = 2 := rfl
    omega
theorem gcd_half {x y : Int} (hx : od x = 0) (hy : od y = 1) : Int.gcd (hf x) y = Int.gcd x y := by
  have e : x = 2 * hf x := by unfold od at hx; unfold hf; omega
  have h := gcd_cancel (k := 2) (m := y) (n := hf x) (cop_two hy)
  rw [← e] at h
  rw [Int.gcd_comm, ← h, Int.gcd_comm]
theorem UU_hf {x : Int} (h : UU x) : UU (hf x) := by unfold UU hf at *; omega
theorem G2.halfA {G x y : Int} {t : Nat} (h : G2 G x y t) (hx : od x = 0) : G2 G (hf x) y t ∧ hf x ≤ x ∧ (0 < x → 0 < hf x ∧ hf x < x) := by
  obtain ⟨h1, h2, h3, h4, h5, h6, h7⟩ := h
  have hy : od y = 1 := by omega
  refine ⟨⟨by rw [gcd_half hx hy]; exact h1, h2, by unfold hf; omega, .inr hy, UU_hf h5, h6, h7⟩, by unfold hf; omega, fun p => by unfold hf; unfold od at hx; omega⟩
theorem G2.halfB {G x y : Int} {t : Nat} (h : G2 G x y t) (hx : od x = 1) (hy : od y = 0) : G2 G x (hf y) t ∧ hf y < y := by
  obtain ⟨h1, h2, h3, h4, h5, h6, h7⟩ := h
  refine ⟨⟨by rw [Int.gcd_comm, gcd_half hy hx, Int.gcd_comm]; exact h1, by unfold hf; unfold od at hy; omega, h3, .inl hx, h5, UU_hf h6, h7⟩, by unfold hf; omega⟩
theorem G2.swap {G x y : Int} {t : Nat} (h : G2 G x y t) (hx : 0 < x) : G2 G y x t := by
  obtain ⟨h1, h2, h3, h4, h5, h6, h7⟩ := h
  exact ⟨by rw [Int.gcd_comm]; exact h1, hx, by omega, by omega, h6, h5, h7⟩
theorem G2.minus {G x y : Int} {t : Nat} (h : G2 G x y t) (hy : od y = 1) (hle : y ≤ x) : G2 G (dU x y) y t ∧ dU x y < x := by
  obtain ⟨h1, h2, h3, h4, h5, h6, h7⟩ := h
  unfold dU
  refine ⟨⟨?_, h2, by omega, .inr hy, by unfold UU at *; omega, h6, h7⟩, by omega⟩
  rw [← h1]
  have k : Int.gcd y ((x - y) + 1 * y) = Int.gcd y (x - y) := Int.gcd_add_mul_right_right _ _ _
  rw [show (x - y) + 1 * y = x by omega] at k
  rw [Int.gcd_comm x, k, Int.gcd_comm]
theorem G2.done {G y : Int} {t : Nat} (h : G2 G 0 y t) : y * 2 ^ t = G := by
  obtain ⟨h1, h2, -⟩ := h
  rw [← h1]; congr 1
  have : Int.gcd 0 y = y.natAbs := by simp
  rw [this]; omega
theorem G3_step {G y : Int} {t : Nat} (h : y * 2 ^ (t + 1) = G) (hy : 0 < y) (hG : UU G) : (sU y y) * 2 ^ t = G ∧ 0 < sU y y ∧ UU (sU y y) := by
  have e : sU y y * 2 ^ t = G := by rw [← h, Int.pow_succ]; unfold sU; grind
  have c : (2 : Int) ^ t = ((2 ^ t : Nat) : Int) := by simp
  have p : (1 : Int) ≤ 2 ^ t := by rw [c]; have := Nat.two_pow_pos t; omega
  have q : sU y y * 1 ≤ sU y y * 2 ^ t := Int.mul_le_mul_of_nonneg_left p (by unfold sU; omega)
  refine ⟨e, by unfold sU; omega, by unfold UU at *; unfold sU at *; omega⟩
theorem G1.toG2 {x0 y0 x y : Int} {t : Nat} (h : G1 x0 y0 x y t) (hx : UU x0) (hy : UU y0) (ho : ¬ (od x = 0 ∧ od y = 0)) : G2 (Int.gcd x0 y0 : Int) x y t := by
  obtain ⟨b1, b2, b3⟩ := h.bounds hx hy
  obtain ⟨h1, h2, h3, h4⟩ := h
  have k1 := od_two x
  have k2 := od_two y
  have c : (2 : Int) ^ t = ((2 ^ t : Nat) : Int) := by simp
  refine ⟨?_, h4, by omega, by omega, b1, b2, b3⟩
  have := gcd_pull (2 ^ t) x y (by rw [c]; exact Int.natCast_nonneg _)
  rw [← h1, ← h2, Int.mul_comm x, Int.mul_comm y, this, Int.mul_comm]
theorem UU_gcd {x0 y0 : Int} (hy : UU y0) (py : 0 < y0) : UU (Int.gcd x0 y0 : Int) := by
  have := Int.le_of_dvd py (Int.gcd_dvd_right x0 y0)
  unfold UU at *; omega
end Go.Proofs.YtbbbmlnggehcdaaDoor
