/- The reference's Div, bit by bit: what its loop keeps, and its blocks. -/
import Derived.Test.YtbbbmlnggehcdaaDoorRg
namespace Go.Proofs.YtbbbmlnggehcdaaDoor
open Go.ChangeShapes Go.WideShapes Go.ChangeAt Go.RowKit
set_option linter.unusedVariables false

/-- A remainder with the dividend's next bit, the dividend without it, the quotient moved. -/
def nx (r a : Int) : Int := r * 2 + a / 170141183460469231731687303715884105728
def sh (a : Int) : Int := a * 2 % 340282366920938463463374607431768211456

/-- What the loop keeps after i rounds of 128: the dividend's upper bits are divided. -/
def DI (X Y q r a : Int) (i n : Nat) : Prop :=
  i + n = 128 ∧ 0 ≤ q ∧ 0 ≤ r ∧ r < Y ∧ ∃ u : Int, 0 ≤ u ∧ u < 2 ^ n ∧ a = u * 2 ^ i ∧ X = (q * Y + r) * 2 ^ n + u

theorem DI.start {X Y : Int} (hX : UU X) (hY : 0 < Y) : DI X Y 0 0 X 0 128 := by
  refine ⟨rfl, by omega, by omega, hY, X, hX.1, ?_, by simp, by simp⟩
  have e : (2 : Int) ^ 128 = 340282366920938463463374607431768211456 := by decide
  rw [e]; exact hX.2

theorem pow_split {i n : Nat} (h : i + (n + 1) = 128) : ∃ P S : Int, (2 : Int) ^ (n + 1) = P * 2 ∧ (2 : Int) ^ n = P ∧ (2 : Int) ^ i = S ∧ (2 : Int) ^ (i + 1) = S * 2 ∧ 1 ≤ P ∧ 1 ≤ S ∧ P * S = 170141183460469231731687303715884105728 := by
  refine ⟨2 ^ n, 2 ^ i, Int.pow_succ .., rfl, rfl, Int.pow_succ .., ?_, ?_, ?_⟩
  · have c : (2 : Int) ^ n = ((2 ^ n : Nat) : Int) := by simp
    rw [c]; have := Nat.two_pow_pos n; omega
  · have c : (2 : Int) ^ i = ((2 ^ i : Nat) : Int) := by simp
    rw [c]; have := Nat.two_pow_pos i; omega
  · rw [← Int.pow_add]
    have e : n + i = 127 := by omega
    rw [e]; decide

theorem DI.facts {X Y q r a : Int} {i n : Nat} (h : DI X Y q r a i (n + 1)) (hX : UU X) (hY : 0 < Y ∧ Y < 170141183460469231731687303715884105728) :
    UU a ∧ (0 ≤ q ∧ q < 170141183460469231731687303715884105728) ∧ (0 ≤ r ∧ r < 170141183460469231731687303715884105728) ∧ i < 128 ∧
      (nx r a < Y → DI X Y (q * 2) (nx r a) (sh a) (i + 1) n) ∧ (¬ nx r a < Y → DI X Y (q * 2 + 1) (nx r a - Y) (sh a) (i + 1) n) := by
  obtain ⟨hin, q0, r0, rY, u, u0, u1, ea, eX⟩ := h
  obtain ⟨P, S, e1, e2, e3, e4, p1, s1, ps⟩ := pow_split hin
  rw [e1] at u1 eX
  rw [e3] at ea
  have hT0 : 0 ≤ q * Y + r := by have := Int.mul_nonneg q0 (Int.le_of_lt hY.1); omega
  have hT1 : (q * Y + r) * 2 ≤ (q * Y + r) * (P * 2) := Int.mul_le_mul_of_nonneg_left (by omega) hT0
  have hqY : q * 1 ≤ q * Y := Int.mul_le_mul_of_nonneg_left (by omega) q0
  have hu0 : 0 ≤ u * S := Int.mul_nonneg u0 (by omega)
  have hX1 := hX.2
  have key : ∀ (b u' : Int), 0 ≤ u' → u' < P → u = b * P + u' → nx r a = r * 2 + b → sh a = u' * (S * 2) → (0 ≤ b ∧ b ≤ 1) →
      (nx r a < Y → DI X Y (q * 2) (nx r a) (sh a) (i + 1) n) ∧ (¬ nx r a < Y → DI X Y (q * 2 + 1) (nx r a - Y) (sh a) (i + 1) n) := by
    intro b u' h1 h2 h3 h4 h5 hb
    rw [h4, h5]
    refine ⟨fun c => ⟨by omega, by omega, by omega, c, u', h1, by rw [e2]; exact h2, by rw [e4], ?_⟩, fun c => ⟨by omega, by omega, by omega, by omega, u', h1, by rw [e2]; exact h2, by rw [e4], ?_⟩⟩
    · rw [eX, e2, h3]; grind
    · rw [eX, e2, h3]; grind
  by_cases c : u < P
  · have hm : u * S ≤ (P - 1) * S := Int.mul_le_mul_of_nonneg_right (by omega) (by omega)
    rw [Int.sub_mul, ps] at hm
    obtain ⟨z, hz⟩ : ∃ z, u * S = z := ⟨_, rfl⟩
    have hs : u * (S * 2) = z * 2 := by rw [← hz, Int.mul_assoc]
    rw [hz] at ea hu0 hm
    refine ⟨⟨by omega, by omega⟩, ⟨q0, by omega⟩, ⟨r0, by omega⟩, by omega, key 0 u u0 c (by omega) ?_ ?_ (by omega)⟩
    · unfold nx; omega
    · unfold sh; rw [hs]; omega
  · have hm : u * S ≤ (P * 2 - 1) * S := Int.mul_le_mul_of_nonneg_right (by omega) (by omega)
    have hm2 : P * S ≤ u * S := Int.mul_le_mul_of_nonneg_right (by omega) (by omega)
    have hps2 : P * 2 * S = P * S * 2 := by grind
    rw [Int.sub_mul, hps2, ps] at hm
    rw [ps] at hm2
    have hs : (u - P) * (S * 2) = u * S * 2 - P * S * 2 := by grind
    rw [ps] at hs
    obtain ⟨z, hz⟩ : ∃ z, u * S = z := ⟨_, rfl⟩
    rw [hz] at ea hu0 hm hm2 hs
    refine ⟨⟨by omega, by omega⟩, ⟨q0, by omega⟩, ⟨r0, by omega⟩, by omega, key 1 (u - P) (by omega) (by omega) (by omega) ?_ ?_ (by omega)⟩
    · unfold nx; omega
    · unfold sh; rw [hs]; omega

theorem DI.done {X Y q r a : Int} {i : Nat} (h : DI X Y q r a i 0) : q = X / Y ∧ r = X % Y := by
  obtain ⟨hin, q0, r0, rY, u, u0, u1, ea, eX⟩ := h
  have e : X = q * Y + r := by have : u = 0 := by simp at u1; omega
                               rw [eX, this]; simp
  have hY : Y ≠ 0 := by omega
  rw [e]
  constructor
  · rw [Int.add_comm, Int.add_mul_ediv_right _ _ hY, Int.ediv_eq_zero_of_lt r0 rY]; omega
  · rw [Int.add_comm, Int.add_mul_emod_self_right, Int.emod_eq_of_lt r0 rY]

/-- The words of the moved magnitudes. -/
theorem nx_w {r a : Int} (hr : 0 ≤ r ∧ r < 170141183460469231731687303715884105728) (ha : UU a) :
    uH r / 9223372036854775808 = 0 ∧ IntKind.u64.wrap (uH r * 2) = uH r * 2 ∧ IntKind.u64.wrap (uH r * 2 + uL r / 9223372036854775808) = uH (nx r a) ∧
      ∃ z, IntKind.u64.wrap (uL r * 2) = z ∧ IntKind.u64.wrap (z + uH a / 9223372036854775808) = uL (nx r a) := by
  have e1 := uHL r
  have e2 := uHL a
  have b1 := uL_b r
  have b2 := uL_b a
  have b3 := uH_b ha
  have hH : 0 ≤ uH r ∧ uH r < 9223372036854775808 := by unfold uH; omega
  have k : uH (nx r a) = uH r * 2 + uL r / 9223372036854775808 ∧ uL (nx r a) = uL r * 2 % 18446744073709551616 + uH a / 9223372036854775808 := by
    have hb : a / 170141183460469231731687303715884105728 = uH a / 9223372036854775808 := by unfold uH; omega
    refine u_of (by omega) ?_
    unfold nx; rw [hb]; omega
  rw [k.1, k.2]
  refine ⟨by omega, by rw [IntKind.wrap_u64]; omega, by rw [IntKind.wrap_u64]; omega, _, rfl, by rw [IntKind.wrap_u64, IntKind.wrap_u64]; omega⟩
theorem sh_w {a : Int} (ha : UU a) : (∃ z, IntKind.u64.wrap (uH a * 2) = z ∧ IntKind.u64.wrap (z + uL a / 9223372036854775808) = uH (sh a)) ∧ IntKind.u64.wrap (uL a * 2) = uL (sh a) := by
  have e2 := uHL a
  have b2 := uL_b a
  have b3 := uH_b ha
  have k : uH (sh a) = uH a * 2 % 18446744073709551616 + uL a / 9223372036854775808 ∧ uL (sh a) = uL a * 2 % 18446744073709551616 := by
    refine u_of (by omega) ?_
    unfold sh; omega
  rw [k.1, k.2]
  exact ⟨⟨_, rfl, by rw [IntKind.wrap_u64, IntKind.wrap_u64]; omega⟩, by rw [IntKind.wrap_u64]⟩
theorem sh_lt {q : Int} (hq : 0 ≤ q ∧ q < 170141183460469231731687303715884105728) : sh q = q * 2 := by unfold sh; omega
theorem inc_w {q : Int} : IntKind.u64.wrap (uL (q * 2) + 1) = uL (q * 2 + 1) ∧ uH (q * 2 + 1) = uH (q * 2) := by
  have k : uH (q * 2 + 1) = uH (q * 2) ∧ uL (q * 2 + 1) = uL (q * 2) + 1 := by
    refine u_of (by unfold uL; omega) ?_
    have := uHL (q * 2); omega
  rw [k.1, k.2]
  exact ⟨by rw [IntKind.wrap_u64]; unfold uL; omega, rfl⟩

/-- The four magnitudes at work and the results' places. -/
def Qua (w0 w : World) (a b q r : Int) : Prop :=
  Has w w0.heap.size 62 #[.int .u64 (uH a), .int .u64 (uL a)] ∧ Has w (w0.heap.size + 1) 62 #[.int .u64 (uH b), .int .u64 (uL b)] ∧
    Has w (w0.heap.size + 1 + 1) 62 #[.int .u64 0, .int .u64 0] ∧ Has w (w0.heap.size + 1 + 1 + 1) 62 #[.int .u64 0, .int .u64 0] ∧
    Has w (w0.heap.size + 1 + 1 + 1 + 1) 62 #[.int .u64 (uH q), .int .u64 (uL q)] ∧ Has w (w0.heap.size + 1 + 1 + 1 + 1 + 1) 62 #[.int .u64 (uH r), .int .u64 (uL r)] ∧ Below w0.heap.size w0 w
theorem Qua.next {w0 w w1 : World} {a b q r : Int} (h : Qua w0 w a b q r) (hb : Below w.heap.size w w1) : Qua w0 w1 a b q r :=
  ⟨h.1.below_ hb h.1.size_, h.2.1.below_ hb h.2.1.size_, h.2.2.1.below_ hb h.2.2.1.size_, h.2.2.2.1.below_ hb h.2.2.2.1.size_, h.2.2.2.2.1.below_ hb h.2.2.2.2.1.size_, h.2.2.2.2.2.1.below_ hb h.2.2.2.2.2.1.size_, belows h.2.2.2.2.2.2 hb⟩
theorem Qua.drew {w0 w : World} {a b q r : Int} (h : Qua w0 w a b q r) : Qua w0 w.drew a b q r := ⟨h.1, h.2.1, h.2.2.1, h.2.2.2.1, h.2.2.2.2.1, h.2.2.2.2.2.1, h.2.2.2.2.2.2.drew⟩

end Go.Proofs.YtbbbmlnggehcdaaDoor
