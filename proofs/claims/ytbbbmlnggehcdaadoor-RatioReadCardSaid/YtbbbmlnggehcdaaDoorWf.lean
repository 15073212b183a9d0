/- Contracts of modulo and over, of Make, Floor and Ceil. -/
import Derived.Test.YtbbbmlnggehcdaaDoorWe
namespace Go.Proofs.YtbbbmlnggehcdaaDoor
open Go.ChangeShapes Go.WideShapes Go.ChangeAt Go.RowKit Go.Shelf
set_option linter.unusedVariables false

def rI (a b : Int) : Int := a % b
def qI (a b : Int) : Int := a / b
theorem rI_b {a b : Int} (h : 0 < b) : 0 ≤ rI a b ∧ rI a b < b := ⟨Int.emod_nonneg _ (by omega), Int.emod_lt_of_pos _ h⟩

theorem div64_i (hi lo y : Int) (w : World) (h1 : 0 ≤ hi) (h2 : hi < y) (l1 : 0 ≤ lo) (l2 : lo ≤ 18446744073709551615) (y2 : y ≤ 18446744073709551615) :
    Calls Tryd.prog 70 #[.int .u64 hi, .int .u64 lo, .int .u64 y] w fun e w' => e = .returned (.tuple #[.int .u64 (qI (hi * 18446744073709551616 + lo) y), .int .u64 (rI (hi * 18446744073709551616 + lo) y)]) ∧ Dr w w' := by
  have e1 : ((hi.toNat : Nat) : Int) = hi := by omega
  have e2 : ((lo.toNat : Nat) : Int) = lo := by omega
  have e3 : ((y.toNat : Nat) : Int) = y := by omega
  have e4 : (((hi.toNat * 18446744073709551616 + lo.toNat) / y.toNat : Nat) : Int) = qI (hi * 18446744073709551616 + lo) y := by
    rw [Int.natCast_ediv, Int.natCast_add, Int.natCast_mul, e1, e2, e3]; rfl
  have e5 : (((hi.toNat * 18446744073709551616 + lo.toNat) % y.toNat : Nat) : Int) = rI (hi * 18446744073709551616 + lo) y := by
    rw [Int.natCast_emod, Int.natCast_add, Int.natCast_mul, e1, e2, e3]; rfl
  rcases Nat.eq_zero_or_pos hi.toNat with h | h
  · have k := div64_zero hi.toNat lo.toNat y.toNat w h (by omega) (by omega) (by omega)
    rw [e1, e2, e3, e4, e5] at k; exact k
  · have k := div64_any hi.toNat lo.toNat y.toNat w h (by omega) (by omega) (by omega)
    rw [e1, e2, e3, e4, e5] at k
    exact k.mono fun e w' h => ⟨h.1, h.2⟩

theorem rem64_i (hi lo y : Int) (w : World) (h1 : 0 ≤ hi) (h2 : hi ≤ 18446744073709551615) (l1 : 0 ≤ lo) (l2 : lo ≤ 18446744073709551615) (y1 : 0 < y) (y2 : y ≤ 18446744073709551615) :
    Calls Tryd.prog 69 #[.int .u64 hi, .int .u64 lo, .int .u64 y] w fun e w' => e = .returned (.int .u64 (rI (hi * 18446744073709551616 + lo) y)) ∧ Dr w w' := by
  have hb := rI_b (a := hi) y1
  have hr : rI (rI hi y * 18446744073709551616 + lo) y = rI (hi * 18446744073709551616 + lo) y := by
    unfold rI; rw [Int.add_emod, Int.mul_emod, Int.emod_emod, ← Int.mul_emod, ← Int.add_emod]
  have hD := fun w => div64_i (rI hi y) lo y w hb.1 hb.2 l1 l2 y2
  simp only [hr] at hD
  clear hr
  have hm : hi % y = rI hi y := rfl
  have h0 : (y == 0) = false := by simp; omega
  generalize rI (hi * 18446744073709551616 + lo) y = R at *
  generalize qI (rI hi y * 18446744073709551616 + lo) y = Q at *
  generalize rI hi y = m at *
  go_enter Tryd.func69, Tryd.ntmps69
  go_wp2_with (first | (go_at_call 70; refine (hD _).mono ?_; rintro e w1 ⟨rfl, hb⟩))
  go_ret
  exact ⟨rfl, ‹_›⟩

theorem modulo_any (x n : Int) (w : World) (hx : Sm x) (n1 : 0 < n) (n2 : n ≤ 18446744073709551615) :
    Calls Tryd.prog 49 #[.agg #[.bool (wS x), .int .u64 (wH x), .int .u64 (wL x)], .int .u64 n] w fun e w' => e = .returned (.int .u64 (rI (ab x) n)) ∧ Below w.heap.size w w' := by
  have b1 := wH_b hx
  have b2 := wL_b x
  have hR := fun w => rem64_i (wH x) (wL x) n w b1.1 (by omega) b2.1 b2.2 n1 n2
  rw [wHL x] at hR
  generalize rI (ab x) n = R at *
  go_enter Tryd.func49, Tryd.ntmps49
  go_wp2_with (first | (go_at_call 69; refine (hR _).mono ?_; rintro e w1 ⟨rfl, hd⟩))
  go_ret
  exact ⟨rfl, Dr.below (al1 _ _) hd⟩

theorem over_small (x n : Int) (w : World) (hx : Sm x) (n1 : 0 < n) (n2 : n ≤ 18446744073709551615) (h : wH x < n) :
    Calls Tryd.prog 50 #[.agg #[.bool (wS x), .int .u64 (wH x), .int .u64 (wL x)], .int .u64 n] w fun e w' => e = .returned (.tuple #[.int .u64 (qI (ab x) n), .bool true]) ∧ Below w.heap.size w w' := by
  have b1 := wH_b hx
  have b2 := wL_b x
  have hD := fun w => div64_i (wH x) (wL x) n w b1.1 h b2.1 b2.2 n2
  rw [wHL x] at hD
  generalize qI (ab x) n = Q at *
  generalize rI (ab x) n = R at *
  go_enter Tryd.func50, Tryd.ntmps50
  go_wp2_with (first | (go_at_call 70; refine (hD _).mono ?_; rintro e w1 ⟨rfl, hd⟩))
  go_ret2
  exact ⟨rfl, Dr.below (al1 _ _) hd⟩
theorem over_big (x n : Int) (w : World) (h : n ≤ wH x) :
    Calls Tryd.prog 50 #[.agg #[.bool (wS x), .int .u64 (wH x), .int .u64 (wL x)], .int .u64 n] w fun e w' => e = .returned (.tuple #[.int .u64 0, .bool false]) ∧ Below w.heap.size w w' := by
  go_enter Tryd.func50, Tryd.ntmps50
  go_wp2
  go_ret2
  exact ⟨rfl, al1 _ _⟩
end Go.Proofs.YtbbbmlnggehcdaaDoor
