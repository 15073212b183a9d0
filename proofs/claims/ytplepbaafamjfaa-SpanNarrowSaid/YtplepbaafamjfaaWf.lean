/- Contracts of modulo and over, of Make, Floor and Ceil. -/
import Derived.Test.YtplepbaafamjfaaWe
namespace Go.Proofs.Ytplepbaafamjfaa
open Go.ChangeShapes Go.WideShapes Go.ChangeAt Go.RowKit Go.Shelf
set_option linter.unusedVariables false

def rI (a b : Int) : Int := a % b
def qI (a b : Int) : Int := a / b
theorem rI_b {a b : Int} (h : 0 < b) : 0 ≤ rI a b ∧ rI a b < b := ⟨Int.emod_nonneg _ (by omega), Int.emod_lt_of_pos _ h⟩

theorem div64_i (hi lo y : Int) (w : World) (h1 : 0 ≤ hi) (h2 : hi < y) (l1 : 0 ≤ lo) (l2 : lo ≤ 18446744073709551615) (y2 : y ≤ 18446744073709551615) :
    Calls Try.prog 68 #[.int .u64 hi, .int .u64 lo, .int .u64 y] w fun e w' => e = .returned (.tuple #[.int .u64 (qI (hi * 18446744073709551616 + lo) y), .int .u64 (rI (hi * 18446744073709551616 + lo) y)]) ∧ Dr w w' := by
  have e1 : ((hi.toNat : Nat) : Int) = hi := by omega
  have e2 : ((lo.toNat : Nat) : Int) = lo := by omega
  have e3 : ((y.toNat : Nat) : Int) = y := by omega
  have e4 : (((hi.toNat * 18446744073709551616 + lo.toNat) / y.toNat : Nat) : Int) = qI (hi * 18446744073709551616 + lo) y := by
    rw [Int.natCast_ediv, Int.natCast_add, Int.natCast_mul, e1, e2, e3]; rfl
  have e5 : (((hi.toNat * 18446744073709551616 + lo.toNat) % y.toNat : Nat) : Int) = rI (hi * 18446744073709551616 + lo) y := by
    rw [Int.natCast_emod, Int.natCast_add, Int.natCast_mul, e1, e2, e3]; rfl
  rcases Nat.eq_zero_or_pos hi.toNat with h | h
  · have k := div64_zero hi.toNat lo.toNat y.toNat w h (by omega) (by omega) (by omega)
    rw [e1, e2, e3, e4, e5] at k; exact k
  · have k := div64_any hi.toNat lo.toNat y.toNat w h (by omega) (by omega) (by omega)
    rw [e1, e2, e3, e4, e5] at k
    exact k.mono fun e w' h => ⟨h.1, h.2⟩

end Go.Proofs.Ytplepbaafamjfaa
