/- Rounding: the contract of decimal.Round and of the reference's Round. -/
import Derived.Test.YthphgppgdlimeaaDNum
import Derived.IntWalk
import Derived.Lib.Hide
namespace Go.Proofs.Ythphgppgdlimeaa.Dec
open Go.ChangeShapes Go.WideShapes Go.ChangeAt Go.RowKit
set_option linter.unusedVariables false

theorem tdiv_bd (n u : Int) (hu : 1 ≤ u) (h1 : -1152921504606846976 ≤ n) (h2 : n ≤ 1152921504606846976) : -1152921504606846976 ≤ n.tdiv u ∧ n.tdiv u ≤ 1152921504606846976 := by
  have h := Int.natAbs_tdiv_le_natAbs n u
  omega

def farB (n : Int) : Bool := decide (n < -288230376151711744 ∨ 288230376151711744 < n)
theorem ret_one {k : IntKind} {a b : Int} (h : a = b) : Ending.returned (.int k a) = .returned (.int k b) := by rw [h]
theorem ret_pair {k k' : IntKind} {a b c : Int} (h : a = b) : Ending.returned (.tuple #[.int k a, .int k' c]) = .returned (.tuple #[.int k b, .int k' c]) := by rw [h]
theorem rnd_of {n u m x : Int} (hu : 1 ≤ u) (e : n.tdiv u * u + n.tmod u = n) (hm : m = n.tdiv u + x) (h1 : -u ≤ 2 * (n.tmod u - x * u)) (h2 : 2 * (n.tmod u - x * u) < u) : m = rnd n u := by
  refine (rnd_eq n u m hu ?_ ?_).symm <;> rw [hm, Int.add_mul] <;> omega

end Go.Proofs.Ythphgppgdlimeaa.Dec
