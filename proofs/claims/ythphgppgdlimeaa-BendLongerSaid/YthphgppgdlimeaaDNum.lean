/- Contracts of the small number functions of package decimal and of the reference: whether a number is in range, and rounding. No conditions but that the arguments fit their kinds. -/
import Derived.Test.YthphgppgdlimeaaRows
import Derived.WalkKit
import Derived.ProofKit
import Derived.OpenShut
import Derived.Deep.QuietTactic
import Derived.BigQuiet
import Derived.Outline
namespace Go.Proofs.Ythphgppgdlimeaa.Dec
open Go.ChangeShapes Go.WideShapes Go.ChangeAt Go.RowKit

def numB (n : Int) : Bool := decide (-1152921504606846976 ≤ n ∧ n ≤ 1152921504606846976)
def plB (n : Int) : Bool := decide (0 ≤ n ∧ n ≤ 9)
theorem numB_iff {n : Int} : numB n = true ↔ (-1152921504606846976 ≤ n ∧ n ≤ 1152921504606846976) := by unfold numB; simp
theorem plB_iff {n : Int} : plB n = true ↔ (0 ≤ n ∧ n ≤ 9) := by unfold plB; simp

/-- The multiple to which n rounds. -/
def rnd (n u : Int) : Int := (2 * n + u) / (2 * u)

theorem tdiv_lo (n u : Int) (hu : 1 ≤ u) : n.tdiv u * u + n.tmod u = n ∧ (-u < n.tmod u ∧ n.tmod u < u) := by
  have h1 := Int.tdiv_mul_add_tmod n u
  have h2 := Int.tmod_lt_of_pos n (show 0 < u by omega)
  have h3 := Int.lt_tmod_of_pos n (show 0 < u by omega)
  exact ⟨h1, h3, h2⟩

theorem rnd_eq (n u m : Int) (hu : 1 ≤ u) (h1 : -u ≤ 2 * (n - m * u)) (h2 : 2 * (n - m * u) < u) : rnd n u = m := by
  unfold rnd
  have e : 2 * n + u = (2 * (n - m * u) + u) + m * (2 * u) := by
    rw [Int.mul_sub, show m * (2 * u) = 2 * (m * u) by rw [Int.mul_left_comm]]; omega
  rw [e, Int.add_mul_ediv_right _ _ (by omega), Int.ediv_eq_zero_of_lt (by omega) (by omega)]; omega

end Go.Proofs.Ythphgppgdlimeaa.Dec
