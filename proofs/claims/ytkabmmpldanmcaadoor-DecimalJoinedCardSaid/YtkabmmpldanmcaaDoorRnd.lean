/- Rounding: the contract of decimal.Round and of the reference's Round. -/
import Derived.Test.YtkabmmpldanmcaaDoorNum
import Derived.IntWalk
import Derived.Lib.Hide
namespace Go.Proofs.YtkabmmpldanmcaaDoor
open Go.ChangeShapes Go.WideShapes Go.ChangeAt Go.RowKit
set_option linter.unusedVariables false

theorem tdiv_bd (n u : Int) (hu : 1 ≤ u) (h1 : -1152921504606846976 ≤ n) (h2 : n ≤ 1152921504606846976) : -1152921504606846976 ≤ n.tdiv u ∧ n.tdiv u ≤ 1152921504606846976 := by
  have h := Int.natAbs_tdiv_le_natAbs n u
  omega

def farB (n : Int) : Bool := decide (n < -288230376151711744 ∨ 288230376151711744 < n)
theorem ret_one {k : IntKind} {a b : Int} (h : a = b) : Ending.returned (.int k a) = .returned (.int k b) := by rw [h]
theorem ret_pair {k k' : IntKind} {a b c : Int} (h : a = b) : Ending.returned (.tuple #[.int k a, .int k' c]) = .returned (.tuple #[.int k b, .int k' c]) := by rw [h]
theorem rnd_of {n u m x : Int} (hu : 1 ≤ u) (e : n.tdiv u * u + n.tmod u = n) (hm : m = n.tdiv u + x) (h1 : -u ≤ 2 * (n.tmod u - x * u)) (h2 : 2 * (n.tmod u - x * u) < u) : m = rnd n u := by
  refine (rnd_eq n u m hu ?_ ?_).symm <;> rw [hm, Int.add_mul] <;> omega

theorem round_ok (n u : Int) (w : World) (h1 : -1152921504606846976 ≤ n) (h2 : n ≤ 1152921504606846976) (hu : 1 ≤ u) (hu2 : u ≤ 1099511627776) :
    Calls Tryd.prog 13 #[.int .i64 n, .int .i64 u] w fun e w' => e = .returned (.tuple #[.int .i64 (rnd n u), .int .i64 0]) ∧ ∃ k, w' = w.drewN k := by
  obtain ⟨b1, b2⟩ := tdiv_bd n u hu h1 h2
  obtain ⟨e1, r1, r2⟩ := tdiv_lo n u hu
  have W1 := IntWalk.i64_in (n.tdiv u) (by omega)
  have W2 : (u == 0) = false := by simp; omega
  have W3 := IntWalk.i64_in (n.tmod u) (by omega)
  have E1 := Lib.hid e1; clear e1
  have hN : numB n = true := numB_iff.2 ⟨h1, h2⟩
  go_enter Tryd.func13, Tryd.ntmps13
  go_wp2_with (first | (go_at_call 21; refine (isNumber_any _ _).mono ?_; rintro e w' ⟨rfl, rfl⟩) | fail)
  go_quiet (fail)
  go_wp2
  all_goals go_ret2
  · exact ⟨ret_pair (rnd_of (x := 0) hu E1.out (by omega) (by omega) (by omega)), _, rfl⟩
  · exact ⟨ret_pair (rnd_of (x := -1) hu E1.out (by omega) (by omega) (by omega)), _, rfl⟩
  · exact ⟨ret_pair (rnd_of (x := 1) hu E1.out (by omega) (by omega) (by omega)), _, rfl⟩
  · exact ⟨ret_pair (rnd_of (x := 0) hu E1.out (by omega) (by omega) (by omega)), _, rfl⟩

theorem round_range (n u : Int) (w : World) (hu : u < 1 ∨ 1099511627776 < u) :
    Calls Tryd.prog 13 #[.int .i64 n, .int .i64 u] w fun e w' => e = .returned (.tuple #[.int .i64 0, .int .i64 2]) ∧ w' = w := by
  rcases hu with h | h
  · go_enter Tryd.func13, Tryd.ntmps13
    go_wp2
    go_ret2
    exact ⟨rfl, rfl⟩
  · have h' : ¬ u < 1 := by omega
    go_enter Tryd.func13, Tryd.ntmps13
    go_wp2
    go_ret2
    exact ⟨rfl, rfl⟩

theorem round_big (n u : Int) (w : World) (hn : numB n = false) (hu : 1 ≤ u) (hu2 : u ≤ 1099511627776) :
    Calls Tryd.prog 13 #[.int .i64 n, .int .i64 u] w fun e w' => e = .returned (.tuple #[.int .i64 0, .int .i64 5]) ∧ w' = w := by
  go_enter Tryd.func13, Tryd.ntmps13
  go_wp2_with (first | (go_at_call 21; refine (isNumber_any _ _).mono ?_; rintro e w' ⟨rfl, rfl⟩) | fail)
  go_ret2
  exact ⟨rfl, rfl⟩

end Go.Proofs.YtkabmmpldanmcaaDoor
