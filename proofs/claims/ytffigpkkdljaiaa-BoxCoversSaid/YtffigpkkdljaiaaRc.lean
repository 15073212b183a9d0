/- The reference: coordinates. -/
import Derived.Test.YtffigpkkdljaiaaAw
namespace Go.Proofs.Ytffigpkkdljaiaa
open Go.ChangeShapes Go.WideShapes Go.ChangeAt Go.RowKit
set_option linter.unusedVariables false
set_option linter.unusedSimpArgs false

set_option maxHeartbeats 4000000 in
set_option maxRecDepth 100000 in
theorem rcoord0 (a b c : Int) (w : World) : Calls Try.prog 44 #[.agg #[.int .i64 a, .int .i64 b, .int .i64 c], .int .i64 0] w fun E w' => E = .returned (.int .i64 a) ∧ Below w.heap.size w w' := by
  go_enter Try.func44, Try.ntmps44
  go_wp2
  go_ret
  exact ⟨rfl, al1 w _⟩
set_option maxHeartbeats 4000000 in
set_option maxRecDepth 100000 in
theorem rcoord1 (a b c : Int) (w : World) : Calls Try.prog 44 #[.agg #[.int .i64 a, .int .i64 b, .int .i64 c], .int .i64 1] w fun E w' => E = .returned (.int .i64 b) ∧ Below w.heap.size w w' := by
  go_enter Try.func44, Try.ntmps44
  go_wp2
  go_ret
  exact ⟨rfl, al1 w _⟩
set_option maxHeartbeats 4000000 in
set_option maxRecDepth 100000 in
theorem rcoord2 (a b c : Int) (w : World) : Calls Try.prog 44 #[.agg #[.int .i64 a, .int .i64 b, .int .i64 c], .int .i64 2] w fun E w' => E = .returned (.int .i64 c) ∧ Below w.heap.size w w' := by
  go_enter Try.func44, Try.ntmps44
  go_wp2
  go_ret
  exact ⟨rfl, al1 w _⟩
def lenB (n : Int) : Bool := decide (-1048576 ≤ n) && decide (n ≤ 1048576)
theorem rlen_any (n : Int) (w : World) : Calls Try.prog 43 #[.int .i64 n] w fun E w' => E = .returned (.bool (lenB n)) ∧ w' = w := by
  unfold lenB
  by_cases h1 : -1048576 ≤ n
  · by_cases h2 : n ≤ 1048576
    · go_enter Try.func43, Try.ntmps43
      go_wp2
      go_ret
      exact ⟨by simp [h1, h2], rfl⟩
    · go_enter Try.func43, Try.ntmps43
      go_wp2
      go_ret
      exact ⟨by simp [h1, h2], rfl⟩
  · have g : decide (-1048576 ≤ n) = false := by simp; omega
    rw [g]
    go_enter Try.func43, Try.ntmps43
    go_wp2
    go_ret
    exact ⟨rfl, rfl⟩
theorem rlen_b (n : Int) (w : World) : Calls Try.prog 43 #[.int .i64 n] w fun E w' => E = .returned (.bool (lenB n)) ∧ Below w.heap.size w w' := (rlen_any n w).mono fun _ _ h => ⟨h.1, h.2 ▸ Below.refl _ _⟩
theorem sdV_len (lo hi : Int) : sdV lo hi = (lenB lo && lenB hi && !decide (hi < lo)) := by
  unfold sdV lenB
  rw [Bool.eq_iff_iff]
  simp only [Bool.and_eq_true, decide_eq_true_eq, Bool.not_eq_true', decide_eq_false_iff_not]
  omega
end Go.Proofs.Ytffigpkkdljaiaa
