/- The reference: Nearest. -/
import Derived.Test.YtffigpkkdljaiaaRb
namespace Go.Proofs.Ytffigpkkdljaiaa
open Go.ChangeShapes Go.WideShapes Go.ChangeAt Go.RowKit
set_option linter.unusedVariables false
set_option linter.unusedSimpArgs false

set_option maxHeartbeats 4000000 in
set_option maxRecDepth 100000 in
theorem rwith0 (a b c z : Int) (w : World) : Calls Try.prog 45 #[.agg #[.int .i64 a, .int .i64 b, .int .i64 c], .int .i64 0, .int .i64 z] w fun E w' => E = .returned (.agg #[.int .i64 z, .int .i64 b, .int .i64 c]) ∧ Below w.heap.size w w' := by
  have E := ((Env.nil w).add w.heap.size 23 #[.int .i64 a, .int .i64 b, .int .i64 c] rfl).add (w.heap.size + 1) 23 #[.int .i64 0, .int .i64 0, .int .i64 0] (by simp)
  have C := E.cells
  simp [BC, CF] at C
  go_enter Try.func45, Try.ntmps45
  go_wp2
  refine bodyPost_ret (v := .agg #[.int .i64 z, .int .i64 b, .int .i64 c]) (by simp [results, Try.results45, go_sem, C]) rfl ⟨rfl, ?_⟩
  first
    | with_reducible exact al (al1 w _) _
    | with_reducible exact ((al (al1 w _) _).setCell (by dsimp only; omega) _)
    | with_reducible exact (((((al (al1 w _) _).setCell (by dsimp only; omega) _).setCell (by dsimp only; omega) _).setCell (by dsimp only; omega) _).setCell (by dsimp only; omega) _)
    | with_reducible exact ((al ((al1 w _).setCell (by dsimp only; omega) _) _))
set_option maxHeartbeats 4000000 in
set_option maxRecDepth 100000 in
theorem rwith1 (a b c z : Int) (w : World) : Calls Try.prog 45 #[.agg #[.int .i64 a, .int .i64 b, .int .i64 c], .int .i64 1, .int .i64 z] w fun E w' => E = .returned (.agg #[.int .i64 a, .int .i64 z, .int .i64 c]) ∧ Below w.heap.size w w' := by
  have E := ((Env.nil w).add w.heap.size 23 #[.int .i64 a, .int .i64 b, .int .i64 c] rfl).add (w.heap.size + 1) 23 #[.int .i64 0, .int .i64 0, .int .i64 0] (by simp)
  have C := E.cells
  simp [BC, CF] at C
  go_enter Try.func45, Try.ntmps45
  go_wp2
  refine bodyPost_ret (v := .agg #[.int .i64 a, .int .i64 z, .int .i64 c]) (by simp [results, Try.results45, go_sem, C]) rfl ⟨rfl, ?_⟩
  first
    | with_reducible exact al (al1 w _) _
    | with_reducible exact ((al (al1 w _) _).setCell (by dsimp only; omega) _)
    | with_reducible exact (((((al (al1 w _) _).setCell (by dsimp only; omega) _).setCell (by dsimp only; omega) _).setCell (by dsimp only; omega) _).setCell (by dsimp only; omega) _)
    | with_reducible exact ((al ((al1 w _).setCell (by dsimp only; omega) _) _))
set_option maxHeartbeats 4000000 in
set_option maxRecDepth 100000 in
theorem rwith2 (a b c z : Int) (w : World) : Calls Try.prog 45 #[.agg #[.int .i64 a, .int .i64 b, .int .i64 c], .int .i64 2, .int .i64 z] w fun E w' => E = .returned (.agg #[.int .i64 a, .int .i64 b, .int .i64 z]) ∧ Below w.heap.size w w' := by
  have E := ((Env.nil w).add w.heap.size 23 #[.int .i64 a, .int .i64 b, .int .i64 c] rfl).add (w.heap.size + 1) 23 #[.int .i64 0, .int .i64 0, .int .i64 0] (by simp)
  have C := E.cells
  simp [BC, CF] at C
  go_enter Try.func45, Try.ntmps45
  go_wp2
  refine bodyPost_ret (v := .agg #[.int .i64 a, .int .i64 b, .int .i64 z]) (by simp [results, Try.results45, go_sem, C]) rfl ⟨rfl, ?_⟩
  first
    | with_reducible exact al (al1 w _) _
    | with_reducible exact ((al (al1 w _) _).setCell (by dsimp only; omega) _)
    | with_reducible exact (((((al (al1 w _) _).setCell (by dsimp only; omega) _).setCell (by dsimp only; omega) _).setCell (by dsimp only; omega) _).setCell (by dsimp only; omega) _)
    | with_reducible exact ((al ((al1 w _).setCell (by dsimp only; omega) _) _))
end Go.Proofs.Ytffigpkkdljaiaa
