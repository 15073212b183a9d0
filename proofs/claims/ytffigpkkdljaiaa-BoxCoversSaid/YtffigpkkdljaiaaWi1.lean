/- Squared distances of points, a point as a box. -/
import Derived.Test.YtffigpkkdljaiaaLm0
namespace Go.Proofs.Ytffigpkkdljaiaa
open Go.ChangeShapes Go.WideShapes Go.ChangeAt Go.RowKit
set_option linter.unusedVariables false
set_option linter.unusedSimpArgs false

def sqP (a b c a' b' c' : Int) : Int := (a - a') * (a - a') + (b - b') * (b - b') + (c - c') * (c - c')
def In6 (n : Int) : Prop := -1048576 ≤ n ∧ n ≤ 1048576
theorem sq_b {d : Int} (h0 : -2097152 ≤ d) (h1 : d ≤ 2097152) : 0 ≤ d * d ∧ d * d ≤ 4398046511104 := by
  have h2 : 0 ≤ d * d := by
    rcases Int.le_total 0 d with h | h
    · exact Int.mul_nonneg h h
    · have := Int.mul_nonneg (show 0 ≤ -d by omega) (show 0 ≤ -d by omega); rwa [Int.neg_mul_neg] at this
  have h3 : (2097152 - d) * (2097152 + d) = 4398046511104 - d * d := by
    rw [Int.sub_mul, Int.mul_add, Int.mul_add, Int.mul_comm d 2097152]; omega
  have h4 := Int.mul_nonneg (show 0 ≤ 2097152 - d by omega) (show 0 ≤ 2097152 + d by omega)
  omega
set_option maxHeartbeats 8000000 in
set_option maxRecDepth 100000 in
theorem psquare_any (a b c a' b' c' : Int) (w : World) (h0 : In6 a) (h1 : In6 b) (h2 : In6 c) (h3 : In6 a') (h4 : In6 b') (h5 : In6 c') :
    Calls Try.prog 24 #[ptv a b c, ptv a' b' c'] w fun e w' => e = .returned (.int .i64 (sqP a b c a' b' c')) ∧ Below w.heap.size w w' := by
  unfold In6 at *
  have E := ((Env.nil w).add w.heap.size 23 #[.int .i64 a, .int .i64 b, .int .i64 c] rfl).add (w.heap.size + 1) 23 #[.int .i64 a', .int .i64 b', .int .i64 c'] (by simp)
  have V1 : IntKind.i64.wrap (a - a') = a - a' := IntWalk.i64_in _ (by omega)
  have V2 : IntKind.i64.wrap (b - b') = b - b' := IntWalk.i64_in _ (by omega)
  have V3 : IntKind.i64.wrap (c - c') = c - c' := IntWalk.i64_in _ (by omega)
  have s1 := sq_b (d := a - a') (by omega) (by omega)
  have s2 := sq_b (d := b - b') (by omega) (by omega)
  have s3 := sq_b (d := c - c') (by omega) (by omega)
  clear h0 h1 h2 h3 h4 h5
  unfold sqP
  have W1 : IntKind.i64.wrap ((a - a') * (a - a')) = (a - a') * (a - a') := IntWalk.i64_in _ (by omega)
  have W2 : IntKind.i64.wrap ((b - b') * (b - b')) = (b - b') * (b - b') := IntWalk.i64_in _ (by omega)
  have W3 : IntKind.i64.wrap ((c - c') * (c - c')) = (c - c') * (c - c') := IntWalk.i64_in _ (by omega)
  have W4 : IntKind.i64.wrap ((a - a') * (a - a') + (b - b') * (b - b')) = (a - a') * (a - a') + (b - b') * (b - b') := IntWalk.i64_in _ (by omega)
  have W5 : IntKind.i64.wrap ((a - a') * (a - a') + (b - b') * (b - b') + (c - c') * (c - c')) = (a - a') * (a - a') + (b - b') * (b - b') + (c - c') * (c - c') := IntWalk.i64_in _ (by omega)
  clear s1 s2 s3
  unfold ptv
  have C := E.cells
  simp [BC, CF] at C
  go_enter Try.func24, Try.ntmps24
  go_upto_region 1 with fail
  go_region
  all_goals go_wp2
  all_goals go_ret
  all_goals exact ⟨rfl, E.drw.1⟩
set_option maxHeartbeats 8000000 in
set_option maxRecDepth 100000 in
theorem point_any (a b c : Int) (w : World) : Calls Try.prog 23 #[ptv a b c] w fun e w' => e = .returned (Bx.val ⟨a, b, c, a, b, c⟩) ∧ Below w.heap.size w w' := by
  unfold ptv Bx.val
  go_enter Try.func23, Try.ntmps23
  go_wp2
  refine bodyPost_ret (v := .agg #[.int .i64 a, .int .i64 b, .int .i64 c, .int .i64 a, .int .i64 b, .int .i64 c]) (by simp [results, Try.results23, go_sem]) rfl ⟨rfl, ?_⟩
  with_reducible exact al (al1 w _) _
end Go.Proofs.Ytffigpkkdljaiaa
