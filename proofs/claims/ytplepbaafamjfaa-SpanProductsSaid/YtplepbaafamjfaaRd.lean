/- The reference's Div at one word, Neg, Floor and Ceil. -/
import Derived.Test.YtplepbaafamjfaaRu
import Derived.Test.YtplepbaafamjfaaMk
namespace Go.Proofs.Ytplepbaafamjfaa
open Go.ChangeShapes Go.WideShapes Go.ChangeAt Go.RowKit
set_option linter.unusedVariables false

theorem div_small (x y : Int) (w : World) (hx : 0 ≤ x ∧ x ≤ 18446744073709551615) (hy : 0 < y ∧ y ≤ 18446744073709551615) :
    Calls Try.prog 59 #[.agg #[.int .u64 0, .int .u64 x], .agg #[.int .u64 0, .int .u64 y]] w fun e w' => e = .returned (.tuple #[.agg #[.int .u64 0, .int .u64 (qI x y)], .agg #[.int .u64 0, .int .u64 (rI x y)]]) ∧ Below w.heap.size w w' := by
  have q := qI_w hx.1 hx.2 hy.1
  have r := rI_b (a := x) hy.1
  have T1 : IntKind.u64.wrap (x.tdiv y) = qI x y := by rw [Int.tdiv_eq_ediv_of_nonneg hx.1, q]
  have T2 : IntKind.u64.wrap (x % y) = rI x y := by show IntKind.u64.wrap (rI x y) = _; rw [IntKind.wrap_u64]; omega
  have T3 : IntKind.u64.wrap (x.tmod y) = rI x y := by rw [Int.tmod_eq_emod_of_nonneg hx.1, T2]
  have T4 : x.tmod y = rI x y := Int.tmod_eq_emod_of_nonneg hx.1
  have V1 : x / y = qI x y := rfl
  have V2 : x % y = rI x y := rfl
  have g1 : ¬ y = 0 := by omega
  have g2 : (y == 0) = false := by simp; omega
  go_enter Try.func59, Try.ntmps59
  go_wp2
  go_region_held3 (fun w' => w'.cell? ⟨w.heap.size, 1, none⟩ = some (.int .u64 x) ∧ w'.cell? ⟨w.heap.size + 1, 1, none⟩ = some (.int .u64 y)) (go_keep) (fail)
  all_goals go_wp2
  all_goals refine bodyPost_ret (v := .tuple #[.agg #[.int .u64 0, .int .u64 (qI x y)], .agg #[.int .u64 0, .int .u64 (rI x y)]]) (by simp [results, Try.results59, go_sem]) rfl ⟨rfl, ?_⟩
  all_goals first | exact al (al (al2 _ _ _) _) _ | exact (al (al (al2 _ _ _) _) _).drew

theorem mul_i64 {q d n : Int} (h : -1152921504606846976 ≤ q * d ∧ q * d ≤ 1152921504606846976) : IntKind.i64.wrap (q * d) = q * d := IntWalk.i64_in (q * d) (by omega)
end Go.Proofs.Ytplepbaafamjfaa
