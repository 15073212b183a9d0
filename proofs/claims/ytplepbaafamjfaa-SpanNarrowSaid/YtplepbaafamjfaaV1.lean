/- Contracts of span: Valid, fit, Add, Sub, Meet, size, wholeRoot. -/
import Derived.Test.YtplepbaafamjfaaEn
namespace Go.Proofs.Ytplepbaafamjfaa
open Go.ChangeShapes Go.WideShapes Go.ChangeAt Go.RowKit
set_option linter.unusedVariables false
set_option linter.unusedSimpArgs false

theorem svalid_any (lo hi : Int) (w : World) :
    Calls Try.prog 16 #[.agg #[.int .i64 lo, .int .i64 hi]] w fun e w' => e = .returned (.bool (sB lo hi)) ∧ Below w.heap.size w w' := by
  have hs : sB lo hi = (decide (lo ≤ hi) && decide (-1152921504606846976 ≤ lo) && decide (hi ≤ 1152921504606846976)) := by
    rw [Bool.eq_iff_iff, sB_t]; unfold SV; simp only [Bool.and_eq_true, decide_eq_true_eq, and_assoc]
  rw [hs]; clear hs
  go_enter Try.func16, Try.ntmps16
  go_wp2
  all_goals go_ret
  all_goals refine ⟨?_, al1 _ _⟩
  all_goals simp_all
  all_goals omega

theorem sfit_any (lo hi : Int) (w : World) {x y e0 : Int} (hr : fitS lo hi = (x, y, e0)) :
    Calls Try.prog 45 #[.agg #[.int .i64 lo, .int .i64 hi]] w fun e w' => e = .returned (.tuple #[.agg #[.int .i64 x, .int .i64 y], .int .i64 e0]) ∧ Below w.heap.size w w' := by
  cases hv : sB lo hi
  · have e : (x, y, e0) = (0, 0, 5) := by rw [← hr]; unfold fitS; rw [hv]; rfl
    simp only [Prod.mk.injEq] at e; obtain ⟨rfl, rfl, rfl⟩ := e
    clear hr
    go_enter Try.func45, Try.ntmps45
    go_wp2_with (go_at_call 16; refine (svalid_any _ _ _).mono ?_; rw [hv]; rintro e w1 ⟨rfl, hb⟩; have E := (env_two w lo hi 0 0 23 23).on hb; have C := E.cells; simp only [BC] at C; clear hb)
    refine bodyPost_ret (v := .tuple #[.agg #[.int .i64 0, .int .i64 0], .int .i64 5]) (by simp [results, Try.results45, go_sem, C]) rfl ⟨rfl, ?_⟩
    exact (E.1.setCell (by simp) _).setCell (by simp) _
  · have e : (x, y, e0) = (lo, hi, 0) := by rw [← hr]; unfold fitS; rw [hv]; rfl
    simp only [Prod.mk.injEq] at e; obtain ⟨rfl, rfl, rfl⟩ := e
    clear hr
    go_enter Try.func45, Try.ntmps45
    go_wp2_with (go_at_call 16; refine (svalid_any _ _ _).mono ?_; rw [hv]; rintro e w1 ⟨rfl, hb⟩; have E := (env_two w x y 0 0 23 23).on hb; have C := E.cells; simp only [BC] at C; clear hb)
    refine bodyPost_ret (v := .tuple #[.agg #[.int .i64 x, .int .i64 y], .int .i64 0]) (by simp [results, Try.results45, go_sem, C]) rfl ⟨rfl, ?_⟩
    exact (E.1.setCell (by simp) _).setCell (by simp) _
end Go.Proofs.Ytplepbaafamjfaa
