/- The contracts of Of, and of the small functions of the statements and of the reference. -/
import Derived.Test.YtplepbaafamjfaaV5
import Derived.Test.YtplepbaafamjfaaV6
namespace Go.Proofs.Ytplepbaafamjfaa
open Go.ChangeShapes Go.WideShapes Go.ChangeAt Go.RowKit
set_option linter.unusedVariables false
set_option linter.unusedSimpArgs false

theorem mn_min (a b : Int) : mn a b = min a b := by unfold mn; rw [Int.min_def]
theorem mx_max (a b : Int) : mx a b = max a b := by unfold mx; rw [Int.max_def]
theorem of_any (a b : Int) (w : World) :
    Calls Try.prog 39 #[.int .i64 a, .int .i64 b] w fun e w' => e = .returned (.agg #[.int .i64 (mn a b), .int .i64 (mx a b)]) ∧ Below w.heap.size w w' := by
  rw [mn_min, mx_max]
  go_enter Try.func39, Try.ntmps39
  go_wp2
  refine bodyPost_ret (v := .agg #[.int .i64 (min a b), .int .i64 (max a b)]) (by simp [results, Try.results39, go_sem]) rfl ⟨rfl, ?_⟩
  exact al1 _ _

theorem rsvalid_any (lo hi : Int) (w : World) :
    Calls Try.prog 17 #[.agg #[.int .i64 lo, .int .i64 hi]] w fun e w' => e = .returned (.bool (sB lo hi)) ∧ Below w.heap.size w w' := by
  have hs : sB lo hi = (decide (lo ≤ hi) && decide (-1152921504606846976 ≤ lo) && decide (hi ≤ 1152921504606846976)) := by
    rw [Bool.eq_iff_iff, sB_t]; unfold SV; simp only [Bool.and_eq_true, decide_eq_true_eq, and_assoc]
  rw [hs]; clear hs
  go_enter Try.func17, Try.ntmps17
  go_wp2
  all_goals go_ret
  all_goals refine ⟨?_, al1 _ _⟩
  all_goals simp_all
  all_goals omega
def hasB (lo hi n : Int) : Bool := decide (lo ≤ n) && decide (n ≤ hi)
theorem has_any (lo hi n : Int) (w : World) :
    Calls Try.prog 35 #[.agg #[.int .i64 lo, .int .i64 hi], .int .i64 n] w fun e w' => e = .returned (.bool (hasB lo hi n)) ∧ Below w.heap.size w w' := by
  unfold hasB
  go_enter Try.func35, Try.ntmps35
  go_wp2
  all_goals go_ret
  all_goals refine ⟨?_, al1 _ _⟩
  all_goals simp_all
  all_goals omega
def insB (al ah bl bh : Int) : Bool := decide (bl ≤ al) && decide (ah ≤ bh)
theorem inside_any (al ah bl bh : Int) (w : World) :
    Calls Try.prog 41 #[.agg #[.int .i64 al, .int .i64 ah], .agg #[.int .i64 bl, .int .i64 bh]] w fun e w' => e = .returned (.bool (insB al ah bl bh)) ∧ Below w.heap.size w w' := by
  unfold insB
  go_enter Try.func41, Try.ntmps41
  go_wp2
  all_goals go_ret
  all_goals refine ⟨?_, al2 _ _ _⟩
  all_goals simp_all
  all_goals omega
def wrongB (al ah e : Int) : Bool := (al == 0 && ah == 0) && e == 1
theorem wrong_any (al ah e : Int) (w : World) :
    Calls Try.prog 18 #[.agg #[.int .i64 al, .int .i64 ah], .int .i64 e] w fun x w' => x = .returned (.bool (wrongB al ah e)) ∧ Below w.heap.size w w' := by
  unfold wrongB
  go_enter Try.func18, Try.ntmps18
  go_wp2
  all_goals go_ret
  all_goals refine ⟨?_, al1 _ _⟩
  all_goals simp_all
theorem rfits_any (lo hi : Int) (w : World) {x y e0 : Int} (hr : fitS lo hi = (x, y, e0)) :
    Calls Try.prog 47 #[.int .i64 lo, .int .i64 hi] w fun e w' => e = .returned (.tuple #[.agg #[.int .i64 x, .int .i64 y], .int .i64 e0]) ∧ Below w.heap.size w w' := by
  cases hv : sB lo hi
  · have e : (x, y, e0) = (0, 0, 5) := by rw [← hr]; unfold fitS; rw [hv]; rfl
    simp only [Prod.mk.injEq] at e; obtain ⟨rfl, rfl, rfl⟩ := e
    clear hr
    go_enter Try.func47, Try.ntmps47
    go_wp2_with (go_at_call 17; refine (rsvalid_any _ _ _).mono ?_; rw [hv]; rintro e w1 ⟨rfl, hb⟩; have E := (env_two w 0 0 lo hi 23 23).on hb; have C := E.cells; simp only [BC] at C; clear hb)
    refine bodyPost_ret (v := .tuple #[.agg #[.int .i64 0, .int .i64 0], .int .i64 5]) (by simp [results, Try.results47, go_sem, C]) rfl ⟨rfl, ?_⟩
    exact (E.1.setCell (by simp) _).setCell (by simp) _
  · have e : (x, y, e0) = (lo, hi, 0) := by rw [← hr]; unfold fitS; rw [hv]; rfl
    simp only [Prod.mk.injEq] at e; obtain ⟨rfl, rfl, rfl⟩ := e
    clear hr
    go_enter Try.func47, Try.ntmps47
    go_wp2_with (go_at_call 17; refine (rsvalid_any _ _ _).mono ?_; rw [hv]; rintro e w1 ⟨rfl, hb⟩; have E := (env_two w 0 0 x y 23 23).on hb; have C := E.cells; simp only [BC] at C; clear hb)
    refine bodyPost_ret (v := .tuple #[.agg #[.int .i64 x, .int .i64 y], .int .i64 0]) (by simp [results, Try.results47, go_sem, C]) rfl ⟨rfl, ?_⟩
    exact (E.1.setCell (by simp) _).setCell (by simp) _
def ofR (n d unit : Int) : Int × Int × Int := if vB n d then (if 1 ≤ unit ∧ unit ≤ 1099511627776 then fitS (sLo n unit d) (sHi n unit d) else (0, 0, 2)) else (0, 0, 1)
theorem sof_bad (n d unit : Int) (w : World) (n1 : -9223372036854775808 ≤ n) (n2 : n ≤ 9223372036854775807) (d1 : -9223372036854775808 ≤ d) (d2 : d ≤ 9223372036854775807) (hv : vB n d = false) :
    Calls Try.prog 29 #[.agg #[.int .i64 n, .int .i64 d], .int .i64 unit] w fun e w' => e = .returned (.tuple #[.agg #[.int .i64 0, .int .i64 0], .int .i64 1]) ∧ Below w.heap.size w w' := by
  go_enter Try.func29, Try.ntmps29
  go_wp2_with (go_at_call 55; refine (valid_any _ _ _ n1 n2 d1 d2).mono ?_; rw [hv]; rintro e w1 ⟨rfl, hb⟩; have E := (env_two w n d 0 0 35 23).on hb; have C := E.cells; simp only [BC] at C; clear hb)
  refine bodyPost_ret (v := .tuple #[.agg #[.int .i64 0, .int .i64 0], .int .i64 1]) (by simp [results, Try.results29, go_sem, C]) rfl ⟨rfl, ?_⟩
  exact (E.1.setCell (by simp) _).setCell (by simp) _
theorem sof_far (n d unit : Int) (w : World) (v : V n d) (hu : unit < 1 ∨ 1099511627776 < unit) :
    Calls Try.prog 29 #[.agg #[.int .i64 n, .int .i64 d], .int .i64 unit] w fun e w' => e = .returned (.tuple #[.agg #[.int .i64 0, .int .i64 0], .int .i64 2]) ∧ Below w.heap.size w w' := by
  have hv := vB_t.2 v
  obtain ⟨d1, d2, n1, n2, -⟩ := v
  by_cases c1 : unit < 1
  · clear hu
    go_enter Try.func29, Try.ntmps29
    go_wp2_with (go_at_call 55; refine (valid_any _ _ _ (by omega) (by omega) (by omega) (by omega)).mono ?_; rw [hv]; rintro e w1 ⟨rfl, hb⟩; have E := (env_two w n d 0 0 35 23).on hb; have C := E.cells; simp only [BC] at C; clear hb)
    refine bodyPost_ret (v := .tuple #[.agg #[.int .i64 0, .int .i64 0], .int .i64 2]) (by simp [results, Try.results29, go_sem, C]) rfl ⟨rfl, ?_⟩
    exact (E.1.setCell (by simp) _).setCell (by simp) _
  · have c2 : 1099511627776 < unit := by omega
    clear hu
    go_enter Try.func29, Try.ntmps29
    go_wp2_with (go_at_call 55; refine (valid_any _ _ _ (by omega) (by omega) (by omega) (by omega)).mono ?_; rw [hv]; rintro e w1 ⟨rfl, hb⟩; have E := (env_two w n d 0 0 35 23).on hb; have C := E.cells; simp only [BC] at C; clear hb)
    refine bodyPost_ret (v := .tuple #[.agg #[.int .i64 0, .int .i64 0], .int .i64 2]) (by simp [results, Try.results29, go_sem, C]) rfl ⟨rfl, ?_⟩
    exact (E.1.setCell (by simp) _).setCell (by simp) _
theorem sof_ok (n d unit : Int) (w : World) (v : V n d) (u1 : 1 ≤ unit) (u2 : unit ≤ 1099511627776) {x y e0 : Int} (hr : fitS (sLo n unit d) (sHi n unit d) = (x, y, e0)) :
    Calls Try.prog 29 #[.agg #[.int .i64 n, .int .i64 d], .int .i64 unit] w fun e w' => e = .returned (.tuple #[.agg #[.int .i64 x, .int .i64 y], .int .i64 e0]) ∧ Below w.heap.size w w' := by
  have hv := vB_t.2 v
  obtain ⟨d1, d2, n1, n2, -⟩ := v
  have hS := fun W => scaled_any n unit d W (by omega) (by omega) (by omega) (by omega) (by omega) (by omega) (by omega)
  generalize sLo n unit d = l at *
  generalize sHi n unit d = h at *
  have hF := fun W => sfit_any l h W hr
  clear hr
  go_enter Try.func29, Try.ntmps29
  go_wp2_with (first | (go_at_call 55; refine (valid_any _ _ _ (by omega) (by omega) (by omega) (by omega)).mono ?_; rw [hv]; rintro e w1 ⟨rfl, hb⟩; have E := (env_two w n d 0 0 35 23).on hb; have C := E.cells; simp only [BC] at C; clear hb) | (go_at_call 52; (with_reducible refine (hS _).mono ?_); rintro e w2 ⟨rfl, hb⟩; replace E := E.on hb; replace C := E.cells; simp only [BC] at C; clear hb) | (go_at_call 45; (with_reducible refine (hF _).mono ?_); rintro e w3 ⟨rfl, hb⟩; replace E := E.on hb; replace C := E.cells; simp only [BC] at C; clear hb))
  refine bodyPost_ret (v := .tuple #[.agg #[.int .i64 x, .int .i64 y], .int .i64 e0]) (by simp [results, Try.results29, go_sem, C]) rfl ⟨rfl, ?_⟩
  exact (E.1.setCell (by simp) _).setCell (by simp) _
end Go.Proofs.Ytplepbaafamjfaa
