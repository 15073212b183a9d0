/- Radii and masses. -/
import Derived.Test.YthphgppgdlimeaaSz
namespace Go.Proofs.Ythphgppgdlimeaa
open Go.ChangeShapes Go.WideShapes Go.ChangeAt Go.RowKit
set_option linter.unusedVariables false
set_option linter.unusedSimpArgs false

theorem isz_cases {d : Int} (h : isz d = true) : d = 6 ∨ d = 8 ∨ d = 10 ∨ d = 12 ∨ d = 16 ∨ d = 20 ∨ d = 25 ∨ d = 32 ∨ d = 40 := by
  unfold isz at h
  rw [List.contains_iff_mem] at h
  simpa [sz] using h
def bn (d : Int) : Int := if d ≤ 16 then (5 * d).tdiv 2 else 4 * d
def ms (d n : Int) : Int := (6165 * d * d * n + 500000).tdiv 1000000
theorem radiusof_ok (d : Int) (h : isz d = true) (w : World) : Calls Try.prog 56 #[.int .i64 d] w fun e w' => e = .returned (.int .i64 (bn d)) ∧ w = w' := by
  rcases isz_cases h with rfl | rfl | rfl | rfl | rfl | rfl | rfl | rfl | rfl
  all_goals (
    go_enter Try.func56, Try.ntmps56
    go_wp2
    go_ret
    exact ⟨ret_one (by decide +kernel), rfl⟩)
theorem rbend_ok (d : Int) (h : isz d = true) (w : World) : Calls Try.prog 44 #[.int .i64 d] w fun e w' => e = .returned (.int .i64 (bn d)) ∧ w = w' := by
  rcases isz_cases h with rfl | rfl | rfl | rfl | rfl | rfl | rfl | rfl | rfl
  all_goals (
    go_enter Try.func44, Try.ntmps44
    go_wp2
    go_ret
    exact ⟨ret_one (by decide +kernel), rfl⟩)
theorem ms_b {d n : Int} (h : isz d = true) (h0 : 0 ≤ n) (h1 : n ≤ 1048576) :
    (0 ≤ d ∧ d ≤ 40) ∧ (0 ≤ 6165 * d * d ∧ 6165 * d * d ≤ 9864000) ∧ (0 ≤ 6165 * d * d * n ∧ 6165 * d * d * n ≤ 10343153664000) ∧ (0 ≤ ms d n ∧ ms d n ≤ 10343154) := by
  have key : (0 ≤ d ∧ d ≤ 40) ∧ (0 ≤ 6165 * d * d ∧ 6165 * d * d ≤ 9864000) ∧ (0 ≤ 6165 * d * d * n ∧ 6165 * d * d * n ≤ 10343153664000) := by
    rcases isz_cases h with rfl | rfl | rfl | rfl | rfl | rfl | rfl | rfl | rfl
    all_goals (refine ⟨⟨by decide, by decide⟩, ⟨by decide, by decide⟩, ⟨?_, ?_⟩⟩ <;> omega)
  refine ⟨key.1, key.2.1, key.2.2, ?_⟩
  have k3 := key.2.2
  unfold ms
  generalize 6165 * d * d * n = x at k3 ⊢
  rw [Int.tdiv_eq_ediv_of_nonneg (by omega)]
  omega
theorem rmass_ok (d n : Int) (h : isz d = true) (h0 : 0 ≤ n) (h1 : n ≤ 1048576) (w : World) : Calls Try.prog 53 #[.int .i64 d, .int .i64 n] w fun e w' => e = .returned (.int .i64 (ms d n)) ∧ w = w' := by
  obtain ⟨⟨b0, b1⟩, ⟨b2, b3⟩, ⟨b4, b5⟩, b6, b7⟩ := ms_b h h0 h1
  have e : ms d n = (6165 * d * d * n + 500000).tdiv 1000000 := rfl
  have W1 : IntKind.i64.wrap (6165 * d) = 6165 * d := IntWalk.i64_in _ (by omega)
  have W2 : IntKind.i64.wrap (6165 * d * d) = 6165 * d * d := IntWalk.i64_in _ (by omega)
  have W3 : IntKind.i64.wrap (6165 * d * d * n) = 6165 * d * d * n := IntWalk.i64_in _ (by omega)
  have W4 : IntKind.i64.wrap (6165 * d * d * n + 500000) = 6165 * d * d * n + 500000 := IntWalk.i64_in _ (by omega)
  have W5 : IntKind.i64.wrap ((6165 * d * d * n + 500000).tdiv 1000000) = (6165 * d * d * n + 500000).tdiv 1000000 := by rw [← e]; exact IntWalk.i64_in _ (by omega)
  clear b0 b1 b2 b3 b4 b5 b6 b7 h h0 h1
  go_enter Try.func53, Try.ntmps53
  go_wp2
  go_ret
  exact ⟨ret_one (by rw [e]), rfl⟩
theorem mass_ok (d n : Int) (h : isz d = true) (h0 : 0 ≤ n) (h1 : n ≤ 1048576) (w : World) : Calls Try.prog 33 #[.int .i64 d, .int .i64 n] w fun e w' => e = .returned (.tuple #[.int .i64 (ms d n), .int .i64 0]) ∧ Below w.heap.size w w' := by
  obtain ⟨⟨b0, b1⟩, ⟨b2, b3⟩, ⟨b4, b5⟩, b6, b7⟩ := ms_b h h0 h1
  have e : ms d n = (6165 * d * d * n + 500000).tdiv 1000000 := rfl
  have W1 : IntKind.i64.wrap (6165 * d) = 6165 * d := IntWalk.i64_in _ (by omega)
  have W2 : IntKind.i64.wrap (6165 * d * d) = 6165 * d * d := IntWalk.i64_in _ (by omega)
  have W3 : IntKind.i64.wrap (6165 * d * d * n) = 6165 * d * d * n := IntWalk.i64_in _ (by omega)
  have W4 : IntKind.i64.wrap (6165 * d * d * n + 500000) = 6165 * d * d * n + 500000 := IntWalk.i64_in _ (by omega)
  have W5 : IntKind.i64.wrap ((6165 * d * d * n + 500000).tdiv 1000000) = (6165 * d * d * n + 500000).tdiv 1000000 := by rw [← e]; exact IntWalk.i64_in _ (by omega)
  have g1 : decide (n < 0) = false := by simp; omega
  have g2 : decide (1048576 < n) = false := by simp; omega
  have hs := fun W => isz_any d W
  rw [h] at hs
  clear b0 b1 b2 b3 b4 b5 b6 b7 h
  go_enter Try.func33, Try.ntmps33
  go_wp2_with (go_at_call 57; (with_reducible refine (hs _).mono ?_); rintro e' w1 ⟨rfl, hb⟩)
  exact bodyPost_ret (v := .tuple #[.int .i64 ((6165 * d * d * n + 500000).tdiv 1000000), .int .i64 0]) (by simp [results, Try.results33, go_sem]) rfl ⟨by rw [e], hb⟩
theorem mass_no (d n : Int) (h : isz d = false) (w : World) : Calls Try.prog 33 #[.int .i64 d, .int .i64 n] w fun e w' => e = .returned (.tuple #[.int .i64 0, .int .i64 1]) ∧ Below w.heap.size w w' := by
  have hs := fun W => isz_any d W
  rw [h] at hs
  clear h
  go_enter Try.func33, Try.ntmps33
  go_wp2_with (go_at_call 57; (with_reducible refine (hs _).mono ?_); rintro e' w1 ⟨rfl, hb⟩)
  exact bodyPost_ret (v := .tuple #[.int .i64 0, .int .i64 1]) (by simp [results, Try.results33, go_sem]) rfl ⟨rfl, hb⟩
theorem of_bend (d : Int) (w : World) : Calls Try.prog 55 #[.int .i64 d, .func (.func 56) #[] #[]] w fun e w' => e = .returned (.tuple #[.int .i64 (if isz d = true then bn d else 0), .int .i64 (if isz d = true then 0 else 1)]) ∧ Below w.heap.size w w' := by
  have hs := fun W => isz_any d W
  cases h : isz d
  · rw [h] at hs
    rw [if_neg (by decide), if_neg (by decide)]
    clear h
    go_enter Try.func55, Try.ntmps55
    go_wp2_with (go_at_call 57; (with_reducible refine (hs _).mono ?_); rintro e' w1 ⟨rfl, hb⟩)
    exact bodyPost_ret (v := .tuple #[.int .i64 0, .int .i64 1]) (by simp [results, Try.results55, go_sem]) rfl ⟨rfl, hb⟩
  · rw [h] at hs
    rw [if_pos rfl, if_pos rfl]
    have ho := fun W => radiusof_ok d h W
    clear h
    generalize bn d = r at *
    go_enter Try.func55, Try.ntmps55
    go_wp2_with (first
      | (go_at_call 57; (with_reducible refine (hs _).mono ?_); rintro e' w1 ⟨rfl, hb⟩)
      | (go_at_call 56; (with_reducible refine (ho _).mono ?_); rintro e' w2 ⟨rfl, rfl⟩))
    exact bodyPost_ret (v := .tuple #[.int .i64 r, .int .i64 0]) (by simp [results, Try.results55, go_sem]) rfl ⟨rfl, hb⟩
theorem bend_any (d : Int) (w : World) : Calls Try.prog 31 #[.int .i64 d] w fun e w' => e = .returned (.tuple #[.int .i64 (if isz d = true then bn d else 0), .int .i64 (if isz d = true then 0 else 1)]) ∧ Below w.heap.size w w' := by
  have ho := fun W => of_bend d W
  generalize (if isz d = true then bn d else 0) = r at *
  generalize (if isz d = true then (0 : Int) else 1) = s at *
  go_enter Try.func31, Try.ntmps31
  go_wp2_with (go_at_call 55; (with_reducible refine (ho _).mono ?_); rintro e' w1 ⟨rfl, hb⟩)
  exact bodyPost_ret (v := .tuple #[.int .i64 r, .int .i64 s]) (by simp [results, Try.results31, go_sem]) rfl ⟨rfl, hb⟩
theorem bend_ok (d : Int) (h : isz d = true) (w : World) : Calls Try.prog 31 #[.int .i64 d] w fun e w' => e = .returned (.tuple #[.int .i64 (bn d), .int .i64 0]) ∧ Below w.heap.size w w' := by
  have ho := bend_any d w
  rw [if_pos h, if_pos h] at ho
  exact ho
theorem bend_no (d : Int) (h : isz d = false) (w : World) : Calls Try.prog 31 #[.int .i64 d] w fun e w' => e = .returned (.tuple #[.int .i64 0, .int .i64 1]) ∧ Below w.heap.size w w' := by
  have ho := bend_any d w
  rw [if_neg (by simp [h]), if_neg (by simp [h])] at ho
  exact ho
end Go.Proofs.Ythphgppgdlimeaa
