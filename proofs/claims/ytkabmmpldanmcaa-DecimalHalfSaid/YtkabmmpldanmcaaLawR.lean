/- DecimalRounds and DecimalHalf return true: the walks. -/
import Derived.Test.YtkabmmpldanmcaaAwk
namespace Go.Proofs.Ytkabmmpldanmcaa
open Go.ChangeShapes Go.WideShapes Go.ChangeAt Go.RowKit
set_option linter.unusedVariables false

def Yes (w : World) (e : Ending) (w' : World) : Prop := e = .returned (.bool true) ∧ Below w.heap.size w w'

theorem rounds_walk (n u : Int) (w : World) : Calls Try.prog 5 #[.int .i64 n, .int .i64 u] w (Yes w) := by
  by_cases h1 : u < 1
  · go_enter Try.func5, Try.ntmps5
    go_wp2_with (first | (go_at_call 10; refine (awake_any _).mono ?_; rintro e w1 ⟨rfl, hb1⟩) | (go_at_call 16; refine (round_range _ _ _ (.inl (by assumption))).mono ?_; rintro e w2 ⟨rfl, hw2⟩))
    go_ret
    exact ⟨rfl, hb1⟩
  · by_cases h2 : 1099511627776 < u
    · go_enter Try.func5, Try.ntmps5
      go_wp2_with (first | (go_at_call 10; refine (awake_any _).mono ?_; rintro e w1 ⟨rfl, hb1⟩) | (go_at_call 16; refine (round_range _ _ _ (.inr (by assumption))).mono ?_; rintro e w2 ⟨rfl, hw2⟩))
      go_ret
      exact ⟨rfl, hb1⟩
    · have h3 : 1 ≤ u := by omega
      have h4 : u ≤ 1099511627776 := by omega
      cases hn : numB n
      · go_enter Try.func5, Try.ntmps5
        go_wp2_with (first | (go_at_call 10; refine (awake_any _).mono ?_; rintro e w1 ⟨rfl, hb1⟩) | (go_at_call 12; refine (number_any _ _).mono ?_; rintro e w3 ⟨rfl, rfl⟩) | (go_at_call 16; refine (round_big _ _ _ hn h3 h4).mono ?_; rintro e w2 ⟨rfl, hw2⟩))
        go_ret
        exact ⟨rfl, hb1⟩
      · obtain ⟨n1, n2⟩ := numB_iff.1 hn
        go_enter Try.func5, Try.ntmps5
        go_wp2_with (first | (go_at_call 10; refine (awake_any _).mono ?_; rintro e w1 ⟨rfl, hb1⟩) | (go_at_call 12; refine (number_any _ _).mono ?_; rintro e w3 ⟨rfl, rfl⟩) | (go_at_call 16; refine (round_ok _ _ _ n1 n2 h3 h4).mono ?_; rintro e w2 ⟨rfl, m, rfl⟩) | (go_at_call 17; refine (ref_round _ _ _ n1 n2 h3 h4).mono ?_; rintro e w4 ⟨rfl, rfl⟩))
        go_ret
        exact ⟨rfl, below_drewN hb1 _⟩

theorem rnd_spec (n u : Int) (hu : 1 ≤ u) : -u ≤ 2 * (n - rnd n u * u) ∧ 2 * (n - rnd n u * u) < u := by
  unfold rnd
  have h1 := Int.mul_ediv_add_emod (2 * n + u) (2 * u)
  have h2 := Int.emod_nonneg (2 * n + u) (show 2 * u ≠ 0 by omega)
  have h3 := Int.emod_lt_of_pos (2 * n + u) (show 0 < 2 * u by omega)
  have e : 2 * u * ((2 * n + u) / (2 * u)) = 2 * ((2 * n + u) / (2 * u) * u) := by rw [Int.mul_assoc, Int.mul_comm u]
  rw [e] at h1
  omega
theorem rnd_mul (x u : Int) (hu : 1 ≤ u) : rnd (x * u) u = x := rnd_eq _ _ _ hu (by omega) (by omega)
theorem rnd_add (n u : Int) (hu : 1 ≤ u) : rnd (n + u) u = rnd n u + 1 := by
  have h := rnd_spec n u hu
  refine rnd_eq _ _ _ hu ?_ ?_ <;> rw [Int.add_mul] <;> omega
theorem rnd_mono (n m u : Int) (hu : 1 ≤ u) (h : n ≤ m) : rnd n u ≤ rnd m u := Int.ediv_le_ediv (by omega) (by omega)

theorem round_is (n u x : Int) (w : World) (h1 : -1152921504606846976 ≤ n) (h2 : n ≤ 1152921504606846976) (hu : 1 ≤ u) (hu2 : u ≤ 1099511627776) (hx : rnd n u = x) :
    Calls Try.prog 16 #[.int .i64 n, .int .i64 u] w fun e w' => e = .returned (.tuple #[.int .i64 x, .int .i64 0]) ∧ ∃ k, w' = w.drewN k := by
  subst hx; exact round_ok n u w h1 h2 hu hu2

theorem half_far1 (n m u : Int) (w : World) (h : farB n = true) : Calls Try.prog 9 #[.int .i64 n, .int .i64 m, .int .i64 u] w (Yes w) := by
  go_enter Try.func9, Try.ntmps9
  go_wp2_with (first | (go_at_call 10; refine (awake_any _).mono ?_; rintro e w1 ⟨rfl, hb1⟩) | (go_at_call 25; refine (far_any _ _).mono ?_; rintro e w3 ⟨rfl, rfl⟩))
  go_ret
  exact ⟨rfl, hb1⟩
theorem half_far2 (n m u : Int) (w : World) (h : farB n = false) (h' : farB m = true) : Calls Try.prog 9 #[.int .i64 n, .int .i64 m, .int .i64 u] w (Yes w) := by
  go_enter Try.func9, Try.ntmps9
  go_wp2_with (first | (go_at_call 10; refine (awake_any _).mono ?_; rintro e w1 ⟨rfl, hb1⟩) | (go_at_call 25; refine (far_any _ _).mono ?_; rintro e w3 ⟨rfl, rfl⟩))
  go_ret
  exact ⟨rfl, hb1⟩
theorem half_u1 (n m u : Int) (w : World) (h : farB n = false) (h' : farB m = false) (hu : u < 1) : Calls Try.prog 9 #[.int .i64 n, .int .i64 m, .int .i64 u] w (Yes w) := by
  go_enter Try.func9, Try.ntmps9
  go_wp2_with (first | (go_at_call 10; refine (awake_any _).mono ?_; rintro e w1 ⟨rfl, hb1⟩) | (go_at_call 25; refine (far_any _ _).mono ?_; rintro e w3 ⟨rfl, rfl⟩))
  go_ret
  exact ⟨rfl, hb1⟩
theorem half_u2 (n m u : Int) (w : World) (h : farB n = false) (h' : farB m = false) (hu0 : ¬ u < 1) (hu : 1099511627776 < u) : Calls Try.prog 9 #[.int .i64 n, .int .i64 m, .int .i64 u] w (Yes w) := by
  go_enter Try.func9, Try.ntmps9
  go_wp2_with (first | (go_at_call 10; refine (awake_any _).mono ?_; rintro e w1 ⟨rfl, hb1⟩) | (go_at_call 25; refine (far_any _ _).mono ?_; rintro e w3 ⟨rfl, rfl⟩))
  go_ret
  exact ⟨rfl, hb1⟩

theorem half_main (n m u x y : Int) (w : World) (h : farB n = false) (h' : farB m = false) (hu0 : 1 ≤ u) (hu : u ≤ 1099511627776) (hx : rnd n u = x) (hy : rnd m u = y) :
    Calls Try.prog 9 #[.int .i64 n, .int .i64 m, .int .i64 u] w (Yes w) := by
  have hn : -288230376151711744 ≤ n ∧ n ≤ 288230376151711744 := by unfold farB at h; simp at h; omega
  have hm : -288230376151711744 ≤ m ∧ m ≤ 288230376151711744 := by unfold farB at h'; simp at h'; omega
  have sx := rnd_spec n u hu0
  have hz := rnd_mul x u hu0
  have hw := rnd_add n u hu0
  rw [hx] at sx hw
  have hxb : -576460752303423488 ≤ x ∧ x ≤ 576460752303423488 := by
    have q1 : 0 ≤ x → x * 1 ≤ x * u := fun hx0 => Int.mul_le_mul_of_nonneg_left hu0 hx0
    have q2 : x ≤ 0 → x * u ≤ x * 1 := fun hx0 => Int.mul_le_mul_of_nonpos_left hx0 hu0
    omega
  have HX := Lib.hid hx; have HY := Lib.hid hy; have HZ := Lib.hid hz; have HW := Lib.hid hw; clear hx hy hz hw
  by_cases hnm : m < n
  · go_enter Try.func9, Try.ntmps9
    go_wp2_with (first | (go_at_call 10; refine (awake_any _).mono ?_; rintro e w1 ⟨rfl, hb1⟩) | (go_at_call 25; refine (far_any _ _).mono ?_; rintro e w3 ⟨rfl, rfl⟩) | (go_at_call 16; fail))
    refine (round_is _ _ x _ (by omega) (by omega) hu0 hu HX.out).mono ?_; rintro e w2 ⟨rfl, k2, rfl⟩
    go_wp2_with (go_at_call 16; fail)
    refine (round_is _ _ y _ (by omega) (by omega) hu0 hu HY.out).mono ?_; rintro e w2 ⟨rfl, k3, rfl⟩
    go_wp2_with (go_at_call 16; fail)
    refine (round_is _ _ x _ (by omega) (by omega) hu0 hu HZ.out).mono ?_; rintro e w2 ⟨rfl, k4, rfl⟩
    go_wp2_with (go_at_call 16; fail)
    refine (round_is _ _ (x + 1) _ (by omega) (by omega) hu0 hu HW.out).mono ?_; rintro e w2 ⟨rfl, k5, rfl⟩
    go_wp2
    go_ret
    exact ⟨rfl, by repeat (first | exact hb1 | apply below_drewN)⟩
  · have hxy : x ≤ y := by rw [← HX.out, ← HY.out]; exact rnd_mono n m u hu0 (by omega)
    go_enter Try.func9, Try.ntmps9
    go_wp2_with (first | (go_at_call 10; refine (awake_any _).mono ?_; rintro e w1 ⟨rfl, hb1⟩) | (go_at_call 25; refine (far_any _ _).mono ?_; rintro e w3 ⟨rfl, rfl⟩) | (go_at_call 16; fail))
    refine (round_is _ _ x _ (by omega) (by omega) hu0 hu HX.out).mono ?_; rintro e w2 ⟨rfl, k2, rfl⟩
    go_wp2_with (go_at_call 16; fail)
    refine (round_is _ _ y _ (by omega) (by omega) hu0 hu HY.out).mono ?_; rintro e w2 ⟨rfl, k3, rfl⟩
    go_wp2_with (go_at_call 16; fail)
    refine (round_is _ _ x _ (by omega) (by omega) hu0 hu HZ.out).mono ?_; rintro e w2 ⟨rfl, k4, rfl⟩
    go_wp2_with (go_at_call 16; fail)
    refine (round_is _ _ (x + 1) _ (by omega) (by omega) hu0 hu HW.out).mono ?_; rintro e w2 ⟨rfl, k5, rfl⟩
    go_wp2
    go_ret
    exact ⟨rfl, by repeat (first | exact hb1 | apply below_drewN)⟩

theorem half_walk (n m u : Int) (w : World) : Calls Try.prog 9 #[.int .i64 n, .int .i64 m, .int .i64 u] w (Yes w) := by
  cases h1 : farB n
  · cases h2 : farB m
    · by_cases h3 : u < 1
      · exact half_u1 n m u w h1 h2 h3
      · by_cases h4 : 1099511627776 < u
        · exact half_u2 n m u w h1 h2 h3 h4
        · exact half_main n m u _ _ w h1 h2 (by omega) (by omega) rfl rfl
    · exact half_far2 n m u w h1 h2
  · exact half_far1 n m u w h1
end Go.Proofs.Ytkabmmpldanmcaa
