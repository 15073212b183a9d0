/- DecimalParses returns true: the walk. -/
import Derived.Test.YtkabmmpldanmcaaAwk
import Derived.Test.YtkabmmpldanmcaaRp6
namespace Go.Proofs.Ytkabmmpldanmcaa
open Go.ChangeShapes Go.WideShapes Go.ChangeAt Go.RowKit
set_option linter.unusedVariables false

theorem par_is (s : ByteArray) (k a b : Int) (w : World) (hk0 : 0 ≤ k) (hk : k ≤ 9) (hs : s.size ≤ 900) (h : parseL s.data.toList k.toNat = (a, b)) :
    Calls Try.prog 14 #[.string s, .int .i64 k] w fun e w' => e = .returned (.tuple #[.int .i64 a, .int .i64 b]) ∧ Below w.heap.size w w' := by
  obtain ⟨k, rfl⟩ := Int.eq_ofNat_of_zero_le hk0
  rw [Int.toNat_natCast] at h
  have h2 := parse_any s k w (by omega) hs
  rw [h] at h2
  exact h2
theorem rpar_is (s : ByteArray) (k a b : Int) (w : World) (hk0 : 0 ≤ k) (hk : k ≤ 9) (hs : s.size ≤ 900) (h : parseL s.data.toList k.toNat = (a, b)) :
    Calls Try.prog 15 #[.string s, .int .i64 k] w fun e w' => e = .returned (.tuple #[.int .i64 a, .int .i64 b]) ∧ w = w' := by
  obtain ⟨k, rfl⟩ := Int.eq_ofNat_of_zero_le hk0
  rw [Int.toNat_natCast] at h
  have h2 := rparse_any s k w (by omega) hs
  rw [h] at h2
  exact h2

theorem parses_walk (s : ByteArray) (k : Int) (w : World) (hs : s.size ≤ maxLen) : Calls Try.prog 4 #[.string s, .int .i64 k] w fun e w' => e = .returned (.bool true) ∧ Below w.heap.size w w' := by
  unfold maxLen at hs
  by_cases hl : 100 < s.size
  · have t1 : (100 : Int) < s.size := by omega
    go_enter Try.func4, Try.ntmps4
    go_wp2_with (go_at_call 10; refine (awake_any _).mono ?_; rintro e w1 ⟨rfl, hb1⟩)
    go_ret
    exact ⟨rfl, hb1⟩
  · have t1 : ¬ (100 : Int) < s.size := by omega
    by_cases h1 : k < 0
    · have hp : plB k = false := by unfold plB; simp; omega
      go_enter Try.func4, Try.ntmps4
      go_wp2_with (first | (go_at_call 10; refine (awake_any _).mono ?_; rintro e w1 ⟨rfl, hb1⟩) | (go_at_call 14; refine (parse_range _ _ _ hp).mono ?_; rintro e w2 ⟨rfl, rfl⟩))
      go_ret
      exact ⟨rfl, hb1⟩
    · by_cases h2 : 9 < k
      · have hp : plB k = false := by unfold plB; simp; omega
        go_enter Try.func4, Try.ntmps4
        go_wp2_with (first | (go_at_call 10; refine (awake_any _).mono ?_; rintro e w1 ⟨rfl, hb1⟩) | (go_at_call 14; refine (parse_range _ _ _ hp).mono ?_; rintro e w2 ⟨rfl, rfl⟩))
        go_ret
        exact ⟨rfl, hb1⟩
      · obtain ⟨a, b, hab⟩ : ∃ a b, parseL s.data.toList k.toNat = (a, b) := ⟨_, _, rfl⟩
        have HAB := Lib.hid hab; clear hab
        go_enter Try.func4, Try.ntmps4
        go_wp2_with (first | (go_at_call 10; refine (awake_any _).mono ?_; rintro e w1 ⟨rfl, hb1⟩) | (go_at_call 14; refine (par_is s _ a b _ (by omega) (by omega) (by omega) HAB.out).mono ?_; rintro e w2 ⟨rfl, hb2⟩) | (go_at_call 15; refine (rpar_is s _ a b _ (by omega) (by omega) (by omega) HAB.out).mono ?_; rintro e w3 ⟨rfl, rfl⟩))
        go_ret
        exact ⟨rfl, belows hb1 hb2⟩
end Go.Proofs.Ytkabmmpldanmcaa
