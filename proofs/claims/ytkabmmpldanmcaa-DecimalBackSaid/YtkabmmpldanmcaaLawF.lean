/- DecimalFormats returns true: the walk. -/
import Derived.Test.YtkabmmpldanmcaaAwk
namespace Go.Proofs.Ytkabmmpldanmcaa
open Go.ChangeShapes Go.WideShapes Go.ChangeAt Go.RowKit
set_option linter.unusedVariables false

def YesF (w : World) (e : Ending) (w' : World) : Prop := e = .returned (.bool true) ∧ Below w.heap.size w w'

theorem fmt_is (n : Int) (k : Int) (s : ByteArray) (w : World) (hk0 : 0 ≤ k) (hk : k ≤ 9) (h1 : -1152921504606846976 ≤ n) (h2 : n ≤ 1152921504606846976) (hs : s = ⟨(fmtL n k.toNat).toArray⟩) :
    Calls Try.prog 11 #[.int .i64 n, .int .i64 k] w fun e w' => e = .returned (.tuple #[.string s, .int .i64 0]) ∧ Below w.heap.size w w' := by
  obtain ⟨k, rfl⟩ := Int.eq_ofNat_of_zero_le hk0
  rw [Int.toNat_natCast] at hs
  subst hs
  exact format_ok n k w (by omega) h1 h2
theorem rfmt_is (n : Int) (k : Int) (s : ByteArray) (w : World) (hk0 : 0 ≤ k) (hk : k ≤ 9) (h1 : -1152921504606846976 ≤ n) (h2 : n ≤ 1152921504606846976) (hs : s = ⟨(fmtL n k.toNat).toArray⟩) :
    Calls Try.prog 13 #[.int .i64 n, .int .i64 k] w fun e w' => e = .returned (.string s) ∧ Below w.heap.size w w' := by
  obtain ⟨k, rfl⟩ := Int.eq_ofNat_of_zero_le hk0
  rw [Int.toNat_natCast] at hs
  subst hs
  by_cases h0 : k = 0
  · subst h0; exact rformat_zero n w h1 h2
  · exact rformat_pos n k w h1 h2 (by omega) (by omega)

theorem formats_walk (n k : Int) (w : World) : Calls Try.prog 3 #[.int .i64 n, .int .i64 k] w (YesF w) := by
  by_cases h1 : k < 0
  · have hp : plB k = false := by unfold plB; simp; omega
    go_enter Try.func3, Try.ntmps3
    go_wp2_with (first | (go_at_call 10; refine (awake_any _).mono ?_; rintro e w1 ⟨rfl, hb1⟩) | (go_at_call 11; refine (format_range _ _ _ hp).mono ?_; rintro e w2 ⟨rfl, rfl⟩))
    go_ret
    exact ⟨rfl, hb1⟩
  · by_cases h2 : 9 < k
    · have hp : plB k = false := by unfold plB; simp; omega
      go_enter Try.func3, Try.ntmps3
      go_wp2_with (first | (go_at_call 10; refine (awake_any _).mono ?_; rintro e w1 ⟨rfl, hb1⟩) | (go_at_call 11; refine (format_range _ _ _ hp).mono ?_; rintro e w2 ⟨rfl, rfl⟩))
      go_ret
      exact ⟨rfl, hb1⟩
    · have hp : plB k = true := plB_iff.2 ⟨by omega, by omega⟩
      cases hn : numB n
      · go_enter Try.func3, Try.ntmps3
        go_wp2_with (first | (go_at_call 10; refine (awake_any _).mono ?_; rintro e w1 ⟨rfl, hb1⟩) | (go_at_call 12; refine (number_any _ _).mono ?_; rintro e w3 ⟨rfl, rfl⟩) | (go_at_call 11; refine (format_big _ _ _ hp hn).mono ?_; rintro e w2 ⟨rfl, rfl⟩))
        go_ret
        exact ⟨rfl, hb1⟩
      · obtain ⟨n1, n2⟩ := numB_iff.1 hn
        obtain ⟨s, hs⟩ : ∃ s : ByteArray, s = ⟨(fmtL n k.toNat).toArray⟩ := ⟨_, rfl⟩
        have HS := Lib.hid hs; clear hs
        go_enter Try.func3, Try.ntmps3
        go_wp2_with (first | (go_at_call 10; refine (awake_any _).mono ?_; rintro e w1 ⟨rfl, hb1⟩) | (go_at_call 12; refine (number_any _ _).mono ?_; rintro e w3 ⟨rfl, rfl⟩) | (go_at_call 11; refine (fmt_is _ _ s _ (by omega) (by omega) n1 n2 HS.out).mono ?_; rintro e w2 ⟨rfl, hb2⟩) | (go_at_call 13; refine (rfmt_is _ _ s _ (by omega) (by omega) n1 n2 HS.out).mono ?_; rintro e w4 ⟨rfl, hb4⟩))
        go_ret
        exact ⟨rfl, belows (belows hb1 hb2) hb4⟩
end Go.Proofs.Ytkabmmpldanmcaa
