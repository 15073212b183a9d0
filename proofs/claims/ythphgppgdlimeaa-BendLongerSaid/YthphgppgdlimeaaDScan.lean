/- Contracts of the functions that scan a string: of package decimal and of the reference. -/
import Derived.Test.YthphgppgdlimeaaDRnd
import Derived.Test.YthphgppgdlimeaaDPure
namespace Go.Proofs.Ythphgppgdlimeaa.Dec
open Go.ChangeShapes Go.WideShapes Go.ChangeAt Go.RowKit
set_option linter.unusedVariables false

theorem digit_yes (f : FuncId) (hf : f = 79 ∨ f = 71) (c : Int) (w : World) (h1 : 48 ≤ c) (h2 : c ≤ 57) : Calls Try.prog f #[.int .u8 c] w fun e w' => e = .returned (.bool true) ∧ w = w' := by
  rcases hf with rfl | rfl
  · go_enter Try.func79, Try.ntmps79
    go_wp2
    go_ret
    exact ⟨rfl, rfl⟩
  · go_enter Try.func71, Try.ntmps71
    go_wp2
    go_ret
    exact ⟨rfl, rfl⟩
theorem digit_no (f : FuncId) (hf : f = 79 ∨ f = 71) (c : Int) (w : World) (h : ¬ (48 ≤ c ∧ c ≤ 57)) : Calls Try.prog f #[.int .u8 c] w fun e w' => e = .returned (.bool false) ∧ w = w' := by
  by_cases h1 : 48 ≤ c
  · have h2 : ¬ c ≤ 57 := fun h2 => h ⟨h1, h2⟩
    clear h
    rcases hf with rfl | rfl
    · go_enter Try.func79, Try.ntmps79
      go_wp2
      go_ret
      exact ⟨rfl, rfl⟩
    · go_enter Try.func71, Try.ntmps71
      go_wp2
      go_ret
      exact ⟨rfl, rfl⟩
  · clear h
    rcases hf with rfl | rfl
    · go_enter Try.func79, Try.ntmps79
      go_wp2
      go_ret
      exact ⟨rfl, rfl⟩
    · go_enter Try.func71, Try.ntmps71
      go_wp2
      go_ret
      exact ⟨rfl, rfl⟩
theorem digit_any (f : FuncId) (hf : f = 79 ∨ f = 71) (c : Int) (w : World) : Calls Try.prog f #[.int .u8 c] w fun e w' => e = .returned (.bool (dgB c)) ∧ w = w' := by
  by_cases h : 48 ≤ c ∧ c ≤ 57
  · rw [dgB_iff.2 h]; exact digit_yes f hf c w h.1 h.2
  · rw [dgB_no.2 h]; exact digit_no f hf c w h

theorem letter_any (f : FuncId) (hf : f = 78 ∨ f = 62) (c : Int) (w : World) : Calls Try.prog f #[.int .u8 c] w fun e w' => e = .returned (.bool (ltB c)) ∧ w = w' := by
  have hc : (97 ≤ c ∧ c ≤ 122) ∨ (65 ≤ c ∧ c ≤ 90) ∨ (c < 65) ∨ (90 < c ∧ c < 97) ∨ 122 < c := by omega
  rcases hc with h | h | h | h | h
  · rw [ltB_iff.2 (.inl h)]
    rcases hf with rfl | rfl
    · go_enter Try.func78, Try.ntmps78
      go_wp2
      go_ret
      exact ⟨rfl, rfl⟩
    · go_enter Try.func62, Try.ntmps62
      go_wp2
      go_ret
      exact ⟨rfl, rfl⟩
  · rw [ltB_iff.2 (.inr h)]
    have h3 : ¬ 97 ≤ c := by omega
    rcases hf with rfl | rfl
    · go_enter Try.func78, Try.ntmps78
      go_wp2
      go_ret
      exact ⟨rfl, rfl⟩
    · go_enter Try.func62, Try.ntmps62
      go_wp2
      go_ret
      exact ⟨rfl, rfl⟩
  · rw [ltB_no.2 (by omega)]
    have h3 : ¬ 97 ≤ c := by omega
    have h4 : ¬ 65 ≤ c := by omega
    rcases hf with rfl | rfl
    · go_enter Try.func78, Try.ntmps78
      go_wp2
      go_ret
      exact ⟨rfl, rfl⟩
    · go_enter Try.func62, Try.ntmps62
      go_wp2
      go_ret
      exact ⟨rfl, rfl⟩
  · rw [ltB_no.2 (by omega)]
    have h3 : ¬ 97 ≤ c := by omega
    have h4 : (65 : Int) ≤ c := by omega
    have h5 : decide (c ≤ 90) = false := by simp; omega
    rcases hf with rfl | rfl
    · go_enter Try.func78, Try.ntmps78
      go_wp2
      go_ret
      exact ⟨rfl, rfl⟩
    · go_enter Try.func62, Try.ntmps62
      go_wp2
      go_ret
      exact ⟨rfl, rfl⟩
  · rw [ltB_no.2 (by omega)]
    have h3 : (97 : Int) ≤ c := by omega
    have h4 : (65 : Int) ≤ c := by omega
    have h5 : decide (c ≤ 90) = false := by simp; omega
    have h6 : decide (c ≤ 122) = false := by simp; omega
    rcases hf with rfl | rfl
    · go_enter Try.func78, Try.ntmps78
      go_wp2
      go_ret
      exact ⟨rfl, rfl⟩
    · go_enter Try.func62, Try.ntmps62
      go_wp2
      go_ret
      exact ⟨rfl, rfl⟩

theorem digitsSize_any (s : ByteArray) (w : World) (hs : s.size ≤ maxLen) :
    Calls Try.prog 77 #[.string s] w fun e w' => e = .returned (.int .i64 (scan dgB s 0)) ∧ w = w' := by
  unfold maxLen at hs
  go_enter Try.func77, Try.ntmps77
  go_wp2
  go_loop [3] (fun i => ∃ k : Nat, k ≤ s.size ∧ i = .int .i64 k ∧ scan dgB s k = scan dgB s 0) (fun i => s.size - (intOf i).toNat)
  case atStart => exact ⟨0, Nat.zero_le _, rfl, rfl⟩
  case round =>
    obtain ⟨k, hk, rfl, hsc⟩ := hrel
    have HS := Lib.hid hsc; clear hsc
    by_cases hlt : k < s.size
    · by_cases hd : dgB (s[k].toNat : Int) = true
      · have hy := Lib.hid (scan_yes dgB s k hlt hd)
        go_wp2_with (go_at_call 79; refine (digit_any 79 (.inl rfl) _ _).mono ?_; rintro e w' ⟨rfl, rfl⟩)
        go_round
        case rel => exact ⟨k + 1, by omega, by go_num, by rw [← hy.out]; exact HS.out⟩
        case measure => simp [intOf]; omega
      · have hd' : dgB (s[k].toNat : Int) = false := by simpa using hd
        have hy := Lib.hid (scan_no dgB s k hlt hd')
        clear hd
        go_wp2_with (go_at_call 79; refine (digit_any 79 (.inl rfl) _ _).mono ?_; rintro e w' ⟨rfl, rfl⟩)
        go_ret
        exact ⟨ret_one (by rw [← HS.out, hy.out]), rfl⟩
    · have hy := Lib.hid (scan_end dgB s k (by omega))
      go_wp2
      go_ret
      exact ⟨ret_one (by rw [← HS.out, hy.out]), rfl⟩

theorem wdB_cases (c : Int) : (ltB c = true ∧ wdB c = true) ∨ (ltB c = false ∧ dgB c = true ∧ wdB c = true) ∨ (ltB c = false ∧ dgB c = false ∧ (c == 95) = true ∧ wdB c = true) ∨ (ltB c = false ∧ dgB c = false ∧ (c == 95) = false ∧ wdB c = false) := by
  unfold wdB; cases ltB c <;> cases dgB c <;> cases (c == 95) <;> simp

theorem word_any (s : ByteArray) (k0 : Int) (w : World) (hs : s.size ≤ maxLen) (h0 : 0 ≤ k0) (h1 : k0 ≤ s.size) :
    Calls Try.prog 63 #[.string s, .int .i64 k0] w fun e w' => e = .returned (.int .i64 (scan wdB s k0.toNat)) ∧ w = w' := by
  unfold maxLen at hs
  obtain ⟨k0, rfl⟩ := Int.eq_ofNat_of_zero_le h0
  rw [Int.toNat_natCast]
  go_enter Try.func63, Try.ntmps63
  go_wp2
  go_loop [1] (fun i => ∃ k : Nat, k ≤ s.size ∧ i = .int .i64 k ∧ scan wdB s k = scan wdB s k0) (fun i => s.size - (intOf i).toNat)
  case atStart => exact ⟨k0, by omega, rfl, rfl⟩
  case round =>
    obtain ⟨k, hk, rfl, hsc⟩ := hrel
    have HS := Lib.hid hsc; clear hsc
    by_cases hlt : k < s.size
    · rcases wdB_cases (s[k].toNat : Int) with ⟨c1, cw⟩ | ⟨c1, c2, cw⟩ | ⟨c1, c2, c3, cw⟩ | ⟨c1, c2, c3, cw⟩
      · have hy := Lib.hid (scan_yes wdB s k hlt cw); clear cw
        go_wp2_with (first | (go_at_call 71; refine (digit_any 71 (.inr rfl) _ _).mono ?_; rintro e w' ⟨rfl, rfl⟩) | (go_at_call 62; refine (letter_any 62 (.inr rfl) _ _).mono ?_; rintro e w' ⟨rfl, rfl⟩))
        go_round
        case rel => exact ⟨k + 1, by omega, by go_num, by rw [← hy.out]; exact HS.out⟩
        case measure => simp [intOf]; omega
      · have hy := Lib.hid (scan_yes wdB s k hlt cw); clear cw
        go_wp2_with (first | (go_at_call 71; refine (digit_any 71 (.inr rfl) _ _).mono ?_; rintro e w' ⟨rfl, rfl⟩) | (go_at_call 62; refine (letter_any 62 (.inr rfl) _ _).mono ?_; rintro e w' ⟨rfl, rfl⟩))
        go_round
        case rel => exact ⟨k + 1, by omega, by go_num, by rw [← hy.out]; exact HS.out⟩
        case measure => simp [intOf]; omega
      · have hy := Lib.hid (scan_yes wdB s k hlt cw); clear cw
        go_wp2_with (first | (go_at_call 71; refine (digit_any 71 (.inr rfl) _ _).mono ?_; rintro e w' ⟨rfl, rfl⟩) | (go_at_call 62; refine (letter_any 62 (.inr rfl) _ _).mono ?_; rintro e w' ⟨rfl, rfl⟩))
        go_round
        case rel => exact ⟨k + 1, by omega, by go_num, by rw [← hy.out]; exact HS.out⟩
        case measure => simp [intOf]; omega
      · have hy := Lib.hid (scan_no wdB s k hlt cw); clear cw
        go_wp2_with (first | (go_at_call 71; refine (digit_any 71 (.inr rfl) _ _).mono ?_; rintro e w' ⟨rfl, rfl⟩) | (go_at_call 62; refine (letter_any 62 (.inr rfl) _ _).mono ?_; rintro e w' ⟨rfl, rfl⟩))
        go_ret
        exact ⟨ret_one (by rw [← HS.out, hy.out]), rfl⟩
    · have hy := Lib.hid (scan_end wdB s k (by omega))
      go_wp2
      go_ret
      exact ⟨ret_one (by rw [← HS.out, hy.out]), rfl⟩

theorem wordSize_no (s : ByteArray) (w : World) (hs : s.size ≤ maxLen) (h0 : 0 < s.size) (hl : ltB (s[0].toNat : Int) = false) :
    Calls Try.prog 75 #[.string s] w fun e w' => e = .returned (.int .i64 0) ∧ w = w' := by
  unfold maxLen at hs
  go_enter Try.func75, Try.ntmps75
  go_wp2_with (go_at_call 78; refine (letter_any 78 (.inl rfl) _ _).mono ?_; rintro e w' ⟨rfl, rfl⟩)
  go_ret
  exact ⟨rfl, rfl⟩

theorem wordSize_yes (s : ByteArray) (w : World) (hs : s.size ≤ maxLen) (h0 : 0 < s.size) (hl : ltB (s[0].toNat : Int) = true) :
    Calls Try.prog 75 #[.string s] w fun e w' => e = .returned (.int .i64 (scan wdB s 1)) ∧ w = w' := by
  unfold maxLen at hs
  go_enter Try.func75, Try.ntmps75
  go_wp2_with (go_at_call 78; refine (letter_any 78 (.inl rfl) _ _).mono ?_; rintro e w' ⟨rfl, rfl⟩)
  go_loop [3] (fun i => ∃ k : Nat, k ≤ s.size ∧ i = .int .i64 k ∧ scan wdB s k = scan wdB s 1) (fun i => s.size - (intOf i).toNat)
  case atStart => exact ⟨1, by omega, rfl, rfl⟩
  case round =>
    clear hl
    obtain ⟨k, hk, rfl, hsc⟩ := hrel
    have HS := Lib.hid hsc; clear hsc
    by_cases hlt : k < s.size
    · rcases wdB_cases (s[k].toNat : Int) with ⟨c1, cw⟩ | ⟨c1, c2, cw⟩ | ⟨c1, c2, c3, cw⟩ | ⟨c1, c2, c3, cw⟩
      · have hy := Lib.hid (scan_yes wdB s k hlt cw); clear cw
        go_wp2_with (first | (go_at_call 79; refine (digit_any 79 (.inl rfl) _ _).mono ?_; rintro e w' ⟨rfl, rfl⟩) | (go_at_call 78; refine (letter_any 78 (.inl rfl) _ _).mono ?_; rintro e w' ⟨rfl, rfl⟩))
        go_round
        case rel => exact ⟨k + 1, by omega, by go_num, by rw [← hy.out]; exact HS.out⟩
        case measure => simp [intOf]; omega
      · have hy := Lib.hid (scan_yes wdB s k hlt cw); clear cw
        go_wp2_with (first | (go_at_call 79; refine (digit_any 79 (.inl rfl) _ _).mono ?_; rintro e w' ⟨rfl, rfl⟩) | (go_at_call 78; refine (letter_any 78 (.inl rfl) _ _).mono ?_; rintro e w' ⟨rfl, rfl⟩))
        go_round
        case rel => exact ⟨k + 1, by omega, by go_num, by rw [← hy.out]; exact HS.out⟩
        case measure => simp [intOf]; omega
      · have hy := Lib.hid (scan_yes wdB s k hlt cw); clear cw
        go_wp2_with (first | (go_at_call 79; refine (digit_any 79 (.inl rfl) _ _).mono ?_; rintro e w' ⟨rfl, rfl⟩) | (go_at_call 78; refine (letter_any 78 (.inl rfl) _ _).mono ?_; rintro e w' ⟨rfl, rfl⟩))
        go_round
        case rel => exact ⟨k + 1, by omega, by go_num, by rw [← hy.out]; exact HS.out⟩
        case measure => simp [intOf]; omega
      · have hy := Lib.hid (scan_no wdB s k hlt cw); clear cw
        go_wp2_with (first | (go_at_call 79; refine (digit_any 79 (.inl rfl) _ _).mono ?_; rintro e w' ⟨rfl, rfl⟩) | (go_at_call 78; refine (letter_any 78 (.inl rfl) _ _).mono ?_; rintro e w' ⟨rfl, rfl⟩))
        go_ret
        exact ⟨ret_one (by rw [← HS.out, hy.out]), rfl⟩
    · have hy := Lib.hid (scan_end wdB s k (by omega))
      go_wp2
      go_ret
      exact ⟨ret_one (by rw [← HS.out, hy.out]), rfl⟩
end Go.Proofs.Ythphgppgdlimeaa.Dec
