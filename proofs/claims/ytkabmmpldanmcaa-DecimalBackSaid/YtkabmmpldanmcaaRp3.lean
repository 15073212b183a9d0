/- The reference's Parse, in parts (made by a program of this repo): no point, and an integral part with superfluous zeros, or none. -/
import Derived.Test.YtkabmmpldanmcaaRp0
namespace Go.Proofs.Ytkabmmpldanmcaa
open Go.ChangeShapes Go.WideShapes Go.ChangeAt Go.RowKit
set_option linter.unusedVariables false

set_option maxRecDepth 100000 in
set_option maxHeartbeats 2000000 in
theorem rp_enda_f (s : ByteArray) (k : Nat) (w : World) (i : Nat) (hk : k ≤ 9) (hs : s.size ≤ 1000) (h0 : 0 < s.size) (hm : (((s[0].toNat : Nat) : Int) == 45) = false) (hi : scan dgB s 0 = i) (hil : i = s.size) (wq : ByteArray) (hwe : s.extract 0 s.size = wq) (hw : wq.size = 0) :
    Calls Try.prog 15 #[.string s, .int .i64 k] w (R7 w) := by
  have HI := Lib.hid hi; clear hi
  have HWE := Lib.hid hwe
  have HWZ : Hid (wq.size + 0 = s.size) := by show wq.size + 0 = s.size; rw [← hwe]; simp <;> omega
  have hil' : i = s.size := hil
  clear hwe hil
  go_enter Try.func15, Try.ntmps15
  go_wp2
  go_loop [6] (fun v => ∃ j : Nat, 0 ≤ j ∧ j ≤ s.size ∧ v = .int .i64 j ∧ scan dgB s j = scan dgB s 0) (fun v => s.size - (intOf v).toNat)
  case atStart => exact ⟨0, by omega, by omega, rfl, rfl⟩
  case round =>
    obtain ⟨j, hj0, hj, rfl, hsc⟩ := hrel
    have HS := Lib.hid hsc; clear hsc
    by_cases hlt : j < s.size
    · cases hd : dgB (s[j].toNat : Int)
      · have hy := scan_no dgB s j hlt hd
        have hji : j = i := by rw [← HI.out, ← HS.out, hy]
        clear hy
        exfalso; omega
      · have hy := Lib.hid (scan_yes dgB s j hlt hd)
        go_wp2_with (go_at_call 34; refine (digit_any 34 (.inr rfl) _ _).mono ?_; rintro e w' ⟨rfl, rfl⟩)
        go_round
        case rel => exact ⟨j + 1, by omega, by omega, by go_num, by rw [← hy.out]; exact HS.out⟩
        case measure => simp [intOf]; omega
    · have hy := scan_end dgB s j (by omega)
      have hji : j = i := by rw [← HI.out, ← HS.out, hy]
      clear hy
      obtain rfl : j = s.size := by omega
      clear hji hil' hlt hj hj0
      have hwe := HWE.out
      have hwz : wq.size ≤ 1000 := by have := HWZ.out; omega
      go_wp2_with (go_at_call 34; refine (digit_any 34 (.inr rfl) _ _).mono ?_; rintro e w' ⟨rfl, rfl⟩)
      go_loop [4, 5, 11] (fun v4 v5 v => v4 = .int .i64 0 ∧ v5 = .int .i64 0 ∧ v = .int .i64 0) (fun _ _ _ => 0)
      case atStart => exact ⟨rfl, rfl, rfl⟩
      case round =>
        obtain ⟨rfl, rfl, rfl⟩ := hrel
        have wz : ((wq.size : Int) == 0) = true := beq_iff_eq.2 (by omega)
        clear hw
        go_wp2
        go_ret2
        exact ⟨rfl, rfl⟩

set_option maxRecDepth 100000 in
set_option maxHeartbeats 2000000 in
theorem rp_endb_f (s : ByteArray) (k : Nat) (w : World) (i : Nat) (hk : k ≤ 9) (hs : s.size ≤ 1000) (h0 : 0 < s.size) (hm : (((s[0].toNat : Nat) : Int) == 45) = false) (hi : scan dgB s 0 = i) (hil : i = s.size) (wq : ByteArray) (hwe : s.extract 0 s.size = wq) (hw1 : 1 < wq.size) (hw : (((wq[0].toNat : Nat) : Int) == 48) = true) :
    Calls Try.prog 15 #[.string s, .int .i64 k] w (R7 w) := by
  have HI := Lib.hid hi; clear hi
  have HWE := Lib.hid hwe
  have HWZ : Hid (wq.size + 0 = s.size) := by show wq.size + 0 = s.size; rw [← hwe]; simp <;> omega
  have hil' : i = s.size := hil
  clear hwe hil
  go_enter Try.func15, Try.ntmps15
  go_wp2
  go_loop [6] (fun v => ∃ j : Nat, 0 ≤ j ∧ j ≤ s.size ∧ v = .int .i64 j ∧ scan dgB s j = scan dgB s 0) (fun v => s.size - (intOf v).toNat)
  case atStart => exact ⟨0, by omega, by omega, rfl, rfl⟩
  case round =>
    obtain ⟨j, hj0, hj, rfl, hsc⟩ := hrel
    have HS := Lib.hid hsc; clear hsc
    by_cases hlt : j < s.size
    · cases hd : dgB (s[j].toNat : Int)
      · have hy := scan_no dgB s j hlt hd
        have hji : j = i := by rw [← HI.out, ← HS.out, hy]
        clear hy
        exfalso; omega
      · have hy := Lib.hid (scan_yes dgB s j hlt hd)
        go_wp2_with (go_at_call 34; refine (digit_any 34 (.inr rfl) _ _).mono ?_; rintro e w' ⟨rfl, rfl⟩)
        go_round
        case rel => exact ⟨j + 1, by omega, by omega, by go_num, by rw [← hy.out]; exact HS.out⟩
        case measure => simp [intOf]; omega
    · have hy := scan_end dgB s j (by omega)
      have hji : j = i := by rw [← HI.out, ← HS.out, hy]
      clear hy
      obtain rfl : j = s.size := by omega
      clear hji hil' hlt hj hj0
      have hwe := HWE.out
      have hwz : wq.size ≤ 1000 := by have := HWZ.out; omega
      go_wp2_with (go_at_call 34; refine (digit_any 34 (.inr rfl) _ _).mono ?_; rintro e w' ⟨rfl, rfl⟩)
      go_loop [4, 5, 11] (fun v4 v5 v => v4 = .int .i64 0 ∧ v5 = .int .i64 0 ∧ v = .int .i64 0) (fun _ _ _ => 0)
      case atStart => exact ⟨rfl, rfl, rfl⟩
      case round =>
        obtain ⟨rfl, rfl, rfl⟩ := hrel
        have wz : ((wq.size : Int) == 0) = false := by rw [beq_eq_false_iff_ne]; omega
        have wz2 : (1 : Int) < wq.size := by omega
        go_wp2
        go_ret2
        exact ⟨rfl, rfl⟩

set_option maxRecDepth 100000 in
set_option maxHeartbeats 2000000 in
theorem rp_enda_t (s : ByteArray) (k : Nat) (w : World) (i : Nat) (hk : k ≤ 9) (hs : s.size ≤ 1000) (h0 : 0 < s.size) (hm : (((s[0].toNat : Nat) : Int) == 45) = true) (hi : scan dgB s 1 = i) (hil : i = s.size) (wq : ByteArray) (hwe : s.extract 1 s.size = wq) (hw : wq.size = 0) :
    Calls Try.prog 15 #[.string s, .int .i64 k] w (R7 w) := by
  have HI := Lib.hid hi; clear hi
  have HWE := Lib.hid hwe
  have HWZ : Hid (wq.size + 1 = s.size) := by show wq.size + 1 = s.size; rw [← hwe]; simp <;> omega
  have hil' : i = s.size := hil
  clear hwe hil
  go_enter Try.func15, Try.ntmps15
  go_wp2
  go_loop [6] (fun v => ∃ j : Nat, 1 ≤ j ∧ j ≤ s.size ∧ v = .int .i64 j ∧ scan dgB s j = scan dgB s 1) (fun v => s.size - (intOf v).toNat)
  case atStart => exact ⟨1, by omega, by omega, rfl, rfl⟩
  case round =>
    obtain ⟨j, hj0, hj, rfl, hsc⟩ := hrel
    have HS := Lib.hid hsc; clear hsc
    by_cases hlt : j < s.size
    · cases hd : dgB (s[j].toNat : Int)
      · have hy := scan_no dgB s j hlt hd
        have hji : j = i := by rw [← HI.out, ← HS.out, hy]
        clear hy
        exfalso; omega
      · have hy := Lib.hid (scan_yes dgB s j hlt hd)
        go_wp2_with (go_at_call 34; refine (digit_any 34 (.inr rfl) _ _).mono ?_; rintro e w' ⟨rfl, rfl⟩)
        go_round
        case rel => exact ⟨j + 1, by omega, by omega, by go_num, by rw [← hy.out]; exact HS.out⟩
        case measure => simp [intOf]; omega
    · have hy := scan_end dgB s j (by omega)
      have hji : j = i := by rw [← HI.out, ← HS.out, hy]
      clear hy
      obtain rfl : j = s.size := by omega
      clear hji hil' hlt hj hj0
      have hwe := HWE.out
      have hwz : wq.size ≤ 1000 := by have := HWZ.out; omega
      go_wp2_with (go_at_call 34; refine (digit_any 34 (.inr rfl) _ _).mono ?_; rintro e w' ⟨rfl, rfl⟩)
      go_loop [4, 5, 11] (fun v4 v5 v => v4 = .int .i64 0 ∧ v5 = .int .i64 0 ∧ v = .int .i64 0) (fun _ _ _ => 0)
      case atStart => exact ⟨rfl, rfl, rfl⟩
      case round =>
        obtain ⟨rfl, rfl, rfl⟩ := hrel
        have wz : ((wq.size : Int) == 0) = true := beq_iff_eq.2 (by omega)
        clear hw
        go_wp2
        go_ret2
        exact ⟨rfl, rfl⟩

set_option maxRecDepth 100000 in
set_option maxHeartbeats 2000000 in
theorem rp_endb_t (s : ByteArray) (k : Nat) (w : World) (i : Nat) (hk : k ≤ 9) (hs : s.size ≤ 1000) (h0 : 0 < s.size) (hm : (((s[0].toNat : Nat) : Int) == 45) = true) (hi : scan dgB s 1 = i) (hil : i = s.size) (wq : ByteArray) (hwe : s.extract 1 s.size = wq) (hw1 : 1 < wq.size) (hw : (((wq[0].toNat : Nat) : Int) == 48) = true) :
    Calls Try.prog 15 #[.string s, .int .i64 k] w (R7 w) := by
  have HI := Lib.hid hi; clear hi
  have HWE := Lib.hid hwe
  have HWZ : Hid (wq.size + 1 = s.size) := by show wq.size + 1 = s.size; rw [← hwe]; simp <;> omega
  have hil' : i = s.size := hil
  clear hwe hil
  go_enter Try.func15, Try.ntmps15
  go_wp2
  go_loop [6] (fun v => ∃ j : Nat, 1 ≤ j ∧ j ≤ s.size ∧ v = .int .i64 j ∧ scan dgB s j = scan dgB s 1) (fun v => s.size - (intOf v).toNat)
  case atStart => exact ⟨1, by omega, by omega, rfl, rfl⟩
  case round =>
    obtain ⟨j, hj0, hj, rfl, hsc⟩ := hrel
    have HS := Lib.hid hsc; clear hsc
    by_cases hlt : j < s.size
    · cases hd : dgB (s[j].toNat : Int)
      · have hy := scan_no dgB s j hlt hd
        have hji : j = i := by rw [← HI.out, ← HS.out, hy]
        clear hy
        exfalso; omega
      · have hy := Lib.hid (scan_yes dgB s j hlt hd)
        go_wp2_with (go_at_call 34; refine (digit_any 34 (.inr rfl) _ _).mono ?_; rintro e w' ⟨rfl, rfl⟩)
        go_round
        case rel => exact ⟨j + 1, by omega, by omega, by go_num, by rw [← hy.out]; exact HS.out⟩
        case measure => simp [intOf]; omega
    · have hy := scan_end dgB s j (by omega)
      have hji : j = i := by rw [← HI.out, ← HS.out, hy]
      clear hy
      obtain rfl : j = s.size := by omega
      clear hji hil' hlt hj hj0
      have hwe := HWE.out
      have hwz : wq.size ≤ 1000 := by have := HWZ.out; omega
      go_wp2_with (go_at_call 34; refine (digit_any 34 (.inr rfl) _ _).mono ?_; rintro e w' ⟨rfl, rfl⟩)
      go_loop [4, 5, 11] (fun v4 v5 v => v4 = .int .i64 0 ∧ v5 = .int .i64 0 ∧ v = .int .i64 0) (fun _ _ _ => 0)
      case atStart => exact ⟨rfl, rfl, rfl⟩
      case round =>
        obtain ⟨rfl, rfl, rfl⟩ := hrel
        have wz : ((wq.size : Int) == 0) = false := by rw [beq_eq_false_iff_ne]; omega
        have wz2 : (1 : Int) < wq.size := by omega
        go_wp2
        go_ret2
        exact ⟨rfl, rfl⟩

end Go.Proofs.Ytkabmmpldanmcaa
