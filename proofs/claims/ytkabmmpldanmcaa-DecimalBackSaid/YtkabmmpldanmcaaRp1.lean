/- The reference's Parse, in parts (made by a program of this repo): a byte that is no digit and no point; too few or too many bytes behind the point. -/
import Derived.Test.YtkabmmpldanmcaaRp0
namespace Go.Proofs.Ytkabmmpldanmcaa
open Go.ChangeShapes Go.WideShapes Go.ChangeAt Go.RowKit
set_option linter.unusedVariables false

set_option maxRecDepth 100000 in
set_option maxHeartbeats 2000000 in
theorem rp_byte_f (s : ByteArray) (k : Nat) (w : World) (i : Nat) (hk : k ≤ 9) (hs : s.size ≤ 1000) (h0 : 0 < s.size) (hm : (((s[0].toNat : Nat) : Int) == 45) = false) (hi : scan dgB s 0 = i) (hil : i < s.size) (hb : (((s[i].toNat : Nat) : Int) != 46) = true) :
    Calls Try.prog 15 #[.string s, .int .i64 k] w (R7 w) := by
  have HI := Lib.hid hi; clear hi
  have HB := Lib.hid hb; clear hb
  go_enter Try.func15, Try.ntmps15
  go_wp2
  go_loop [6] (fun v => ∃ j : Nat, 0 ≤ j ∧ j ≤ s.size ∧ v = .int .i64 j ∧ scan dgB s j = scan dgB s 0) (fun v => s.size - (intOf v).toNat)
  case atStart => exact ⟨0, by omega, by omega, rfl, rfl⟩
  case round =>
    obtain ⟨j, hj0, hj, rfl, hsc⟩ := hrel
    have HS := Lib.hid hsc; clear hsc
    by_cases hlt : j < s.size
    · cases hd : dgB (s[j].toNat : Int)
      · have hy := scan_no dgB s j hlt hd
        have hji : j = i := by rw [← HI.out, ← HS.out, hy]
        clear hy
        obtain rfl : j = i := hji
        have hb := HB.out
        have y1 : (j : Int) + 1 ≤ s.size := by omega
        go_wp2_with (go_at_call 34; refine (digit_any 34 (.inr rfl) _ _).mono ?_; rintro e w' ⟨rfl, rfl⟩)
        go_ret2
        exact ⟨rfl, rfl⟩
      · have hy := Lib.hid (scan_yes dgB s j hlt hd)
        go_wp2_with (go_at_call 34; refine (digit_any 34 (.inr rfl) _ _).mono ?_; rintro e w' ⟨rfl, rfl⟩)
        go_round
        case rel => exact ⟨j + 1, by omega, by omega, by go_num, by rw [← hy.out]; exact HS.out⟩
        case measure => simp [intOf]; omega
    · have hy := scan_end dgB s j (by omega)
      have hji : j = i := by rw [← HI.out, ← HS.out, hy]
      clear hy
      exfalso; omega

set_option maxRecDepth 100000 in
set_option maxHeartbeats 2000000 in
theorem rp_none_f (s : ByteArray) (k : Nat) (w : World) (i : Nat) (hk : k ≤ 9) (hs : s.size ≤ 1000) (h0 : 0 < s.size) (hm : (((s[0].toNat : Nat) : Int) == 45) = false) (hi : scan dgB s 0 = i) (hil : i < s.size) (hb : (((s[i].toNat : Nat) : Int) != 46) = false) (hp : i + 1 = s.size) (p : ByteArray) (hpe : s.extract (i + 1) s.size = p) :
    Calls Try.prog 15 #[.string s, .int .i64 k] w (R7 w) := by
  have HI := Lib.hid hi; clear hi
  have HB := Lib.hid hb; have HP := Lib.hid hp; have HPE := Lib.hid hpe
  have HPZ : Hid (p.size + (i + 1) = s.size) := by show p.size + (i + 1) = s.size; rw [← hpe]; simp; omega
  clear hb hp hpe
  go_enter Try.func15, Try.ntmps15
  go_wp2
  go_loop [6] (fun v => ∃ j : Nat, 0 ≤ j ∧ j ≤ s.size ∧ v = .int .i64 j ∧ scan dgB s j = scan dgB s 0) (fun v => s.size - (intOf v).toNat)
  case atStart => exact ⟨0, by omega, by omega, rfl, rfl⟩
  case round =>
    obtain ⟨j, hj0, hj, rfl, hsc⟩ := hrel
    have HS := Lib.hid hsc; clear hsc
    by_cases hlt : j < s.size
    · cases hd : dgB (s[j].toNat : Int)
      · have hy := scan_no dgB s j hlt hd
        have hji : j = i := by rw [← HI.out, ← HS.out, hy]
        clear hy
        obtain rfl : j = i := hji
        have hb := HB.out
        have hpe := HPE.out
        have hp := HP.out
        have y1 : (j : Int) + 1 ≤ s.size := by omega
        have pz : ((p.size : Int) == 0) = true := beq_iff_eq.2 (by have := HPZ.out; omega)
        clear hp
        go_wp2_with (go_at_call 34; refine (digit_any 34 (.inr rfl) _ _).mono ?_; rintro e w' ⟨rfl, rfl⟩)
        go_ret2
        exact ⟨rfl, rfl⟩
      · have hy := Lib.hid (scan_yes dgB s j hlt hd)
        go_wp2_with (go_at_call 34; refine (digit_any 34 (.inr rfl) _ _).mono ?_; rintro e w' ⟨rfl, rfl⟩)
        go_round
        case rel => exact ⟨j + 1, by omega, by omega, by go_num, by rw [← hy.out]; exact HS.out⟩
        case measure => simp [intOf]; omega
    · have hy := scan_end dgB s j (by omega)
      have hji : j = i := by rw [← HI.out, ← HS.out, hy]
      clear hy
      exfalso; omega

set_option maxRecDepth 100000 in
set_option maxHeartbeats 2000000 in
theorem rp_many_f (s : ByteArray) (k : Nat) (w : World) (i : Nat) (hk : k ≤ 9) (hs : s.size ≤ 1000) (h0 : 0 < s.size) (hm : (((s[0].toNat : Nat) : Int) == 45) = false) (hi : scan dgB s 0 = i) (hil : i < s.size) (hb : (((s[i].toNat : Nat) : Int) != 46) = false) (hp : k + (i + 1) < s.size) (p : ByteArray) (hpe : s.extract (i + 1) s.size = p) :
    Calls Try.prog 15 #[.string s, .int .i64 k] w (R7 w) := by
  have HI := Lib.hid hi; clear hi
  have HB := Lib.hid hb; have HP := Lib.hid hp; have HPE := Lib.hid hpe
  have HPZ : Hid (p.size + (i + 1) = s.size) := by show p.size + (i + 1) = s.size; rw [← hpe]; simp; omega
  clear hb hp hpe
  go_enter Try.func15, Try.ntmps15
  go_wp2
  go_loop [6] (fun v => ∃ j : Nat, 0 ≤ j ∧ j ≤ s.size ∧ v = .int .i64 j ∧ scan dgB s j = scan dgB s 0) (fun v => s.size - (intOf v).toNat)
  case atStart => exact ⟨0, by omega, by omega, rfl, rfl⟩
  case round =>
    obtain ⟨j, hj0, hj, rfl, hsc⟩ := hrel
    have HS := Lib.hid hsc; clear hsc
    by_cases hlt : j < s.size
    · cases hd : dgB (s[j].toNat : Int)
      · have hy := scan_no dgB s j hlt hd
        have hji : j = i := by rw [← HI.out, ← HS.out, hy]
        clear hy
        obtain rfl : j = i := hji
        have hb := HB.out
        have hpe := HPE.out
        have hp := HP.out
        have y1 : (j : Int) + 1 ≤ s.size := by omega
        have pz : ((p.size : Int) == 0) = false := by rw [beq_eq_false_iff_ne]; have := HPZ.out; omega
        have pk : (k : Int) < p.size := by have := HPZ.out; omega
        clear hp
        go_wp2_with (go_at_call 34; refine (digit_any 34 (.inr rfl) _ _).mono ?_; rintro e w' ⟨rfl, rfl⟩)
        go_ret2
        exact ⟨rfl, rfl⟩
      · have hy := Lib.hid (scan_yes dgB s j hlt hd)
        go_wp2_with (go_at_call 34; refine (digit_any 34 (.inr rfl) _ _).mono ?_; rintro e w' ⟨rfl, rfl⟩)
        go_round
        case rel => exact ⟨j + 1, by omega, by omega, by go_num, by rw [← hy.out]; exact HS.out⟩
        case measure => simp [intOf]; omega
    · have hy := scan_end dgB s j (by omega)
      have hji : j = i := by rw [← HI.out, ← HS.out, hy]
      clear hy
      exfalso; omega

set_option maxRecDepth 100000 in
set_option maxHeartbeats 2000000 in
theorem rp_byte_t (s : ByteArray) (k : Nat) (w : World) (i : Nat) (hk : k ≤ 9) (hs : s.size ≤ 1000) (h0 : 0 < s.size) (hm : (((s[0].toNat : Nat) : Int) == 45) = true) (hi : scan dgB s 1 = i) (hil : i < s.size) (hb : (((s[i].toNat : Nat) : Int) != 46) = true) :
    Calls Try.prog 15 #[.string s, .int .i64 k] w (R7 w) := by
  have HI := Lib.hid hi; clear hi
  have HB := Lib.hid hb; clear hb
  go_enter Try.func15, Try.ntmps15
  go_wp2
  go_loop [6] (fun v => ∃ j : Nat, 1 ≤ j ∧ j ≤ s.size ∧ v = .int .i64 j ∧ scan dgB s j = scan dgB s 1) (fun v => s.size - (intOf v).toNat)
  case atStart => exact ⟨1, by omega, by omega, rfl, rfl⟩
  case round =>
    obtain ⟨j, hj0, hj, rfl, hsc⟩ := hrel
    have HS := Lib.hid hsc; clear hsc
    by_cases hlt : j < s.size
    · cases hd : dgB (s[j].toNat : Int)
      · have hy := scan_no dgB s j hlt hd
        have hji : j = i := by rw [← HI.out, ← HS.out, hy]
        clear hy
        obtain rfl : j = i := hji
        have hb := HB.out
        have y1 : (j : Int) + 1 ≤ s.size := by omega
        go_wp2_with (go_at_call 34; refine (digit_any 34 (.inr rfl) _ _).mono ?_; rintro e w' ⟨rfl, rfl⟩)
        go_ret2
        exact ⟨rfl, rfl⟩
      · have hy := Lib.hid (scan_yes dgB s j hlt hd)
        go_wp2_with (go_at_call 34; refine (digit_any 34 (.inr rfl) _ _).mono ?_; rintro e w' ⟨rfl, rfl⟩)
        go_round
        case rel => exact ⟨j + 1, by omega, by omega, by go_num, by rw [← hy.out]; exact HS.out⟩
        case measure => simp [intOf]; omega
    · have hy := scan_end dgB s j (by omega)
      have hji : j = i := by rw [← HI.out, ← HS.out, hy]
      clear hy
      exfalso; omega

set_option maxRecDepth 100000 in
set_option maxHeartbeats 2000000 in
theorem rp_none_t (s : ByteArray) (k : Nat) (w : World) (i : Nat) (hk : k ≤ 9) (hs : s.size ≤ 1000) (h0 : 0 < s.size) (hm : (((s[0].toNat : Nat) : Int) == 45) = true) (hi : scan dgB s 1 = i) (hil : i < s.size) (hb : (((s[i].toNat : Nat) : Int) != 46) = false) (hp : i + 1 = s.size) (p : ByteArray) (hpe : s.extract (i + 1) s.size = p) :
    Calls Try.prog 15 #[.string s, .int .i64 k] w (R7 w) := by
  have HI := Lib.hid hi; clear hi
  have HB := Lib.hid hb; have HP := Lib.hid hp; have HPE := Lib.hid hpe
  have HPZ : Hid (p.size + (i + 1) = s.size) := by show p.size + (i + 1) = s.size; rw [← hpe]; simp; omega
  clear hb hp hpe
  go_enter Try.func15, Try.ntmps15
  go_wp2
  go_loop [6] (fun v => ∃ j : Nat, 1 ≤ j ∧ j ≤ s.size ∧ v = .int .i64 j ∧ scan dgB s j = scan dgB s 1) (fun v => s.size - (intOf v).toNat)
  case atStart => exact ⟨1, by omega, by omega, rfl, rfl⟩
  case round =>
    obtain ⟨j, hj0, hj, rfl, hsc⟩ := hrel
    have HS := Lib.hid hsc; clear hsc
    by_cases hlt : j < s.size
    · cases hd : dgB (s[j].toNat : Int)
      · have hy := scan_no dgB s j hlt hd
        have hji : j = i := by rw [← HI.out, ← HS.out, hy]
        clear hy
        obtain rfl : j = i := hji
        have hb := HB.out
        have hpe := HPE.out
        have hp := HP.out
        have y1 : (j : Int) + 1 ≤ s.size := by omega
        have pz : ((p.size : Int) == 0) = true := beq_iff_eq.2 (by have := HPZ.out; omega)
        clear hp
        go_wp2_with (go_at_call 34; refine (digit_any 34 (.inr rfl) _ _).mono ?_; rintro e w' ⟨rfl, rfl⟩)
        go_ret2
        exact ⟨rfl, rfl⟩
      · have hy := Lib.hid (scan_yes dgB s j hlt hd)
        go_wp2_with (go_at_call 34; refine (digit_any 34 (.inr rfl) _ _).mono ?_; rintro e w' ⟨rfl, rfl⟩)
        go_round
        case rel => exact ⟨j + 1, by omega, by omega, by go_num, by rw [← hy.out]; exact HS.out⟩
        case measure => simp [intOf]; omega
    · have hy := scan_end dgB s j (by omega)
      have hji : j = i := by rw [← HI.out, ← HS.out, hy]
      clear hy
      exfalso; omega

set_option maxRecDepth 100000 in
set_option maxHeartbeats 2000000 in
theorem rp_many_t (s : ByteArray) (k : Nat) (w : World) (i : Nat) (hk : k ≤ 9) (hs : s.size ≤ 1000) (h0 : 0 < s.size) (hm : (((s[0].toNat : Nat) : Int) == 45) = true) (hi : scan dgB s 1 = i) (hil : i < s.size) (hb : (((s[i].toNat : Nat) : Int) != 46) = false) (hp : k + (i + 1) < s.size) (p : ByteArray) (hpe : s.extract (i + 1) s.size = p) :
    Calls Try.prog 15 #[.string s, .int .i64 k] w (R7 w) := by
  have HI := Lib.hid hi; clear hi
  have HB := Lib.hid hb; have HP := Lib.hid hp; have HPE := Lib.hid hpe
  have HPZ : Hid (p.size + (i + 1) = s.size) := by show p.size + (i + 1) = s.size; rw [← hpe]; simp; omega
  clear hb hp hpe
  go_enter Try.func15, Try.ntmps15
  go_wp2
  go_loop [6] (fun v => ∃ j : Nat, 1 ≤ j ∧ j ≤ s.size ∧ v = .int .i64 j ∧ scan dgB s j = scan dgB s 1) (fun v => s.size - (intOf v).toNat)
  case atStart => exact ⟨1, by omega, by omega, rfl, rfl⟩
  case round =>
    obtain ⟨j, hj0, hj, rfl, hsc⟩ := hrel
    have HS := Lib.hid hsc; clear hsc
    by_cases hlt : j < s.size
    · cases hd : dgB (s[j].toNat : Int)
      · have hy := scan_no dgB s j hlt hd
        have hji : j = i := by rw [← HI.out, ← HS.out, hy]
        clear hy
        obtain rfl : j = i := hji
        have hb := HB.out
        have hpe := HPE.out
        have hp := HP.out
        have y1 : (j : Int) + 1 ≤ s.size := by omega
        have pz : ((p.size : Int) == 0) = false := by rw [beq_eq_false_iff_ne]; have := HPZ.out; omega
        have pk : (k : Int) < p.size := by have := HPZ.out; omega
        clear hp
        go_wp2_with (go_at_call 34; refine (digit_any 34 (.inr rfl) _ _).mono ?_; rintro e w' ⟨rfl, rfl⟩)
        go_ret2
        exact ⟨rfl, rfl⟩
      · have hy := Lib.hid (scan_yes dgB s j hlt hd)
        go_wp2_with (go_at_call 34; refine (digit_any 34 (.inr rfl) _ _).mono ?_; rintro e w' ⟨rfl, rfl⟩)
        go_round
        case rel => exact ⟨j + 1, by omega, by omega, by go_num, by rw [← hy.out]; exact HS.out⟩
        case measure => simp [intOf]; omega
    · have hy := scan_end dgB s j (by omega)
      have hji : j = i := by rw [← HI.out, ← HS.out, hy]
      clear hy
      exfalso; omega

end Go.Proofs.Ytkabmmpldanmcaa
