/- The reference's Parse, in parts (made by a program of this repo): behind the point a byte that is no digit; an integral part with superfluous zeros. -/
import Derived.Test.YtkabmmpldanmcaaRp0
namespace Go.Proofs.Ytkabmmpldanmcaa
open Go.ChangeShapes Go.WideShapes Go.ChangeAt Go.RowKit
set_option linter.unusedVariables false

set_option maxRecDepth 100000 in
set_option maxHeartbeats 2000000 in
theorem rp_nodig_f (s : ByteArray) (k : Nat) (w : World) (i : Nat) (hk : k ≤ 9) (hs : s.size ≤ 1000) (h0 : 0 < s.size) (hm : (((s[0].toNat : Nat) : Int) == 45) = false) (hi : scan dgB s 0 = i) (hil : i < s.size) (hb : (((s[i].toNat : Nat) : Int) != 46) = false) (p : ByteArray) (hpe : s.extract (i + 1) s.size = p) (hp1 : 0 < p.size) (hpk : p.size ≤ k) (wq : ByteArray) (hwe : s.extract 0 i = wq) (hnd : adB p.data.toList = false) :
    Calls Try.prog 15 #[.string s, .int .i64 k] w (R7 w) := by
  have HI := Lib.hid hi; clear hi
  have HB := Lib.hid hb; have HPE := Lib.hid hpe; have HWE := Lib.hid hwe
  have HPZ : Hid (p.size + (i + 1) = s.size) := by show p.size + (i + 1) = s.size; rw [← hpe]; simp; omega
  have HWZ : Hid (wq.size + 0 = i) := by show wq.size + 0 = i; have := scan_le dgB s 0 (by omega); rw [HI.out] at this; rw [← hwe]; simp; omega
  clear hb hpe hwe
  have HND := Lib.hid hnd; clear hnd
  go_enter Try.func15, Try.ntmps15
  go_wp2
  go_loop [6] (fun v => ∃ j : Nat, 0 ≤ j ∧ j ≤ s.size ∧ v = .int .i64 j ∧ scan dgB s j = scan dgB s 0) (fun v => s.size - (intOf v).toNat)
  case atStart => exact ⟨0, by omega, by omega, rfl, rfl⟩
  case round =>
    obtain ⟨j, hj0, hj, rfl, hsc⟩ := hrel
    have HS := Lib.hid hsc; clear hsc
    by_cases hlt : j < s.size
    · cases hd : dgB (s[j].toNat : Int)
      · have hy := scan_no dgB s j hlt hd
        have hji : j = i := by rw [← HI.out, ← HS.out, hy]
        clear hy
        obtain rfl : j = i := hji
        have hb := HB.out
        have hpe := HPE.out
        have hwe := HWE.out
        have y1 : (j : Int) + 1 ≤ s.size := by omega
        have pz : ((p.size : Int) == 0) = false := by rw [beq_eq_false_iff_ne]; omega
        have pk : ¬ (k : Int) < p.size := by omega
        have pkb : decide (k < p.size) = false := by simp; omega
        have hwz : wq.size ≤ 1000 := by have := HWZ.out; omega
        go_wp2_with (go_at_call 34; refine (digit_any 34 (.inr rfl) _ _).mono ?_; rintro e w' ⟨rfl, rfl⟩)
        go_loop [4, 5, 11] (fun v4 v5 v => v4 = .int .i64 0 ∧ v5 = .int .i64 0 ∧ ∃ x : Nat, x ≤ p.size ∧ v = .int .i64 x ∧ scan dgB p x = scan dgB p 0) (fun _ _ v => p.size - (intOf v).toNat)
        case atStart => exact ⟨rfl, rfl, 0, by omega, rfl, rfl⟩
        case round =>
          obtain ⟨rfl, rfl, x, hx, rfl, hsc⟩ := hrel
          have HS2 := Lib.hid hsc; clear hsc
          by_cases hlx : x < p.size
          · cases hd2 : dgB (p[x].toNat : Int)
            · have HY2 := Lib.hid (scan_no dgB p x hlx hd2)
              go_wp2_with (go_at_call 34; refine (digit_any 34 (.inr rfl) _ _).mono ?_; rintro e w' ⟨rfl, rfl⟩)
              go_ret2
              exact ⟨rfl, rfl⟩
            · have hy := Lib.hid (scan_yes dgB p x hlx hd2)
              go_wp2_with (go_at_call 34; refine (digit_any 34 (.inr rfl) _ _).mono ?_; rintro e w' ⟨rfl, rfl⟩)
              go_round
              case rel => exact ⟨rfl, rfl, x + 1, by omega, by go_num, by rw [← hy.out]; exact HS2.out⟩
              case measure => simp [intOf]; omega
          · have HY2 := Lib.hid (scan_end dgB p x (by omega))
            exfalso
            have e := HND.out
            have e2 : adB p.data.toList = true := by rw [adB_iff]; have h := HS2.out; rw [HY2.out, cnt_drop, List.drop_zero] at h; (have hz : p.data.toList.length = p.size := by simp); omega
            rw [e] at e2; cases e2
      · have hy := Lib.hid (scan_yes dgB s j hlt hd)
        go_wp2_with (go_at_call 34; refine (digit_any 34 (.inr rfl) _ _).mono ?_; rintro e w' ⟨rfl, rfl⟩)
        go_round
        case rel => exact ⟨j + 1, by omega, by omega, by go_num, by rw [← hy.out]; exact HS.out⟩
        case measure => simp [intOf]; omega
    · have hy := scan_end dgB s j (by omega)
      have hji : j = i := by rw [← HI.out, ← HS.out, hy]
      clear hy
      exfalso; omega

set_option maxRecDepth 100000 in
set_option maxHeartbeats 2000000 in
theorem rp_wholea_f (s : ByteArray) (k : Nat) (w : World) (i : Nat) (hk : k ≤ 9) (hs : s.size ≤ 1000) (h0 : 0 < s.size) (hm : (((s[0].toNat : Nat) : Int) == 45) = false) (hi : scan dgB s 0 = i) (hil : i < s.size) (hb : (((s[i].toNat : Nat) : Int) != 46) = false) (p : ByteArray) (hpe : s.extract (i + 1) s.size = p) (hp1 : 0 < p.size) (hpk : p.size ≤ k) (wq : ByteArray) (hwe : s.extract 0 i = wq) (hnd : adB p.data.toList = true) (hw : wq.size = 0) :
    Calls Try.prog 15 #[.string s, .int .i64 k] w (R7 w) := by
  have HI := Lib.hid hi; clear hi
  have HB := Lib.hid hb; have HPE := Lib.hid hpe; have HWE := Lib.hid hwe
  have HPZ : Hid (p.size + (i + 1) = s.size) := by show p.size + (i + 1) = s.size; rw [← hpe]; simp; omega
  have HWZ : Hid (wq.size + 0 = i) := by show wq.size + 0 = i; have := scan_le dgB s 0 (by omega); rw [HI.out] at this; rw [← hwe]; simp; omega
  clear hb hpe hwe
  have HND := Lib.hid hnd; clear hnd
  go_enter Try.func15, Try.ntmps15
  go_wp2
  go_loop [6] (fun v => ∃ j : Nat, 0 ≤ j ∧ j ≤ s.size ∧ v = .int .i64 j ∧ scan dgB s j = scan dgB s 0) (fun v => s.size - (intOf v).toNat)
  case atStart => exact ⟨0, by omega, by omega, rfl, rfl⟩
  case round =>
    obtain ⟨j, hj0, hj, rfl, hsc⟩ := hrel
    have HS := Lib.hid hsc; clear hsc
    by_cases hlt : j < s.size
    · cases hd : dgB (s[j].toNat : Int)
      · have hy := scan_no dgB s j hlt hd
        have hji : j = i := by rw [← HI.out, ← HS.out, hy]
        clear hy
        obtain rfl : j = i := hji
        have hb := HB.out
        have hpe := HPE.out
        have hwe := HWE.out
        have y1 : (j : Int) + 1 ≤ s.size := by omega
        have pz : ((p.size : Int) == 0) = false := by rw [beq_eq_false_iff_ne]; omega
        have pk : ¬ (k : Int) < p.size := by omega
        have pkb : decide (k < p.size) = false := by simp; omega
        have hwz : wq.size ≤ 1000 := by have := HWZ.out; omega
        go_wp2_with (go_at_call 34; refine (digit_any 34 (.inr rfl) _ _).mono ?_; rintro e w' ⟨rfl, rfl⟩)
        go_loop [4, 5, 11] (fun v4 v5 v => v4 = .int .i64 0 ∧ v5 = .int .i64 0 ∧ ∃ x : Nat, x ≤ p.size ∧ v = .int .i64 x ∧ scan dgB p x = scan dgB p 0) (fun _ _ v => p.size - (intOf v).toNat)
        case atStart => exact ⟨rfl, rfl, 0, by omega, rfl, rfl⟩
        case round =>
          obtain ⟨rfl, rfl, x, hx, rfl, hsc⟩ := hrel
          have HS2 := Lib.hid hsc; clear hsc
          by_cases hlx : x < p.size
          · cases hd2 : dgB (p[x].toNat : Int)
            · have HY2 := Lib.hid (scan_no dgB p x hlx hd2)
              exfalso
              have e := (adB_at HND.out x hlx)
              have := dgB_no.1 hd2
              omega
            · have hy := Lib.hid (scan_yes dgB p x hlx hd2)
              go_wp2_with (go_at_call 34; refine (digit_any 34 (.inr rfl) _ _).mono ?_; rintro e w' ⟨rfl, rfl⟩)
              go_round
              case rel => exact ⟨rfl, rfl, x + 1, by omega, by go_num, by rw [← hy.out]; exact HS2.out⟩
              case measure => simp [intOf]; omega
          · have HY2 := Lib.hid (scan_end dgB p x (by omega))
            have hpe2 : ¬ (x : Int) < p.size := by omega
            have wz : ((wq.size : Int) == 0) = true := beq_iff_eq.2 (by omega)
            clear hw
            go_wp2
            go_ret2
            exact ⟨rfl, rfl⟩
      · have hy := Lib.hid (scan_yes dgB s j hlt hd)
        go_wp2_with (go_at_call 34; refine (digit_any 34 (.inr rfl) _ _).mono ?_; rintro e w' ⟨rfl, rfl⟩)
        go_round
        case rel => exact ⟨j + 1, by omega, by omega, by go_num, by rw [← hy.out]; exact HS.out⟩
        case measure => simp [intOf]; omega
    · have hy := scan_end dgB s j (by omega)
      have hji : j = i := by rw [← HI.out, ← HS.out, hy]
      clear hy
      exfalso; omega

set_option maxRecDepth 100000 in
set_option maxHeartbeats 2000000 in
theorem rp_wholeb_f (s : ByteArray) (k : Nat) (w : World) (i : Nat) (hk : k ≤ 9) (hs : s.size ≤ 1000) (h0 : 0 < s.size) (hm : (((s[0].toNat : Nat) : Int) == 45) = false) (hi : scan dgB s 0 = i) (hil : i < s.size) (hb : (((s[i].toNat : Nat) : Int) != 46) = false) (p : ByteArray) (hpe : s.extract (i + 1) s.size = p) (hp1 : 0 < p.size) (hpk : p.size ≤ k) (wq : ByteArray) (hwe : s.extract 0 i = wq) (hnd : adB p.data.toList = true) (hw1 : 1 < wq.size) (hw : (((wq[0].toNat : Nat) : Int) == 48) = true) :
    Calls Try.prog 15 #[.string s, .int .i64 k] w (R7 w) := by
  have HI := Lib.hid hi; clear hi
  have HB := Lib.hid hb; have HPE := Lib.hid hpe; have HWE := Lib.hid hwe
  have HPZ : Hid (p.size + (i + 1) = s.size) := by show p.size + (i + 1) = s.size; rw [← hpe]; simp; omega
  have HWZ : Hid (wq.size + 0 = i) := by show wq.size + 0 = i; have := scan_le dgB s 0 (by omega); rw [HI.out] at this; rw [← hwe]; simp; omega
  clear hb hpe hwe
  have HND := Lib.hid hnd; clear hnd
  go_enter Try.func15, Try.ntmps15
  go_wp2
  go_loop [6] (fun v => ∃ j : Nat, 0 ≤ j ∧ j ≤ s.size ∧ v = .int .i64 j ∧ scan dgB s j = scan dgB s 0) (fun v => s.size - (intOf v).toNat)
  case atStart => exact ⟨0, by omega, by omega, rfl, rfl⟩
  case round =>
    obtain ⟨j, hj0, hj, rfl, hsc⟩ := hrel
    have HS := Lib.hid hsc; clear hsc
    by_cases hlt : j < s.size
    · cases hd : dgB (s[j].toNat : Int)
      · have hy := scan_no dgB s j hlt hd
        have hji : j = i := by rw [← HI.out, ← HS.out, hy]
        clear hy
        obtain rfl : j = i := hji
        have hb := HB.out
        have hpe := HPE.out
        have hwe := HWE.out
        have y1 : (j : Int) + 1 ≤ s.size := by omega
        have pz : ((p.size : Int) == 0) = false := by rw [beq_eq_false_iff_ne]; omega
        have pk : ¬ (k : Int) < p.size := by omega
        have pkb : decide (k < p.size) = false := by simp; omega
        have hwz : wq.size ≤ 1000 := by have := HWZ.out; omega
        go_wp2_with (go_at_call 34; refine (digit_any 34 (.inr rfl) _ _).mono ?_; rintro e w' ⟨rfl, rfl⟩)
        go_loop [4, 5, 11] (fun v4 v5 v => v4 = .int .i64 0 ∧ v5 = .int .i64 0 ∧ ∃ x : Nat, x ≤ p.size ∧ v = .int .i64 x ∧ scan dgB p x = scan dgB p 0) (fun _ _ v => p.size - (intOf v).toNat)
        case atStart => exact ⟨rfl, rfl, 0, by omega, rfl, rfl⟩
        case round =>
          obtain ⟨rfl, rfl, x, hx, rfl, hsc⟩ := hrel
          have HS2 := Lib.hid hsc; clear hsc
          by_cases hlx : x < p.size
          · cases hd2 : dgB (p[x].toNat : Int)
            · have HY2 := Lib.hid (scan_no dgB p x hlx hd2)
              exfalso
              have e := (adB_at HND.out x hlx)
              have := dgB_no.1 hd2
              omega
            · have hy := Lib.hid (scan_yes dgB p x hlx hd2)
              go_wp2_with (go_at_call 34; refine (digit_any 34 (.inr rfl) _ _).mono ?_; rintro e w' ⟨rfl, rfl⟩)
              go_round
              case rel => exact ⟨rfl, rfl, x + 1, by omega, by go_num, by rw [← hy.out]; exact HS2.out⟩
              case measure => simp [intOf]; omega
          · have HY2 := Lib.hid (scan_end dgB p x (by omega))
            have hpe2 : ¬ (x : Int) < p.size := by omega
            have wz : ((wq.size : Int) == 0) = false := by rw [beq_eq_false_iff_ne]; omega
            have wz2 : (1 : Int) < wq.size := by omega
            go_wp2
            go_ret2
            exact ⟨rfl, rfl⟩
      · have hy := Lib.hid (scan_yes dgB s j hlt hd)
        go_wp2_with (go_at_call 34; refine (digit_any 34 (.inr rfl) _ _).mono ?_; rintro e w' ⟨rfl, rfl⟩)
        go_round
        case rel => exact ⟨j + 1, by omega, by omega, by go_num, by rw [← hy.out]; exact HS.out⟩
        case measure => simp [intOf]; omega
    · have hy := scan_end dgB s j (by omega)
      have hji : j = i := by rw [← HI.out, ← HS.out, hy]
      clear hy
      exfalso; omega

set_option maxRecDepth 100000 in
set_option maxHeartbeats 2000000 in
theorem rp_nodig_t (s : ByteArray) (k : Nat) (w : World) (i : Nat) (hk : k ≤ 9) (hs : s.size ≤ 1000) (h0 : 0 < s.size) (hm : (((s[0].toNat : Nat) : Int) == 45) = true) (hi : scan dgB s 1 = i) (hil : i < s.size) (hb : (((s[i].toNat : Nat) : Int) != 46) = false) (p : ByteArray) (hpe : s.extract (i + 1) s.size = p) (hp1 : 0 < p.size) (hpk : p.size ≤ k) (wq : ByteArray) (hwe : s.extract 1 i = wq) (hnd : adB p.data.toList = false) :
    Calls Try.prog 15 #[.string s, .int .i64 k] w (R7 w) := by
  have HI := Lib.hid hi; clear hi
  have HB := Lib.hid hb; have HPE := Lib.hid hpe; have HWE := Lib.hid hwe
  have HPZ : Hid (p.size + (i + 1) = s.size) := by show p.size + (i + 1) = s.size; rw [← hpe]; simp; omega
  have HWZ : Hid (wq.size + 1 = i) := by show wq.size + 1 = i; have := scan_le dgB s 1 (by omega); rw [HI.out] at this; rw [← hwe]; simp; omega
  clear hb hpe hwe
  have HND := Lib.hid hnd; clear hnd
  go_enter Try.func15, Try.ntmps15
  go_wp2
  go_loop [6] (fun v => ∃ j : Nat, 1 ≤ j ∧ j ≤ s.size ∧ v = .int .i64 j ∧ scan dgB s j = scan dgB s 1) (fun v => s.size - (intOf v).toNat)
  case atStart => exact ⟨1, by omega, by omega, rfl, rfl⟩
  case round =>
    obtain ⟨j, hj0, hj, rfl, hsc⟩ := hrel
    have HS := Lib.hid hsc; clear hsc
    by_cases hlt : j < s.size
    · cases hd : dgB (s[j].toNat : Int)
      · have hy := scan_no dgB s j hlt hd
        have hji : j = i := by rw [← HI.out, ← HS.out, hy]
        clear hy
        obtain rfl : j = i := hji
        have hb := HB.out
        have hpe := HPE.out
        have hwe := HWE.out
        have y1 : (j : Int) + 1 ≤ s.size := by omega
        have pz : ((p.size : Int) == 0) = false := by rw [beq_eq_false_iff_ne]; omega
        have pk : ¬ (k : Int) < p.size := by omega
        have pkb : decide (k < p.size) = false := by simp; omega
        have hwz : wq.size ≤ 1000 := by have := HWZ.out; omega
        go_wp2_with (go_at_call 34; refine (digit_any 34 (.inr rfl) _ _).mono ?_; rintro e w' ⟨rfl, rfl⟩)
        go_loop [4, 5, 11] (fun v4 v5 v => v4 = .int .i64 0 ∧ v5 = .int .i64 0 ∧ ∃ x : Nat, x ≤ p.size ∧ v = .int .i64 x ∧ scan dgB p x = scan dgB p 0) (fun _ _ v => p.size - (intOf v).toNat)
        case atStart => exact ⟨rfl, rfl, 0, by omega, rfl, rfl⟩
        case round =>
          obtain ⟨rfl, rfl, x, hx, rfl, hsc⟩ := hrel
          have HS2 := Lib.hid hsc; clear hsc
          by_cases hlx : x < p.size
          · cases hd2 : dgB (p[x].toNat : Int)
            · have HY2 := Lib.hid (scan_no dgB p x hlx hd2)
              go_wp2_with (go_at_call 34; refine (digit_any 34 (.inr rfl) _ _).mono ?_; rintro e w' ⟨rfl, rfl⟩)
              go_ret2
              exact ⟨rfl, rfl⟩
            · have hy := Lib.hid (scan_yes dgB p x hlx hd2)
              go_wp2_with (go_at_call 34; refine (digit_any 34 (.inr rfl) _ _).mono ?_; rintro e w' ⟨rfl, rfl⟩)
              go_round
              case rel => exact ⟨rfl, rfl, x + 1, by omega, by go_num, by rw [← hy.out]; exact HS2.out⟩
              case measure => simp [intOf]; omega
          · have HY2 := Lib.hid (scan_end dgB p x (by omega))
            exfalso
            have e := HND.out
            have e2 : adB p.data.toList = true := by rw [adB_iff]; have h := HS2.out; rw [HY2.out, cnt_drop, List.drop_zero] at h; (have hz : p.data.toList.length = p.size := by simp); omega
            rw [e] at e2; cases e2
      · have hy := Lib.hid (scan_yes dgB s j hlt hd)
        go_wp2_with (go_at_call 34; refine (digit_any 34 (.inr rfl) _ _).mono ?_; rintro e w' ⟨rfl, rfl⟩)
        go_round
        case rel => exact ⟨j + 1, by omega, by omega, by go_num, by rw [← hy.out]; exact HS.out⟩
        case measure => simp [intOf]; omega
    · have hy := scan_end dgB s j (by omega)
      have hji : j = i := by rw [← HI.out, ← HS.out, hy]
      clear hy
      exfalso; omega

set_option maxRecDepth 100000 in
set_option maxHeartbeats 2000000 in
theorem rp_wholea_t (s : ByteArray) (k : Nat) (w : World) (i : Nat) (hk : k ≤ 9) (hs : s.size ≤ 1000) (h0 : 0 < s.size) (hm : (((s[0].toNat : Nat) : Int) == 45) = true) (hi : scan dgB s 1 = i) (hil : i < s.size) (hb : (((s[i].toNat : Nat) : Int) != 46) = false) (p : ByteArray) (hpe : s.extract (i + 1) s.size = p) (hp1 : 0 < p.size) (hpk : p.size ≤ k) (wq : ByteArray) (hwe : s.extract 1 i = wq) (hnd : adB p.data.toList = true) (hw : wq.size = 0) :
    Calls Try.prog 15 #[.string s, .int .i64 k] w (R7 w) := by
  have HI := Lib.hid hi; clear hi
  have HB := Lib.hid hb; have HPE := Lib.hid hpe; have HWE := Lib.hid hwe
  have HPZ : Hid (p.size + (i + 1) = s.size) := by show p.size + (i + 1) = s.size; rw [← hpe]; simp; omega
  have HWZ : Hid (wq.size + 1 = i) := by show wq.size + 1 = i; have := scan_le dgB s 1 (by omega); rw [HI.out] at this; rw [← hwe]; simp; omega
  clear hb hpe hwe
  have HND := Lib.hid hnd; clear hnd
  go_enter Try.func15, Try.ntmps15
  go_wp2
  go_loop [6] (fun v => ∃ j : Nat, 1 ≤ j ∧ j ≤ s.size ∧ v = .int .i64 j ∧ scan dgB s j = scan dgB s 1) (fun v => s.size - (intOf v).toNat)
  case atStart => exact ⟨1, by omega, by omega, rfl, rfl⟩
  case round =>
    obtain ⟨j, hj0, hj, rfl, hsc⟩ := hrel
    have HS := Lib.hid hsc; clear hsc
    by_cases hlt : j < s.size
    · cases hd : dgB (s[j].toNat : Int)
      · have hy := scan_no dgB s j hlt hd
        have hji : j = i := by rw [← HI.out, ← HS.out, hy]
        clear hy
        obtain rfl : j = i := hji
        have hb := HB.out
        have hpe := HPE.out
        have hwe := HWE.out
        have y1 : (j : Int) + 1 ≤ s.size := by omega
        have pz : ((p.size : Int) == 0) = false := by rw [beq_eq_false_iff_ne]; omega
        have pk : ¬ (k : Int) < p.size := by omega
        have pkb : decide (k < p.size) = false := by simp; omega
        have hwz : wq.size ≤ 1000 := by have := HWZ.out; omega
        go_wp2_with (go_at_call 34; refine (digit_any 34 (.inr rfl) _ _).mono ?_; rintro e w' ⟨rfl, rfl⟩)
        go_loop [4, 5, 11] (fun v4 v5 v => v4 = .int .i64 0 ∧ v5 = .int .i64 0 ∧ ∃ x : Nat, x ≤ p.size ∧ v = .int .i64 x ∧ scan dgB p x = scan dgB p 0) (fun _ _ v => p.size - (intOf v).toNat)
        case atStart => exact ⟨rfl, rfl, 0, by omega, rfl, rfl⟩
        case round =>
          obtain ⟨rfl, rfl, x, hx, rfl, hsc⟩ := hrel
          have HS2 := Lib.hid hsc; clear hsc
          by_cases hlx : x < p.size
          · cases hd2 : dgB (p[x].toNat : Int)
            · have HY2 := Lib.hid (scan_no dgB p x hlx hd2)
              exfalso
              have e := (adB_at HND.out x hlx)
              have := dgB_no.1 hd2
              omega
            · have hy := Lib.hid (scan_yes dgB p x hlx hd2)
              go_wp2_with (go_at_call 34; refine (digit_any 34 (.inr rfl) _ _).mono ?_; rintro e w' ⟨rfl, rfl⟩)
              go_round
              case rel => exact ⟨rfl, rfl, x + 1, by omega, by go_num, by rw [← hy.out]; exact HS2.out⟩
              case measure => simp [intOf]; omega
          · have HY2 := Lib.hid (scan_end dgB p x (by omega))
            have hpe2 : ¬ (x : Int) < p.size := by omega
            have wz : ((wq.size : Int) == 0) = true := beq_iff_eq.2 (by omega)
            clear hw
            go_wp2
            go_ret2
            exact ⟨rfl, rfl⟩
      · have hy := Lib.hid (scan_yes dgB s j hlt hd)
        go_wp2_with (go_at_call 34; refine (digit_any 34 (.inr rfl) _ _).mono ?_; rintro e w' ⟨rfl, rfl⟩)
        go_round
        case rel => exact ⟨j + 1, by omega, by omega, by go_num, by rw [← hy.out]; exact HS.out⟩
        case measure => simp [intOf]; omega
    · have hy := scan_end dgB s j (by omega)
      have hji : j = i := by rw [← HI.out, ← HS.out, hy]
      clear hy
      exfalso; omega

set_option maxRecDepth 100000 in
set_option maxHeartbeats 2000000 in
theorem rp_wholeb_t (s : ByteArray) (k : Nat) (w : World) (i : Nat) (hk : k ≤ 9) (hs : s.size ≤ 1000) (h0 : 0 < s.size) (hm : (((s[0].toNat : Nat) : Int) == 45) = true) (hi : scan dgB s 1 = i) (hil : i < s.size) (hb : (((s[i].toNat : Nat) : Int) != 46) = false) (p : ByteArray) (hpe : s.extract (i + 1) s.size = p) (hp1 : 0 < p.size) (hpk : p.size ≤ k) (wq : ByteArray) (hwe : s.extract 1 i = wq) (hnd : adB p.data.toList = true) (hw1 : 1 < wq.size) (hw : (((wq[0].toNat : Nat) : Int) == 48) = true) :
    Calls Try.prog 15 #[.string s, .int .i64 k] w (R7 w) := by
  have HI := Lib.hid hi; clear hi
  have HB := Lib.hid hb; have HPE := Lib.hid hpe; have HWE := Lib.hid hwe
  have HPZ : Hid (p.size + (i + 1) = s.size) := by show p.size + (i + 1) = s.size; rw [← hpe]; simp; omega
  have HWZ : Hid (wq.size + 1 = i) := by show wq.size + 1 = i; have := scan_le dgB s 1 (by omega); rw [HI.out] at this; rw [← hwe]; simp; omega
  clear hb hpe hwe
  have HND := Lib.hid hnd; clear hnd
  go_enter Try.func15, Try.ntmps15
  go_wp2
  go_loop [6] (fun v => ∃ j : Nat, 1 ≤ j ∧ j ≤ s.size ∧ v = .int .i64 j ∧ scan dgB s j = scan dgB s 1) (fun v => s.size - (intOf v).toNat)
  case atStart => exact ⟨1, by omega, by omega, rfl, rfl⟩
  case round =>
    obtain ⟨j, hj0, hj, rfl, hsc⟩ := hrel
    have HS := Lib.hid hsc; clear hsc
    by_cases hlt : j < s.size
    · cases hd : dgB (s[j].toNat : Int)
      · have hy := scan_no dgB s j hlt hd
        have hji : j = i := by rw [← HI.out, ← HS.out, hy]
        clear hy
        obtain rfl : j = i := hji
        have hb := HB.out
        have hpe := HPE.out
        have hwe := HWE.out
        have y1 : (j : Int) + 1 ≤ s.size := by omega
        have pz : ((p.size : Int) == 0) = false := by rw [beq_eq_false_iff_ne]; omega
        have pk : ¬ (k : Int) < p.size := by omega
        have pkb : decide (k < p.size) = false := by simp; omega
        have hwz : wq.size ≤ 1000 := by have := HWZ.out; omega
        go_wp2_with (go_at_call 34; refine (digit_any 34 (.inr rfl) _ _).mono ?_; rintro e w' ⟨rfl, rfl⟩)
        go_loop [4, 5, 11] (fun v4 v5 v => v4 = .int .i64 0 ∧ v5 = .int .i64 0 ∧ ∃ x : Nat, x ≤ p.size ∧ v = .int .i64 x ∧ scan dgB p x = scan dgB p 0) (fun _ _ v => p.size - (intOf v).toNat)
        case atStart => exact ⟨rfl, rfl, 0, by omega, rfl, rfl⟩
        case round =>
          obtain ⟨rfl, rfl, x, hx, rfl, hsc⟩ := hrel
          have HS2 := Lib.hid hsc; clear hsc
          by_cases hlx : x < p.size
          · cases hd2 : dgB (p[x].toNat : Int)
            · have HY2 := Lib.hid (scan_no dgB p x hlx hd2)
              exfalso
              have e := (adB_at HND.out x hlx)
              have := dgB_no.1 hd2
              omega
            · have hy := Lib.hid (scan_yes dgB p x hlx hd2)
              go_wp2_with (go_at_call 34; refine (digit_any 34 (.inr rfl) _ _).mono ?_; rintro e w' ⟨rfl, rfl⟩)
              go_round
              case rel => exact ⟨rfl, rfl, x + 1, by omega, by go_num, by rw [← hy.out]; exact HS2.out⟩
              case measure => simp [intOf]; omega
          · have HY2 := Lib.hid (scan_end dgB p x (by omega))
            have hpe2 : ¬ (x : Int) < p.size := by omega
            have wz : ((wq.size : Int) == 0) = false := by rw [beq_eq_false_iff_ne]; omega
            have wz2 : (1 : Int) < wq.size := by omega
            go_wp2
            go_ret2
            exact ⟨rfl, rfl⟩
      · have hy := Lib.hid (scan_yes dgB s j hlt hd)
        go_wp2_with (go_at_call 34; refine (digit_any 34 (.inr rfl) _ _).mono ?_; rintro e w' ⟨rfl, rfl⟩)
        go_round
        case rel => exact ⟨j + 1, by omega, by omega, by go_num, by rw [← hy.out]; exact HS.out⟩
        case measure => simp [intOf]; omega
    · have hy := scan_end dgB s j (by omega)
      have hji : j = i := by rw [← HI.out, ← HS.out, hy]
      clear hy
      exfalso; omega

end Go.Proofs.Ytkabmmpldanmcaa
