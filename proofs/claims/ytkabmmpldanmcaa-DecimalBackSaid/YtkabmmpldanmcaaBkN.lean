/- DecimalBack returns true, in parts (made by a program of this repo): head n -/
import Derived.Test.YtkabmmpldanmcaaBk0
namespace Go.Proofs.Ytkabmmpldanmcaa
open Go.ChangeShapes Go.WideShapes Go.ChangeAt Go.RowKit
set_option linter.unusedVariables false

set_option maxRecDepth 100000 in
set_option maxHeartbeats 2000000 in
theorem back_n_e (n d m : Int) (s : ByteArray) (k r : Nat) (w : World) (hd : 0 ≤ d ∧ d ≤ 255) (hm : 0 ≤ m ∧ m ≤ 255) (hk : d % 10 = k) (hr : m % (10 - (k : Int)) = r) (hk9 : k ≤ 9) (hr9 : k + r ≤ 9) (hs : s.size ≤ 100) (hn : numB n = false) (f : Int) (hv : parseL s.data.toList k = (0, f)) (hf : (f != 0) = true) :
    Calls Try.prog 8 #[.int .i64 n, .int .u8 d, .int .u8 m, .string s] w fun e w' => e = .returned (.bool true) ∧ Below w.heap.size w w' := by
  have hk0 : ((10 - (k : Int)) == 0) = false := by rw [beq_eq_false_iff_ne]; omega
  have hpl : plB (k : Int) = true := plB_iff.2 ⟨by omega, by omega⟩
  have t100 : ¬ (100 : Int) < s.size := by omega
  have HV := Lib.hid hv; clear hv
  go_enter Try.func8, Try.ntmps8
  go_wp2_with (first | (go_at_call 10; refine (awake_any _).mono ?_; rintro e w1 ⟨rfl, hb1⟩) | (go_at_call 11; refine (format_big _ _ _ hpl hn).mono ?_; rintro e w2 ⟨rfl, rfl⟩) | (go_at_call 14; fail))
  have HB := Lib.hid hb1
  clear hb1
  refine (parN s k 0 f _ hk9 (by omega) HV.out).mono ?_
  rintro e w6 ⟨rfl, hb6⟩
  go_wp2_with fail
  go_ret
  exact ⟨rfl, belows HB.out hb6⟩

set_option maxRecDepth 100000 in
set_option maxHeartbeats 2000000 in
theorem back_n_na (n d m : Int) (s : ByteArray) (k r : Nat) (w : World) (hd : 0 ≤ d ∧ d ≤ 255) (hm : 0 ≤ m ∧ m ≤ 255) (hk : d % 10 = k) (hr : m % (10 - (k : Int)) = r) (hk9 : k ≤ 9) (hr9 : k + r ≤ 9) (hs : s.size ≤ 100) (hn : numB n = false) (v : Int) (hv : parseL s.data.toList k = (v, 0)) (vb : -1152921504606846976 ≤ v ∧ v ≤ 1152921504606846976) (t : ByteArray) (ht : t = ⟨(fmtL v k).toArray⟩) (pt : Int) (hi : Lib.indexByte s.data.toList 46 = pt) (hk1 : k ≠ 0) (hp : pt < 0) :
    Calls Try.prog 8 #[.int .i64 n, .int .u8 d, .int .u8 m, .string s] w fun e w' => e = .returned (.bool true) ∧ Below w.heap.size w w' := by
  have hk0 : ((10 - (k : Int)) == 0) = false := by rw [beq_eq_false_iff_ne]; omega
  have hpl : plB (k : Int) = true := plB_iff.2 ⟨by omega, by omega⟩
  have t100 : ¬ (100 : Int) < s.size := by omega
  have HV := Lib.hid hv; have HT := Lib.hid ht; have HI := Lib.hid hi; clear hv ht hi
  have kz : ((k : Int) == 0) = false := by rw [beq_eq_false_iff_ne]; omega
  go_enter Try.func8, Try.ntmps8
  go_wp2_with (first | (go_at_call 10; refine (awake_any _).mono ?_; rintro e w1 ⟨rfl, hb1⟩) | (go_at_call 11; refine (format_big _ _ _ hpl hn).mono ?_; rintro e w2 ⟨rfl, rfl⟩) | (go_at_call 14; fail))
  have HB := Lib.hid hb1
  clear hb1
  refine (parN s k v 0 _ hk9 (by omega) HV.out).mono ?_
  rintro e w6 ⟨rfl, hb6⟩
  go_wp2_with (first | (go_at_call 11; refine (fmtN _ _ t _ hk9 vb.1 vb.2 HT.out).mono ?_; rintro e w7 ⟨rfl, hb7⟩) | (go_at_call 24; refine (index_is s pt _ HI.out).mono ?_; rintro e w8 ⟨rfl, rfl⟩))
  go_ret
  exact ⟨rfl, belows (belows HB.out hb6) hb7⟩

set_option maxRecDepth 100000 in
set_option maxHeartbeats 2000000 in
theorem back_n_nb (n d m : Int) (s : ByteArray) (k r : Nat) (w : World) (hd : 0 ≤ d ∧ d ≤ 255) (hm : 0 ≤ m ∧ m ≤ 255) (hk : d % 10 = k) (hr : m % (10 - (k : Int)) = r) (hk9 : k ≤ 9) (hr9 : k + r ≤ 9) (hs : s.size ≤ 100) (hn : numB n = false) (v : Int) (hv : parseL s.data.toList k = (v, 0)) (vb : -1152921504606846976 ≤ v ∧ v ≤ 1152921504606846976) (t : ByteArray) (ht : t = ⟨(fmtL v k).toArray⟩) (pt : Int) (hi : Lib.indexByte s.data.toList 46 = pt) (hk1 : k ≠ 0) (hp : 0 ≤ pt) (hpb : pt ≤ 100) (hl : (((s.size : Int) - pt - 1) == (k : Int)) = false) :
    Calls Try.prog 8 #[.int .i64 n, .int .u8 d, .int .u8 m, .string s] w fun e w' => e = .returned (.bool true) ∧ Below w.heap.size w w' := by
  have hk0 : ((10 - (k : Int)) == 0) = false := by rw [beq_eq_false_iff_ne]; omega
  have hpl : plB (k : Int) = true := plB_iff.2 ⟨by omega, by omega⟩
  have t100 : ¬ (100 : Int) < s.size := by omega
  have HV := Lib.hid hv; have HT := Lib.hid ht; have HI := Lib.hid hi; clear hv ht hi
  have kz : ((k : Int) == 0) = false := by rw [beq_eq_false_iff_ne]; omega
  go_enter Try.func8, Try.ntmps8
  go_wp2_with (first | (go_at_call 10; refine (awake_any _).mono ?_; rintro e w1 ⟨rfl, hb1⟩) | (go_at_call 11; refine (format_big _ _ _ hpl hn).mono ?_; rintro e w2 ⟨rfl, rfl⟩) | (go_at_call 14; fail))
  have HB := Lib.hid hb1
  clear hb1
  refine (parN s k v 0 _ hk9 (by omega) HV.out).mono ?_
  rintro e w6 ⟨rfl, hb6⟩
  go_wp2_with (first | (go_at_call 11; refine (fmtN _ _ t _ hk9 vb.1 vb.2 HT.out).mono ?_; rintro e w7 ⟨rfl, hb7⟩) | (go_at_call 24; refine (index_is s pt _ HI.out).mono ?_; rintro e w8 ⟨rfl, rfl⟩))
  go_ret
  exact ⟨rfl, belows (belows HB.out hb6) hb7⟩

set_option maxRecDepth 100000 in
set_option maxHeartbeats 2000000 in
theorem back_n_sa (n d m : Int) (s : ByteArray) (k r : Nat) (w : World) (hd : 0 ≤ d ∧ d ≤ 255) (hm : 0 ≤ m ∧ m ≤ 255) (hk : d % 10 = k) (hr : m % (10 - (k : Int)) = r) (hk9 : k ≤ 9) (hr9 : k + r ≤ 9) (hs : s.size ≤ 100) (hn : numB n = false) (v : Int) (hv : parseL s.data.toList k = (v, 0)) (vb : -1152921504606846976 ≤ v ∧ v ≤ 1152921504606846976) (t : ByteArray) (ht : t = ⟨(fmtL v k).toArray⟩) (pt : Int) (hi : Lib.indexByte s.data.toList 46 = pt) (hk1 : ((k : Int) == 0) = true) (hts : t = s) :
    Calls Try.prog 8 #[.int .i64 n, .int .u8 d, .int .u8 m, .string s] w fun e w' => e = .returned (.bool true) ∧ Below w.heap.size w w' := by
  have hk0 : ((10 - (k : Int)) == 0) = false := by rw [beq_eq_false_iff_ne]; omega
  have hpl : plB (k : Int) = true := plB_iff.2 ⟨by omega, by omega⟩
  have t100 : ¬ (100 : Int) < s.size := by omega
  have HV := Lib.hid hv; have HT := Lib.hid ht; have HI := Lib.hid hi; clear hv ht hi
  have hts2 := hts.symm
  subst hts2
  go_enter Try.func8, Try.ntmps8
  go_wp2_with (first | (go_at_call 10; refine (awake_any _).mono ?_; rintro e w1 ⟨rfl, hb1⟩) | (go_at_call 11; refine (format_big _ _ _ hpl hn).mono ?_; rintro e w2 ⟨rfl, rfl⟩) | (go_at_call 14; fail))
  have HB := Lib.hid hb1
  clear hb1
  refine (parN s k v 0 _ hk9 (by omega) HV.out).mono ?_
  rintro e w6 ⟨rfl, hb6⟩
  go_wp2_with (first | (go_at_call 11; refine (fmtN _ _ s _ hk9 vb.1 vb.2 HT.out).mono ?_; rintro e w7 ⟨rfl, hb7⟩) | (go_at_call 24; refine (index_is s pt _ HI.out).mono ?_; rintro e w8 ⟨rfl, rfl⟩))
  go_ret
  exact ⟨rfl, belows (belows HB.out hb6) hb7⟩

set_option maxRecDepth 100000 in
set_option maxHeartbeats 2000000 in
theorem back_n_sb (n d m : Int) (s : ByteArray) (k r : Nat) (w : World) (hd : 0 ≤ d ∧ d ≤ 255) (hm : 0 ≤ m ∧ m ≤ 255) (hk : d % 10 = k) (hr : m % (10 - (k : Int)) = r) (hk9 : k ≤ 9) (hr9 : k + r ≤ 9) (hs : s.size ≤ 100) (hn : numB n = false) (v : Int) (hv : parseL s.data.toList k = (v, 0)) (vb : -1152921504606846976 ≤ v ∧ v ≤ 1152921504606846976) (t : ByteArray) (ht : t = ⟨(fmtL v k).toArray⟩) (pt : Int) (hi : Lib.indexByte s.data.toList 46 = pt) (hk1 : k ≠ 0) (hp : 0 ≤ pt) (hpb : pt ≤ 100) (hl : (((s.size : Int) - pt - 1) == (k : Int)) = true) (hts : t = s) :
    Calls Try.prog 8 #[.int .i64 n, .int .u8 d, .int .u8 m, .string s] w fun e w' => e = .returned (.bool true) ∧ Below w.heap.size w w' := by
  have hk0 : ((10 - (k : Int)) == 0) = false := by rw [beq_eq_false_iff_ne]; omega
  have hpl : plB (k : Int) = true := plB_iff.2 ⟨by omega, by omega⟩
  have t100 : ¬ (100 : Int) < s.size := by omega
  have HV := Lib.hid hv; have HT := Lib.hid ht; have HI := Lib.hid hi; clear hv ht hi
  have kz : ((k : Int) == 0) = false := by rw [beq_eq_false_iff_ne]; omega
  have hts2 := hts.symm
  subst hts2
  go_enter Try.func8, Try.ntmps8
  go_wp2_with (first | (go_at_call 10; refine (awake_any _).mono ?_; rintro e w1 ⟨rfl, hb1⟩) | (go_at_call 11; refine (format_big _ _ _ hpl hn).mono ?_; rintro e w2 ⟨rfl, rfl⟩) | (go_at_call 14; fail))
  have HB := Lib.hid hb1
  clear hb1
  refine (parN s k v 0 _ hk9 (by omega) HV.out).mono ?_
  rintro e w6 ⟨rfl, hb6⟩
  go_wp2_with (first | (go_at_call 11; refine (fmtN _ _ s _ hk9 vb.1 vb.2 HT.out).mono ?_; rintro e w7 ⟨rfl, hb7⟩) | (go_at_call 24; refine (index_is s pt _ HI.out).mono ?_; rintro e w8 ⟨rfl, rfl⟩))
  go_ret
  exact ⟨rfl, belows (belows HB.out hb6) hb7⟩

set_option maxRecDepth 100000 in
set_option maxHeartbeats 2000000 in
theorem back_n_ma (n d m : Int) (s : ByteArray) (k r : Nat) (w : World) (hd : 0 ≤ d ∧ d ≤ 255) (hm : 0 ≤ m ∧ m ≤ 255) (hk : d % 10 = k) (hr : m % (10 - (k : Int)) = r) (hk9 : k ≤ 9) (hr9 : k + r ≤ 9) (hs : s.size ≤ 100) (hn : numB n = false) (hv : parseL s.data.toList k = (0, 0)) (t : ByteArray) (ht : t = ⟨(fmtL 0 k).toArray⟩) (pt : Int) (hi : Lib.indexByte s.data.toList 46 = pt) (hk1 : ((k : Int) == 0) = true) (hne : (t.toList == s.toList) = false) (hms : ⟨#[45]⟩ ++ t = s) (htz : t.size ≤ 100) :
    Calls Try.prog 8 #[.int .i64 n, .int .u8 d, .int .u8 m, .string s] w fun e w' => e = .returned (.bool true) ∧ Below w.heap.size w w' := by
  have hk0 : ((10 - (k : Int)) == 0) = false := by rw [beq_eq_false_iff_ne]; omega
  have hpl : plB (k : Int) = true := plB_iff.2 ⟨by omega, by omega⟩
  have t100 : ¬ (100 : Int) < s.size := by omega
  have HV := Lib.hid hv; have HT := Lib.hid ht; have HI := Lib.hid hi; clear hv ht hi
  go_enter Try.func8, Try.ntmps8
  go_wp2_with (first | (go_at_call 10; refine (awake_any _).mono ?_; rintro e w1 ⟨rfl, hb1⟩) | (go_at_call 11; refine (format_big _ _ _ hpl hn).mono ?_; rintro e w2 ⟨rfl, rfl⟩) | (go_at_call 14; fail))
  have HB := Lib.hid hb1
  clear hb1
  refine (parN s k 0 0 _ hk9 (by omega) HV.out).mono ?_
  rintro e w6 ⟨rfl, hb6⟩
  go_wp2_with (first | (go_at_call 11; refine (fmtN _ _ t _ hk9 (by omega) (by omega) HT.out).mono ?_; rintro e w7 ⟨rfl, hb7⟩) | (go_at_call 24; refine (index_is s pt _ HI.out).mono ?_; rintro e w8 ⟨rfl, rfl⟩))
  go_ret
  exact ⟨rfl, belows (belows HB.out hb6) hb7⟩

set_option maxRecDepth 100000 in
set_option maxHeartbeats 2000000 in
theorem back_n_mb (n d m : Int) (s : ByteArray) (k r : Nat) (w : World) (hd : 0 ≤ d ∧ d ≤ 255) (hm : 0 ≤ m ∧ m ≤ 255) (hk : d % 10 = k) (hr : m % (10 - (k : Int)) = r) (hk9 : k ≤ 9) (hr9 : k + r ≤ 9) (hs : s.size ≤ 100) (hn : numB n = false) (hv : parseL s.data.toList k = (0, 0)) (t : ByteArray) (ht : t = ⟨(fmtL 0 k).toArray⟩) (pt : Int) (hi : Lib.indexByte s.data.toList 46 = pt) (hk1 : k ≠ 0) (hp : 0 ≤ pt) (hpb : pt ≤ 100) (hl : (((s.size : Int) - pt - 1) == (k : Int)) = true) (hne : (t.toList == s.toList) = false) (hms : ⟨#[45]⟩ ++ t = s) (htz : t.size ≤ 100) :
    Calls Try.prog 8 #[.int .i64 n, .int .u8 d, .int .u8 m, .string s] w fun e w' => e = .returned (.bool true) ∧ Below w.heap.size w w' := by
  have hk0 : ((10 - (k : Int)) == 0) = false := by rw [beq_eq_false_iff_ne]; omega
  have hpl : plB (k : Int) = true := plB_iff.2 ⟨by omega, by omega⟩
  have t100 : ¬ (100 : Int) < s.size := by omega
  have HV := Lib.hid hv; have HT := Lib.hid ht; have HI := Lib.hid hi; clear hv ht hi
  have kz : ((k : Int) == 0) = false := by rw [beq_eq_false_iff_ne]; omega
  go_enter Try.func8, Try.ntmps8
  go_wp2_with (first | (go_at_call 10; refine (awake_any _).mono ?_; rintro e w1 ⟨rfl, hb1⟩) | (go_at_call 11; refine (format_big _ _ _ hpl hn).mono ?_; rintro e w2 ⟨rfl, rfl⟩) | (go_at_call 14; fail))
  have HB := Lib.hid hb1
  clear hb1
  refine (parN s k 0 0 _ hk9 (by omega) HV.out).mono ?_
  rintro e w6 ⟨rfl, hb6⟩
  go_wp2_with (first | (go_at_call 11; refine (fmtN _ _ t _ hk9 (by omega) (by omega) HT.out).mono ?_; rintro e w7 ⟨rfl, hb7⟩) | (go_at_call 24; refine (index_is s pt _ HI.out).mono ?_; rintro e w8 ⟨rfl, rfl⟩))
  go_ret
  exact ⟨rfl, belows (belows HB.out hb6) hb7⟩

end Go.Proofs.Ytkabmmpldanmcaa
