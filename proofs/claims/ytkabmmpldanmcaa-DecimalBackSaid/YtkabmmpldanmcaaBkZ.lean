/- DecimalBack returns true, in parts (made by a program of this repo): head z -/
import Derived.Test.YtkabmmpldanmcaaBk0
namespace Go.Proofs.Ytkabmmpldanmcaa
open Go.ChangeShapes Go.WideShapes Go.ChangeAt Go.RowKit
set_option linter.unusedVariables false

set_option maxRecDepth 100000 in
set_option maxHeartbeats 2000000 in
theorem back_z_e (n d m : Int) (s : ByteArray) (k r : Nat) (w : World) (hd : 0 ≤ d ∧ d ≤ 255) (hm : 0 ≤ m ∧ m ≤ 255) (hk : d % 10 = k) (hr : m % (10 - (k : Int)) = r) (hk9 : k ≤ 9) (hr9 : k + r ≤ 9) (hs : s.size ≤ 100) (hn : numB n = true) (x : ByteArray) (hx : x = ⟨(fmtL n k).toArray⟩) (hxs : x.size ≤ 100) (h1 : parseL x.data.toList k = (n, 0)) (z0 : Int) (hz0 : z0 = n * 10 ^ r) (hzb : -1152921504606846976 ≤ z0 ∧ z0 ≤ 1152921504606846976) (h2 : parseL x.data.toList (k + r) = (z0, 0)) (f : Int) (hv : parseL s.data.toList k = (0, f)) (hf : (f != 0) = true) :
    Calls Try.prog 8 #[.int .i64 n, .int .u8 d, .int .u8 m, .string s] w fun e w' => e = .returned (.bool true) ∧ Below w.heap.size w w' := by
  have hk0 : ((10 - (k : Int)) == 0) = false := by rw [beq_eq_false_iff_ne]; omega
  have hpl : plB (k : Int) = true := plB_iff.2 ⟨by omega, by omega⟩
  have t100 : ¬ (100 : Int) < s.size := by omega
  obtain ⟨n1, n2⟩ := numB_iff.1 hn
  have HX := Lib.hid hx; have H1 := Lib.hid h1; have H2 := Lib.hid h2; have HZ := Lib.hid hz0; clear hx h1 h2 hz0
  have HV := Lib.hid hv; clear hv
  go_enter Try.func8, Try.ntmps8
  go_wp2_with (first | (go_at_call 10; refine (awake_any _).mono ?_; rintro e w1 ⟨rfl, hb1⟩) | (go_at_call 11; refine (fmtN _ _ x _ hk9 n1 n2 HX.out).mono ?_; rintro e w2 ⟨rfl, hb2⟩) | (go_at_call 14; fail))
  refine (parN x k n 0 _ hk9 hxs H1.out).mono ?_
  rintro e w3 ⟨rfl, hb3⟩
  go_wp2_with (go_at_call 14; fail)
  refine (par_is x ((k : Int) + r) z0 0 _ (by omega) (by omega) (by omega) (toN H2.out)).mono ?_
  rintro e w4 ⟨rfl, hb4⟩
  have HB := Lib.hid (belows (belows (belows hb1 hb2) hb3) hb4)
  clear hb1 hb2 hb3 hb4 n1 n2
  go_wp2_with fail
  go_loop [8, 15, 70] (fun v8 v15 v70 => v8 = .bool false ∧ ∃ (i : Nat) (z : Int), i ≤ r ∧ v70 = .int .i64 i ∧ v15 = .int .i64 z ∧ Hid (z = n * 10 ^ (r - i)) ∧ -1152921504606846976 ≤ z ∧ z ≤ 1152921504606846976) (fun _ _ v => r - (intOf v).toNat)
  case atStart => exact ⟨rfl, 0, z0, Nat.zero_le _, rfl, rfl, HZ.out, hzb.1, hzb.2⟩
  case round =>
    obtain ⟨rfl, i, z, hi, rfl, rfl, HZI, hz1, hz2⟩ := hrel
    by_cases hlt : i < r
    · obtain ⟨z', e1, e2, e3, e4, e5⟩ := ten_step n z r i hlt HZI.out hz1 hz2
      have hlt2 : (i : Int) < (r : Int) := by omega
      have E5 := Lib.hid e5; clear e5
      go_wp2_with fail
      go_round
      case rel => exact ⟨rfl, i + 1, z', by omega, by go_num, by first | rfl | rw [e2], E5.out, e3, e4⟩
      case measure => simp [intOf]; omega
    · have hzn : z = n := by have h := HZI.out; rw [show r - i = 0 by omega] at h; simpa using h
      have hir : ¬ (i : Int) < (r : Int) := by omega
      subst hzn
      go_wp2_with fail
      refine (parN s k 0 f _ hk9 (by omega) HV.out).mono ?_
      rintro e w6 ⟨rfl, hb6⟩
      go_wp2_with fail
      go_ret
      exact ⟨rfl, belows HB.out hb6⟩

set_option maxRecDepth 100000 in
set_option maxHeartbeats 2000000 in
theorem back_z_na (n d m : Int) (s : ByteArray) (k r : Nat) (w : World) (hd : 0 ≤ d ∧ d ≤ 255) (hm : 0 ≤ m ∧ m ≤ 255) (hk : d % 10 = k) (hr : m % (10 - (k : Int)) = r) (hk9 : k ≤ 9) (hr9 : k + r ≤ 9) (hs : s.size ≤ 100) (hn : numB n = true) (x : ByteArray) (hx : x = ⟨(fmtL n k).toArray⟩) (hxs : x.size ≤ 100) (h1 : parseL x.data.toList k = (n, 0)) (z0 : Int) (hz0 : z0 = n * 10 ^ r) (hzb : -1152921504606846976 ≤ z0 ∧ z0 ≤ 1152921504606846976) (h2 : parseL x.data.toList (k + r) = (z0, 0)) (v : Int) (hv : parseL s.data.toList k = (v, 0)) (vb : -1152921504606846976 ≤ v ∧ v ≤ 1152921504606846976) (t : ByteArray) (ht : t = ⟨(fmtL v k).toArray⟩) (pt : Int) (hi : Lib.indexByte s.data.toList 46 = pt) (hk1 : k ≠ 0) (hp : pt < 0) :
    Calls Try.prog 8 #[.int .i64 n, .int .u8 d, .int .u8 m, .string s] w fun e w' => e = .returned (.bool true) ∧ Below w.heap.size w w' := by
  have hk0 : ((10 - (k : Int)) == 0) = false := by rw [beq_eq_false_iff_ne]; omega
  have hpl : plB (k : Int) = true := plB_iff.2 ⟨by omega, by omega⟩
  have t100 : ¬ (100 : Int) < s.size := by omega
  obtain ⟨n1, n2⟩ := numB_iff.1 hn
  have HX := Lib.hid hx; have H1 := Lib.hid h1; have H2 := Lib.hid h2; have HZ := Lib.hid hz0; clear hx h1 h2 hz0
  have HV := Lib.hid hv; have HT := Lib.hid ht; have HI := Lib.hid hi; clear hv ht hi
  have kz : ((k : Int) == 0) = false := by rw [beq_eq_false_iff_ne]; omega
  go_enter Try.func8, Try.ntmps8
  go_wp2_with (first | (go_at_call 10; refine (awake_any _).mono ?_; rintro e w1 ⟨rfl, hb1⟩) | (go_at_call 11; refine (fmtN _ _ x _ hk9 n1 n2 HX.out).mono ?_; rintro e w2 ⟨rfl, hb2⟩) | (go_at_call 14; fail))
  refine (parN x k n 0 _ hk9 hxs H1.out).mono ?_
  rintro e w3 ⟨rfl, hb3⟩
  go_wp2_with (go_at_call 14; fail)
  refine (par_is x ((k : Int) + r) z0 0 _ (by omega) (by omega) (by omega) (toN H2.out)).mono ?_
  rintro e w4 ⟨rfl, hb4⟩
  have HB := Lib.hid (belows (belows (belows hb1 hb2) hb3) hb4)
  clear hb1 hb2 hb3 hb4 n1 n2
  go_wp2_with fail
  go_loop [8, 15, 70] (fun v8 v15 v70 => v8 = .bool false ∧ ∃ (i : Nat) (z : Int), i ≤ r ∧ v70 = .int .i64 i ∧ v15 = .int .i64 z ∧ Hid (z = n * 10 ^ (r - i)) ∧ -1152921504606846976 ≤ z ∧ z ≤ 1152921504606846976) (fun _ _ v => r - (intOf v).toNat)
  case atStart => exact ⟨rfl, 0, z0, Nat.zero_le _, rfl, rfl, HZ.out, hzb.1, hzb.2⟩
  case round =>
    obtain ⟨rfl, i, z, hi, rfl, rfl, HZI, hz1, hz2⟩ := hrel
    by_cases hlt : i < r
    · obtain ⟨z', e1, e2, e3, e4, e5⟩ := ten_step n z r i hlt HZI.out hz1 hz2
      have hlt2 : (i : Int) < (r : Int) := by omega
      have E5 := Lib.hid e5; clear e5
      go_wp2_with fail
      go_round
      case rel => exact ⟨rfl, i + 1, z', by omega, by go_num, by first | rfl | rw [e2], E5.out, e3, e4⟩
      case measure => simp [intOf]; omega
    · have hzn : z = n := by have h := HZI.out; rw [show r - i = 0 by omega] at h; simpa using h
      have hir : ¬ (i : Int) < (r : Int) := by omega
      subst hzn
      go_wp2_with fail
      refine (parN s k v 0 _ hk9 (by omega) HV.out).mono ?_
      rintro e w6 ⟨rfl, hb6⟩
      go_wp2_with (first | (go_at_call 11; refine (fmtN _ _ t _ hk9 vb.1 vb.2 HT.out).mono ?_; rintro e w7 ⟨rfl, hb7⟩) | (go_at_call 24; refine (index_is s pt _ HI.out).mono ?_; rintro e w8 ⟨rfl, rfl⟩))
      go_ret
      exact ⟨rfl, belows (belows HB.out hb6) hb7⟩

set_option maxRecDepth 100000 in
set_option maxHeartbeats 2000000 in
theorem back_z_nb (n d m : Int) (s : ByteArray) (k r : Nat) (w : World) (hd : 0 ≤ d ∧ d ≤ 255) (hm : 0 ≤ m ∧ m ≤ 255) (hk : d % 10 = k) (hr : m % (10 - (k : Int)) = r) (hk9 : k ≤ 9) (hr9 : k + r ≤ 9) (hs : s.size ≤ 100) (hn : numB n = true) (x : ByteArray) (hx : x = ⟨(fmtL n k).toArray⟩) (hxs : x.size ≤ 100) (h1 : parseL x.data.toList k = (n, 0)) (z0 : Int) (hz0 : z0 = n * 10 ^ r) (hzb : -1152921504606846976 ≤ z0 ∧ z0 ≤ 1152921504606846976) (h2 : parseL x.data.toList (k + r) = (z0, 0)) (v : Int) (hv : parseL s.data.toList k = (v, 0)) (vb : -1152921504606846976 ≤ v ∧ v ≤ 1152921504606846976) (t : ByteArray) (ht : t = ⟨(fmtL v k).toArray⟩) (pt : Int) (hi : Lib.indexByte s.data.toList 46 = pt) (hk1 : k ≠ 0) (hp : 0 ≤ pt) (hpb : pt ≤ 100) (hl : (((s.size : Int) - pt - 1) == (k : Int)) = false) :
    Calls Try.prog 8 #[.int .i64 n, .int .u8 d, .int .u8 m, .string s] w fun e w' => e = .returned (.bool true) ∧ Below w.heap.size w w' := by
  have hk0 : ((10 - (k : Int)) == 0) = false := by rw [beq_eq_false_iff_ne]; omega
  have hpl : plB (k : Int) = true := plB_iff.2 ⟨by omega, by omega⟩
  have t100 : ¬ (100 : Int) < s.size := by omega
  obtain ⟨n1, n2⟩ := numB_iff.1 hn
  have HX := Lib.hid hx; have H1 := Lib.hid h1; have H2 := Lib.hid h2; have HZ := Lib.hid hz0; clear hx h1 h2 hz0
  have HV := Lib.hid hv; have HT := Lib.hid ht; have HI := Lib.hid hi; clear hv ht hi
  have kz : ((k : Int) == 0) = false := by rw [beq_eq_false_iff_ne]; omega
  go_enter Try.func8, Try.ntmps8
  go_wp2_with (first | (go_at_call 10; refine (awake_any _).mono ?_; rintro e w1 ⟨rfl, hb1⟩) | (go_at_call 11; refine (fmtN _ _ x _ hk9 n1 n2 HX.out).mono ?_; rintro e w2 ⟨rfl, hb2⟩) | (go_at_call 14; fail))
  refine (parN x k n 0 _ hk9 hxs H1.out).mono ?_
  rintro e w3 ⟨rfl, hb3⟩
  go_wp2_with (go_at_call 14; fail)
  refine (par_is x ((k : Int) + r) z0 0 _ (by omega) (by omega) (by omega) (toN H2.out)).mono ?_
  rintro e w4 ⟨rfl, hb4⟩
  have HB := Lib.hid (belows (belows (belows hb1 hb2) hb3) hb4)
  clear hb1 hb2 hb3 hb4 n1 n2
  go_wp2_with fail
  go_loop [8, 15, 70] (fun v8 v15 v70 => v8 = .bool false ∧ ∃ (i : Nat) (z : Int), i ≤ r ∧ v70 = .int .i64 i ∧ v15 = .int .i64 z ∧ Hid (z = n * 10 ^ (r - i)) ∧ -1152921504606846976 ≤ z ∧ z ≤ 1152921504606846976) (fun _ _ v => r - (intOf v).toNat)
  case atStart => exact ⟨rfl, 0, z0, Nat.zero_le _, rfl, rfl, HZ.out, hzb.1, hzb.2⟩
  case round =>
    obtain ⟨rfl, i, z, hi, rfl, rfl, HZI, hz1, hz2⟩ := hrel
    by_cases hlt : i < r
    · obtain ⟨z', e1, e2, e3, e4, e5⟩ := ten_step n z r i hlt HZI.out hz1 hz2
      have hlt2 : (i : Int) < (r : Int) := by omega
      have E5 := Lib.hid e5; clear e5
      go_wp2_with fail
      go_round
      case rel => exact ⟨rfl, i + 1, z', by omega, by go_num, by first | rfl | rw [e2], E5.out, e3, e4⟩
      case measure => simp [intOf]; omega
    · have hzn : z = n := by have h := HZI.out; rw [show r - i = 0 by omega] at h; simpa using h
      have hir : ¬ (i : Int) < (r : Int) := by omega
      subst hzn
      go_wp2_with fail
      refine (parN s k v 0 _ hk9 (by omega) HV.out).mono ?_
      rintro e w6 ⟨rfl, hb6⟩
      go_wp2_with (first | (go_at_call 11; refine (fmtN _ _ t _ hk9 vb.1 vb.2 HT.out).mono ?_; rintro e w7 ⟨rfl, hb7⟩) | (go_at_call 24; refine (index_is s pt _ HI.out).mono ?_; rintro e w8 ⟨rfl, rfl⟩))
      go_ret
      exact ⟨rfl, belows (belows HB.out hb6) hb7⟩

set_option maxRecDepth 100000 in
set_option maxHeartbeats 2000000 in
theorem back_z_sa (n d m : Int) (s : ByteArray) (k r : Nat) (w : World) (hd : 0 ≤ d ∧ d ≤ 255) (hm : 0 ≤ m ∧ m ≤ 255) (hk : d % 10 = k) (hr : m % (10 - (k : Int)) = r) (hk9 : k ≤ 9) (hr9 : k + r ≤ 9) (hs : s.size ≤ 100) (hn : numB n = true) (x : ByteArray) (hx : x = ⟨(fmtL n k).toArray⟩) (hxs : x.size ≤ 100) (h1 : parseL x.data.toList k = (n, 0)) (z0 : Int) (hz0 : z0 = n * 10 ^ r) (hzb : -1152921504606846976 ≤ z0 ∧ z0 ≤ 1152921504606846976) (h2 : parseL x.data.toList (k + r) = (z0, 0)) (v : Int) (hv : parseL s.data.toList k = (v, 0)) (vb : -1152921504606846976 ≤ v ∧ v ≤ 1152921504606846976) (t : ByteArray) (ht : t = ⟨(fmtL v k).toArray⟩) (pt : Int) (hi : Lib.indexByte s.data.toList 46 = pt) (hk1 : ((k : Int) == 0) = true) (hts : t = s) :
    Calls Try.prog 8 #[.int .i64 n, .int .u8 d, .int .u8 m, .string s] w fun e w' => e = .returned (.bool true) ∧ Below w.heap.size w w' := by
  have hk0 : ((10 - (k : Int)) == 0) = false := by rw [beq_eq_false_iff_ne]; omega
  have hpl : plB (k : Int) = true := plB_iff.2 ⟨by omega, by omega⟩
  have t100 : ¬ (100 : Int) < s.size := by omega
  obtain ⟨n1, n2⟩ := numB_iff.1 hn
  have HX := Lib.hid hx; have H1 := Lib.hid h1; have H2 := Lib.hid h2; have HZ := Lib.hid hz0; clear hx h1 h2 hz0
  have HV := Lib.hid hv; have HT := Lib.hid ht; have HI := Lib.hid hi; clear hv ht hi
  have hts2 := hts.symm
  subst hts2
  go_enter Try.func8, Try.ntmps8
  go_wp2_with (first | (go_at_call 10; refine (awake_any _).mono ?_; rintro e w1 ⟨rfl, hb1⟩) | (go_at_call 11; refine (fmtN _ _ x _ hk9 n1 n2 HX.out).mono ?_; rintro e w2 ⟨rfl, hb2⟩) | (go_at_call 14; fail))
  refine (parN x k n 0 _ hk9 hxs H1.out).mono ?_
  rintro e w3 ⟨rfl, hb3⟩
  go_wp2_with (go_at_call 14; fail)
  refine (par_is x ((k : Int) + r) z0 0 _ (by omega) (by omega) (by omega) (toN H2.out)).mono ?_
  rintro e w4 ⟨rfl, hb4⟩
  have HB := Lib.hid (belows (belows (belows hb1 hb2) hb3) hb4)
  clear hb1 hb2 hb3 hb4 n1 n2
  go_wp2_with fail
  go_loop [8, 15, 70] (fun v8 v15 v70 => v8 = .bool false ∧ ∃ (i : Nat) (z : Int), i ≤ r ∧ v70 = .int .i64 i ∧ v15 = .int .i64 z ∧ Hid (z = n * 10 ^ (r - i)) ∧ -1152921504606846976 ≤ z ∧ z ≤ 1152921504606846976) (fun _ _ v => r - (intOf v).toNat)
  case atStart => exact ⟨rfl, 0, z0, Nat.zero_le _, rfl, rfl, HZ.out, hzb.1, hzb.2⟩
  case round =>
    obtain ⟨rfl, i, z, hi, rfl, rfl, HZI, hz1, hz2⟩ := hrel
    by_cases hlt : i < r
    · obtain ⟨z', e1, e2, e3, e4, e5⟩ := ten_step n z r i hlt HZI.out hz1 hz2
      have hlt2 : (i : Int) < (r : Int) := by omega
      have E5 := Lib.hid e5; clear e5
      go_wp2_with fail
      go_round
      case rel => exact ⟨rfl, i + 1, z', by omega, by go_num, by first | rfl | rw [e2], E5.out, e3, e4⟩
      case measure => simp [intOf]; omega
    · have hzn : z = n := by have h := HZI.out; rw [show r - i = 0 by omega] at h; simpa using h
      have hir : ¬ (i : Int) < (r : Int) := by omega
      subst hzn
      go_wp2_with fail
      refine (parN s k v 0 _ hk9 (by omega) HV.out).mono ?_
      rintro e w6 ⟨rfl, hb6⟩
      go_wp2_with (first | (go_at_call 11; refine (fmtN _ _ s _ hk9 vb.1 vb.2 HT.out).mono ?_; rintro e w7 ⟨rfl, hb7⟩) | (go_at_call 24; refine (index_is s pt _ HI.out).mono ?_; rintro e w8 ⟨rfl, rfl⟩))
      go_ret
      exact ⟨rfl, belows (belows HB.out hb6) hb7⟩

set_option maxRecDepth 100000 in
set_option maxHeartbeats 2000000 in
theorem back_z_sb (n d m : Int) (s : ByteArray) (k r : Nat) (w : World) (hd : 0 ≤ d ∧ d ≤ 255) (hm : 0 ≤ m ∧ m ≤ 255) (hk : d % 10 = k) (hr : m % (10 - (k : Int)) = r) (hk9 : k ≤ 9) (hr9 : k + r ≤ 9) (hs : s.size ≤ 100) (hn : numB n = true) (x : ByteArray) (hx : x = ⟨(fmtL n k).toArray⟩) (hxs : x.size ≤ 100) (h1 : parseL x.data.toList k = (n, 0)) (z0 : Int) (hz0 : z0 = n * 10 ^ r) (hzb : -1152921504606846976 ≤ z0 ∧ z0 ≤ 1152921504606846976) (h2 : parseL x.data.toList (k + r) = (z0, 0)) (v : Int) (hv : parseL s.data.toList k = (v, 0)) (vb : -1152921504606846976 ≤ v ∧ v ≤ 1152921504606846976) (t : ByteArray) (ht : t = ⟨(fmtL v k).toArray⟩) (pt : Int) (hi : Lib.indexByte s.data.toList 46 = pt) (hk1 : k ≠ 0) (hp : 0 ≤ pt) (hpb : pt ≤ 100) (hl : (((s.size : Int) - pt - 1) == (k : Int)) = true) (hts : t = s) :
    Calls Try.prog 8 #[.int .i64 n, .int .u8 d, .int .u8 m, .string s] w fun e w' => e = .returned (.bool true) ∧ Below w.heap.size w w' := by
  have hk0 : ((10 - (k : Int)) == 0) = false := by rw [beq_eq_false_iff_ne]; omega
  have hpl : plB (k : Int) = true := plB_iff.2 ⟨by omega, by omega⟩
  have t100 : ¬ (100 : Int) < s.size := by omega
  obtain ⟨n1, n2⟩ := numB_iff.1 hn
  have HX := Lib.hid hx; have H1 := Lib.hid h1; have H2 := Lib.hid h2; have HZ := Lib.hid hz0; clear hx h1 h2 hz0
  have HV := Lib.hid hv; have HT := Lib.hid ht; have HI := Lib.hid hi; clear hv ht hi
  have kz : ((k : Int) == 0) = false := by rw [beq_eq_false_iff_ne]; omega
  have hts2 := hts.symm
  subst hts2
  go_enter Try.func8, Try.ntmps8
  go_wp2_with (first | (go_at_call 10; refine (awake_any _).mono ?_; rintro e w1 ⟨rfl, hb1⟩) | (go_at_call 11; refine (fmtN _ _ x _ hk9 n1 n2 HX.out).mono ?_; rintro e w2 ⟨rfl, hb2⟩) | (go_at_call 14; fail))
  refine (parN x k n 0 _ hk9 hxs H1.out).mono ?_
  rintro e w3 ⟨rfl, hb3⟩
  go_wp2_with (go_at_call 14; fail)
  refine (par_is x ((k : Int) + r) z0 0 _ (by omega) (by omega) (by omega) (toN H2.out)).mono ?_
  rintro e w4 ⟨rfl, hb4⟩
  have HB := Lib.hid (belows (belows (belows hb1 hb2) hb3) hb4)
  clear hb1 hb2 hb3 hb4 n1 n2
  go_wp2_with fail
  go_loop [8, 15, 70] (fun v8 v15 v70 => v8 = .bool false ∧ ∃ (i : Nat) (z : Int), i ≤ r ∧ v70 = .int .i64 i ∧ v15 = .int .i64 z ∧ Hid (z = n * 10 ^ (r - i)) ∧ -1152921504606846976 ≤ z ∧ z ≤ 1152921504606846976) (fun _ _ v => r - (intOf v).toNat)
  case atStart => exact ⟨rfl, 0, z0, Nat.zero_le _, rfl, rfl, HZ.out, hzb.1, hzb.2⟩
  case round =>
    obtain ⟨rfl, i, z, hi, rfl, rfl, HZI, hz1, hz2⟩ := hrel
    by_cases hlt : i < r
    · obtain ⟨z', e1, e2, e3, e4, e5⟩ := ten_step n z r i hlt HZI.out hz1 hz2
      have hlt2 : (i : Int) < (r : Int) := by omega
      have E5 := Lib.hid e5; clear e5
      go_wp2_with fail
      go_round
      case rel => exact ⟨rfl, i + 1, z', by omega, by go_num, by first | rfl | rw [e2], E5.out, e3, e4⟩
      case measure => simp [intOf]; omega
    · have hzn : z = n := by have h := HZI.out; rw [show r - i = 0 by omega] at h; simpa using h
      have hir : ¬ (i : Int) < (r : Int) := by omega
      subst hzn
      go_wp2_with fail
      refine (parN s k v 0 _ hk9 (by omega) HV.out).mono ?_
      rintro e w6 ⟨rfl, hb6⟩
      go_wp2_with (first | (go_at_call 11; refine (fmtN _ _ s _ hk9 vb.1 vb.2 HT.out).mono ?_; rintro e w7 ⟨rfl, hb7⟩) | (go_at_call 24; refine (index_is s pt _ HI.out).mono ?_; rintro e w8 ⟨rfl, rfl⟩))
      go_ret
      exact ⟨rfl, belows (belows HB.out hb6) hb7⟩

set_option maxRecDepth 100000 in
set_option maxHeartbeats 2000000 in
theorem back_z_ma (n d m : Int) (s : ByteArray) (k r : Nat) (w : World) (hd : 0 ≤ d ∧ d ≤ 255) (hm : 0 ≤ m ∧ m ≤ 255) (hk : d % 10 = k) (hr : m % (10 - (k : Int)) = r) (hk9 : k ≤ 9) (hr9 : k + r ≤ 9) (hs : s.size ≤ 100) (hn : numB n = true) (x : ByteArray) (hx : x = ⟨(fmtL n k).toArray⟩) (hxs : x.size ≤ 100) (h1 : parseL x.data.toList k = (n, 0)) (z0 : Int) (hz0 : z0 = n * 10 ^ r) (hzb : -1152921504606846976 ≤ z0 ∧ z0 ≤ 1152921504606846976) (h2 : parseL x.data.toList (k + r) = (z0, 0)) (hv : parseL s.data.toList k = (0, 0)) (t : ByteArray) (ht : t = ⟨(fmtL 0 k).toArray⟩) (pt : Int) (hi : Lib.indexByte s.data.toList 46 = pt) (hk1 : ((k : Int) == 0) = true) (hne : (t.toList == s.toList) = false) (hms : ⟨#[45]⟩ ++ t = s) (htz : t.size ≤ 100) :
    Calls Try.prog 8 #[.int .i64 n, .int .u8 d, .int .u8 m, .string s] w fun e w' => e = .returned (.bool true) ∧ Below w.heap.size w w' := by
  have hk0 : ((10 - (k : Int)) == 0) = false := by rw [beq_eq_false_iff_ne]; omega
  have hpl : plB (k : Int) = true := plB_iff.2 ⟨by omega, by omega⟩
  have t100 : ¬ (100 : Int) < s.size := by omega
  obtain ⟨n1, n2⟩ := numB_iff.1 hn
  have HX := Lib.hid hx; have H1 := Lib.hid h1; have H2 := Lib.hid h2; have HZ := Lib.hid hz0; clear hx h1 h2 hz0
  have HV := Lib.hid hv; have HT := Lib.hid ht; have HI := Lib.hid hi; clear hv ht hi
  go_enter Try.func8, Try.ntmps8
  go_wp2_with (first | (go_at_call 10; refine (awake_any _).mono ?_; rintro e w1 ⟨rfl, hb1⟩) | (go_at_call 11; refine (fmtN _ _ x _ hk9 n1 n2 HX.out).mono ?_; rintro e w2 ⟨rfl, hb2⟩) | (go_at_call 14; fail))
  refine (parN x k n 0 _ hk9 hxs H1.out).mono ?_
  rintro e w3 ⟨rfl, hb3⟩
  go_wp2_with (go_at_call 14; fail)
  refine (par_is x ((k : Int) + r) z0 0 _ (by omega) (by omega) (by omega) (toN H2.out)).mono ?_
  rintro e w4 ⟨rfl, hb4⟩
  have HB := Lib.hid (belows (belows (belows hb1 hb2) hb3) hb4)
  clear hb1 hb2 hb3 hb4 n1 n2
  go_wp2_with fail
  go_loop [8, 15, 70] (fun v8 v15 v70 => v8 = .bool false ∧ ∃ (i : Nat) (z : Int), i ≤ r ∧ v70 = .int .i64 i ∧ v15 = .int .i64 z ∧ Hid (z = n * 10 ^ (r - i)) ∧ -1152921504606846976 ≤ z ∧ z ≤ 1152921504606846976) (fun _ _ v => r - (intOf v).toNat)
  case atStart => exact ⟨rfl, 0, z0, Nat.zero_le _, rfl, rfl, HZ.out, hzb.1, hzb.2⟩
  case round =>
    obtain ⟨rfl, i, z, hi, rfl, rfl, HZI, hz1, hz2⟩ := hrel
    by_cases hlt : i < r
    · obtain ⟨z', e1, e2, e3, e4, e5⟩ := ten_step n z r i hlt HZI.out hz1 hz2
      have hlt2 : (i : Int) < (r : Int) := by omega
      have E5 := Lib.hid e5; clear e5
      go_wp2_with fail
      go_round
      case rel => exact ⟨rfl, i + 1, z', by omega, by go_num, by first | rfl | rw [e2], E5.out, e3, e4⟩
      case measure => simp [intOf]; omega
    · have hzn : z = n := by have h := HZI.out; rw [show r - i = 0 by omega] at h; simpa using h
      have hir : ¬ (i : Int) < (r : Int) := by omega
      subst hzn
      go_wp2_with fail
      refine (parN s k 0 0 _ hk9 (by omega) HV.out).mono ?_
      rintro e w6 ⟨rfl, hb6⟩
      go_wp2_with (first | (go_at_call 11; refine (fmtN _ _ t _ hk9 (by omega) (by omega) HT.out).mono ?_; rintro e w7 ⟨rfl, hb7⟩) | (go_at_call 24; refine (index_is s pt _ HI.out).mono ?_; rintro e w8 ⟨rfl, rfl⟩))
      go_ret
      exact ⟨rfl, belows (belows HB.out hb6) hb7⟩

set_option maxRecDepth 100000 in
set_option maxHeartbeats 2000000 in
theorem back_z_mb (n d m : Int) (s : ByteArray) (k r : Nat) (w : World) (hd : 0 ≤ d ∧ d ≤ 255) (hm : 0 ≤ m ∧ m ≤ 255) (hk : d % 10 = k) (hr : m % (10 - (k : Int)) = r) (hk9 : k ≤ 9) (hr9 : k + r ≤ 9) (hs : s.size ≤ 100) (hn : numB n = true) (x : ByteArray) (hx : x = ⟨(fmtL n k).toArray⟩) (hxs : x.size ≤ 100) (h1 : parseL x.data.toList k = (n, 0)) (z0 : Int) (hz0 : z0 = n * 10 ^ r) (hzb : -1152921504606846976 ≤ z0 ∧ z0 ≤ 1152921504606846976) (h2 : parseL x.data.toList (k + r) = (z0, 0)) (hv : parseL s.data.toList k = (0, 0)) (t : ByteArray) (ht : t = ⟨(fmtL 0 k).toArray⟩) (pt : Int) (hi : Lib.indexByte s.data.toList 46 = pt) (hk1 : k ≠ 0) (hp : 0 ≤ pt) (hpb : pt ≤ 100) (hl : (((s.size : Int) - pt - 1) == (k : Int)) = true) (hne : (t.toList == s.toList) = false) (hms : ⟨#[45]⟩ ++ t = s) (htz : t.size ≤ 100) :
    Calls Try.prog 8 #[.int .i64 n, .int .u8 d, .int .u8 m, .string s] w fun e w' => e = .returned (.bool true) ∧ Below w.heap.size w w' := by
  have hk0 : ((10 - (k : Int)) == 0) = false := by rw [beq_eq_false_iff_ne]; omega
  have hpl : plB (k : Int) = true := plB_iff.2 ⟨by omega, by omega⟩
  have t100 : ¬ (100 : Int) < s.size := by omega
  obtain ⟨n1, n2⟩ := numB_iff.1 hn
  have HX := Lib.hid hx; have H1 := Lib.hid h1; have H2 := Lib.hid h2; have HZ := Lib.hid hz0; clear hx h1 h2 hz0
  have HV := Lib.hid hv; have HT := Lib.hid ht; have HI := Lib.hid hi; clear hv ht hi
  have kz : ((k : Int) == 0) = false := by rw [beq_eq_false_iff_ne]; omega
  go_enter Try.func8, Try.ntmps8
  go_wp2_with (first | (go_at_call 10; refine (awake_any _).mono ?_; rintro e w1 ⟨rfl, hb1⟩) | (go_at_call 11; refine (fmtN _ _ x _ hk9 n1 n2 HX.out).mono ?_; rintro e w2 ⟨rfl, hb2⟩) | (go_at_call 14; fail))
  refine (parN x k n 0 _ hk9 hxs H1.out).mono ?_
  rintro e w3 ⟨rfl, hb3⟩
  go_wp2_with (go_at_call 14; fail)
  refine (par_is x ((k : Int) + r) z0 0 _ (by omega) (by omega) (by omega) (toN H2.out)).mono ?_
  rintro e w4 ⟨rfl, hb4⟩
  have HB := Lib.hid (belows (belows (belows hb1 hb2) hb3) hb4)
  clear hb1 hb2 hb3 hb4 n1 n2
  go_wp2_with fail
  go_loop [8, 15, 70] (fun v8 v15 v70 => v8 = .bool false ∧ ∃ (i : Nat) (z : Int), i ≤ r ∧ v70 = .int .i64 i ∧ v15 = .int .i64 z ∧ Hid (z = n * 10 ^ (r - i)) ∧ -1152921504606846976 ≤ z ∧ z ≤ 1152921504606846976) (fun _ _ v => r - (intOf v).toNat)
  case atStart => exact ⟨rfl, 0, z0, Nat.zero_le _, rfl, rfl, HZ.out, hzb.1, hzb.2⟩
  case round =>
    obtain ⟨rfl, i, z, hi, rfl, rfl, HZI, hz1, hz2⟩ := hrel
    by_cases hlt : i < r
    · obtain ⟨z', e1, e2, e3, e4, e5⟩ := ten_step n z r i hlt HZI.out hz1 hz2
      have hlt2 : (i : Int) < (r : Int) := by omega
      have E5 := Lib.hid e5; clear e5
      go_wp2_with fail
      go_round
      case rel => exact ⟨rfl, i + 1, z', by omega, by go_num, by first | rfl | rw [e2], E5.out, e3, e4⟩
      case measure => simp [intOf]; omega
    · have hzn : z = n := by have h := HZI.out; rw [show r - i = 0 by omega] at h; simpa using h
      have hir : ¬ (i : Int) < (r : Int) := by omega
      subst hzn
      go_wp2_with fail
      refine (parN s k 0 0 _ hk9 (by omega) HV.out).mono ?_
      rintro e w6 ⟨rfl, hb6⟩
      go_wp2_with (first | (go_at_call 11; refine (fmtN _ _ t _ hk9 (by omega) (by omega) HT.out).mono ?_; rintro e w7 ⟨rfl, hb7⟩) | (go_at_call 24; refine (index_is s pt _ HI.out).mono ?_; rintro e w8 ⟨rfl, rfl⟩))
      go_ret
      exact ⟨rfl, belows (belows HB.out hb6) hb7⟩

end Go.Proofs.Ytkabmmpldanmcaa
