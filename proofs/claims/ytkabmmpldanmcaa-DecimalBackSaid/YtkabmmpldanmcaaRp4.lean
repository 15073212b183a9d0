/- The reference's Parse, in parts (made by a program of this repo): the value, with a point. -/
import Derived.Test.YtkabmmpldanmcaaRp0
namespace Go.Proofs.Ytkabmmpldanmcaa
open Go.ChangeShapes Go.WideShapes Go.ChangeAt Go.RowKit
set_option linter.unusedVariables false

set_option maxRecDepth 100000 in
set_option maxHeartbeats 2000000 in
theorem rp_valg_f (s : ByteArray) (k : Nat) (w : World) (i : Nat) (hk : k ≤ 9) (hs : s.size ≤ 1000) (h0 : 0 < s.size) (hm : (((s[0].toNat : Nat) : Int) == 45) = false) (hi : scan dgB s 0 = i) (hil : i < s.size) (hb : (((s[i].toNat : Nat) : Int) != 46) = false) (p : ByteArray) (hpe : s.extract (i + 1) s.size = p) (hp1 : 0 < p.size) (hpk : p.size ≤ k) (wq : ByteArray) (hwe : s.extract 0 i = wq) (hnd : adB p.data.toList = true) (hw1 : wq.size = 1) (hwa : adB wq.data.toList = true) (o : Option Nat) (hv : valL 0 (wq.data.toList ++ p.data.toList ++ padL k p.data.toList) = o) :
    Calls Try.prog 15 #[.string s, .int .i64 k] w (RV false o w) := by
  have HI := Lib.hid hi; clear hi
  have HB := Lib.hid hb; have HPE := Lib.hid hpe; have HWE := Lib.hid hwe
  have HPZ : Hid (p.size + (i + 1) = s.size) := by show p.size + (i + 1) = s.size; rw [← hpe]; simp; omega
  have HWZ : Hid (wq.size + 0 = i) := by show wq.size + 0 = i; have := scan_le dgB s 0 (by omega); rw [HI.out] at this; rw [← hwe]; simp; omega
  clear hb hpe hwe
  have HPA := Lib.hid hnd; have HWA := Lib.hid hwa; have HV := Lib.hid hv; clear hnd hwa hv
  go_enter Try.func15, Try.ntmps15
  go_wp2
  go_loop [6] (fun v => ∃ j : Nat, 0 ≤ j ∧ j ≤ s.size ∧ v = .int .i64 j ∧ scan dgB s j = scan dgB s 0) (fun v => s.size - (intOf v).toNat)
  case atStart => exact ⟨0, by omega, by omega, rfl, rfl⟩
  case round =>
    obtain ⟨j, hj0, hj, rfl, hsc⟩ := hrel
    have HS := Lib.hid hsc; clear hsc
    by_cases hlt : j < s.size
    · cases hd : dgB (s[j].toNat : Int)
      · have hy := scan_no dgB s j hlt hd
        have hji : j = i := by rw [← HI.out, ← HS.out, hy]
        clear hy
        obtain rfl : j = i := hji
        have hb := HB.out
        have hpe := HPE.out
        have hwe := HWE.out
        have y1 : (j : Int) + 1 ≤ s.size := by omega
        have pz : ((p.size : Int) == 0) = false := by rw [beq_eq_false_iff_ne]; omega
        have pk : ¬ (k : Int) < p.size := by omega
        have pkb : decide (k < p.size) = false := by simp; omega
        have hwz : wq.size ≤ 1000 := by have := HWZ.out; omega
        go_wp2_with (go_at_call 34; refine (digit_any 34 (.inr rfl) _ _).mono ?_; rintro e w' ⟨rfl, rfl⟩)
        go_loop [4, 5, 11] (fun v4 v5 v => v4 = .int .i64 0 ∧ v5 = .int .i64 0 ∧ ∃ x : Nat, x ≤ p.size ∧ v = .int .i64 x ∧ scan dgB p x = scan dgB p 0) (fun _ _ v => p.size - (intOf v).toNat)
        case atStart => exact ⟨rfl, rfl, 0, by omega, rfl, rfl⟩
        case round =>
          obtain ⟨rfl, rfl, x, hx, rfl, hsc⟩ := hrel
          have HS2 := Lib.hid hsc; clear hsc
          by_cases hlx : x < p.size
          · cases hd2 : dgB (p[x].toNat : Int)
            · have HY2 := Lib.hid (scan_no dgB p x hlx hd2)
              exfalso
              have e := (adB_at HPA.out x hlx)
              have := dgB_no.1 hd2
              omega
            · have hy := Lib.hid (scan_yes dgB p x hlx hd2)
              go_wp2_with (go_at_call 34; refine (digit_any 34 (.inr rfl) _ _).mono ?_; rintro e w' ⟨rfl, rfl⟩)
              go_round
              case rel => exact ⟨rfl, rfl, x + 1, by omega, by go_num, by rw [← hy.out]; exact HS2.out⟩
              case measure => simp [intOf]; omega
          · have HY2 := Lib.hid (scan_end dgB p x (by omega))
            have hpe2 : ¬ (x : Int) < p.size := by omega
            obtain rfl : x = p.size := by omega
            have wz : ((wq.size : Int) == 0) = false := by rw [beq_eq_false_iff_ne]; omega
            have wz2 : ¬ (1 : Int) < wq.size := by omega
            clear hw1
            go_wp2
            go_loop [10] (fun v => ∃ (x : ByteArray) (c : Nat), v = .string x ∧ x.size = p.size + c ∧ p.size + c ≤ k ∧ Hid (x.data.toList = p.data.toList ++ List.replicate c 48)) (fun v => k - strSize v)
            case atStart => exact ⟨p, 0, rfl, rfl, hpk, by show p.data.toList = _; simp⟩
            case round =>
              obtain ⟨y, c, rfl, hyz, hck, HX⟩ := hrel
              by_cases hyk : y.size < k
              · have hyk2 : (y.size : Int) < k := by omega
                go_wp2
                go_round
                case rel => exact ⟨y ++ ⟨#[48]⟩, c + 1, rfl, by rw [size_add1, hyz]; omega, by omega, pad_step HX.out⟩
                case measure => rw [show strSize (.string (y ++ ⟨#[48]⟩)) = y.size + 1 from size_add1 y]; show k - (y.size + 1) < k - y.size; omega
              · have hyk2 : ¬ (y.size : Int) < k := by omega
                obtain ⟨al, hal⟩ : ∃ al, wq ++ y = al := ⟨_, rfl⟩
                have hald : al.data.toList = wq.data.toList ++ (p.data.toList ++ List.replicate c 48) := by rw [← hal, cat_data, HX.out]
                have hv2 := HV.out
                rw [pad_eq k p.data.toList c (by rw [show p.data.toList.length = p.size by simp]; omega), List.append_assoc, ← hald] at hv2
                have had : adB al.data.toList = true := by rw [hald, ← List.append_assoc]; exact adB_append (adB_append HWA.out HPA.out) (adB_rep c)
                have HA2 := Lib.hid had
                have hz : al.size ≤ 1010 := by rw [← hal]; simp; omega
                have hys : y.size ≤ 9 := by omega
                have HV2 := Lib.hid hv2
                clear hv2 had hald hck
                have hyk3 : decide (y.size < k) = false := by simp; omega
                clear hyz HX
                go_wp2
                clear hal
                go_loop [4, 5, 13, 14] (fun v4 v5 v13 v14 => v4 = .int .i64 0 ∧ v5 = .int .i64 0 ∧ ∃ q m : Nat, q ≤ al.size ∧ v14 = .int .i64 q ∧ v13 = .int .i64 m ∧ m ≤ 1152921504606846976 ∧ valL m (al.data.toList.drop q) = o) (fun _ _ _ v => al.size - (intOf v).toNat)
                case atStart => exact ⟨rfl, rfl, 0, 0, Nat.zero_le _, rfl, rfl, by omega, HV2.out⟩
                case round =>
                  obtain ⟨rfl, rfl, q, m, hq, rfl, rfl, hmm, hvv⟩ := hrel
                  by_cases hlq : q < al.size
                  · rw [valL_at m al q hlq] at hvv
                    obtain ⟨a1, a2⟩ := adB_at HA2.out q hlq
                    have hdv : (dv al[q] : Int) = ((al[q].toNat : Nat) : Int) - 48 := by unfold dv; omega
                    by_cases hbig : (1152921504606846976 - dv al[q]) / 10 < m
                    · rw [if_pos hbig] at hvv
                      have HVV := Lib.hid hvv; clear hvv
                      have hb2 : (1152921504606846976 - (((al[q].toNat : Nat) : Int) - 48)) / 10 < (m : Int) := by omega
                      clear hdv hbig
                      go_wp2
                      go_ret2
                      exact ⟨by rw [← HVV.out]; rfl, rfl⟩
                    · rw [if_neg hbig] at hvv
                      have HVV := Lib.hid hvv; clear hvv
                      have hb2 : ¬ (1152921504606846976 - (((al[q].toNat : Nat) : Int) - 48)) / 10 < (m : Int) := by omega
                      have HDV := Lib.hid hdv
                      have hb3 : 10 * (m : Int) + (((al[q].toNat : Nat) : Int) - 48) ≤ 1152921504606846976 := by omega
                      clear hdv hbig
                      go_wp2
                      go_round
                      case rel => exact ⟨rfl, rfl, q + 1, 10 * m + dv al[q], by omega, by go_num, by rw [← HDV.out]; go_num, by have := HDV.out; omega, HVV.out⟩
                      case measure => simp [intOf]; omega
                  · have hv0 : al.data.toList.drop q = [] := List.drop_eq_nil_of_le (by simp; omega)
                    rw [hv0] at hvv
                    have HVV := Lib.hid hvv; clear hvv hv0
                    go_wp2
                    go_ret2
                    exact ⟨by rw [← HVV.out]; rfl, rfl⟩
      · have hy := Lib.hid (scan_yes dgB s j hlt hd)
        go_wp2_with (go_at_call 34; refine (digit_any 34 (.inr rfl) _ _).mono ?_; rintro e w' ⟨rfl, rfl⟩)
        go_round
        case rel => exact ⟨j + 1, by omega, by omega, by go_num, by rw [← hy.out]; exact HS.out⟩
        case measure => simp [intOf]; omega
    · have hy := scan_end dgB s j (by omega)
      have hji : j = i := by rw [← HI.out, ← HS.out, hy]
      clear hy
      exfalso; omega

set_option maxRecDepth 100000 in
set_option maxHeartbeats 2000000 in
theorem rp_valh_f (s : ByteArray) (k : Nat) (w : World) (i : Nat) (hk : k ≤ 9) (hs : s.size ≤ 1000) (h0 : 0 < s.size) (hm : (((s[0].toNat : Nat) : Int) == 45) = false) (hi : scan dgB s 0 = i) (hil : i < s.size) (hb : (((s[i].toNat : Nat) : Int) != 46) = false) (p : ByteArray) (hpe : s.extract (i + 1) s.size = p) (hp1 : 0 < p.size) (hpk : p.size ≤ k) (wq : ByteArray) (hwe : s.extract 0 i = wq) (hnd : adB p.data.toList = true) (hw1 : 1 < wq.size) (hw : (((wq[0].toNat : Nat) : Int) == 48) = false) (hwa : adB wq.data.toList = true) (o : Option Nat) (hv : valL 0 (wq.data.toList ++ p.data.toList ++ padL k p.data.toList) = o) :
    Calls Try.prog 15 #[.string s, .int .i64 k] w (RV false o w) := by
  have HI := Lib.hid hi; clear hi
  have HB := Lib.hid hb; have HPE := Lib.hid hpe; have HWE := Lib.hid hwe
  have HPZ : Hid (p.size + (i + 1) = s.size) := by show p.size + (i + 1) = s.size; rw [← hpe]; simp; omega
  have HWZ : Hid (wq.size + 0 = i) := by show wq.size + 0 = i; have := scan_le dgB s 0 (by omega); rw [HI.out] at this; rw [← hwe]; simp; omega
  clear hb hpe hwe
  have HPA := Lib.hid hnd; have HWA := Lib.hid hwa; have HV := Lib.hid hv; clear hnd hwa hv
  go_enter Try.func15, Try.ntmps15
  go_wp2
  go_loop [6] (fun v => ∃ j : Nat, 0 ≤ j ∧ j ≤ s.size ∧ v = .int .i64 j ∧ scan dgB s j = scan dgB s 0) (fun v => s.size - (intOf v).toNat)
  case atStart => exact ⟨0, by omega, by omega, rfl, rfl⟩
  case round =>
    obtain ⟨j, hj0, hj, rfl, hsc⟩ := hrel
    have HS := Lib.hid hsc; clear hsc
    by_cases hlt : j < s.size
    · cases hd : dgB (s[j].toNat : Int)
      · have hy := scan_no dgB s j hlt hd
        have hji : j = i := by rw [← HI.out, ← HS.out, hy]
        clear hy
        obtain rfl : j = i := hji
        have hb := HB.out
        have hpe := HPE.out
        have hwe := HWE.out
        have y1 : (j : Int) + 1 ≤ s.size := by omega
        have pz : ((p.size : Int) == 0) = false := by rw [beq_eq_false_iff_ne]; omega
        have pk : ¬ (k : Int) < p.size := by omega
        have pkb : decide (k < p.size) = false := by simp; omega
        have hwz : wq.size ≤ 1000 := by have := HWZ.out; omega
        go_wp2_with (go_at_call 34; refine (digit_any 34 (.inr rfl) _ _).mono ?_; rintro e w' ⟨rfl, rfl⟩)
        go_loop [4, 5, 11] (fun v4 v5 v => v4 = .int .i64 0 ∧ v5 = .int .i64 0 ∧ ∃ x : Nat, x ≤ p.size ∧ v = .int .i64 x ∧ scan dgB p x = scan dgB p 0) (fun _ _ v => p.size - (intOf v).toNat)
        case atStart => exact ⟨rfl, rfl, 0, by omega, rfl, rfl⟩
        case round =>
          obtain ⟨rfl, rfl, x, hx, rfl, hsc⟩ := hrel
          have HS2 := Lib.hid hsc; clear hsc
          by_cases hlx : x < p.size
          · cases hd2 : dgB (p[x].toNat : Int)
            · have HY2 := Lib.hid (scan_no dgB p x hlx hd2)
              exfalso
              have e := (adB_at HPA.out x hlx)
              have := dgB_no.1 hd2
              omega
            · have hy := Lib.hid (scan_yes dgB p x hlx hd2)
              go_wp2_with (go_at_call 34; refine (digit_any 34 (.inr rfl) _ _).mono ?_; rintro e w' ⟨rfl, rfl⟩)
              go_round
              case rel => exact ⟨rfl, rfl, x + 1, by omega, by go_num, by rw [← hy.out]; exact HS2.out⟩
              case measure => simp [intOf]; omega
          · have HY2 := Lib.hid (scan_end dgB p x (by omega))
            have hpe2 : ¬ (x : Int) < p.size := by omega
            obtain rfl : x = p.size := by omega
            have wz : ((wq.size : Int) == 0) = false := by rw [beq_eq_false_iff_ne]; omega
            have wz2 : (1 : Int) < wq.size := by omega
            go_wp2
            go_loop [10] (fun v => ∃ (x : ByteArray) (c : Nat), v = .string x ∧ x.size = p.size + c ∧ p.size + c ≤ k ∧ Hid (x.data.toList = p.data.toList ++ List.replicate c 48)) (fun v => k - strSize v)
            case atStart => exact ⟨p, 0, rfl, rfl, hpk, by show p.data.toList = _; simp⟩
            case round =>
              obtain ⟨y, c, rfl, hyz, hck, HX⟩ := hrel
              by_cases hyk : y.size < k
              · have hyk2 : (y.size : Int) < k := by omega
                go_wp2
                go_round
                case rel => exact ⟨y ++ ⟨#[48]⟩, c + 1, rfl, by rw [size_add1, hyz]; omega, by omega, pad_step HX.out⟩
                case measure => rw [show strSize (.string (y ++ ⟨#[48]⟩)) = y.size + 1 from size_add1 y]; show k - (y.size + 1) < k - y.size; omega
              · have hyk2 : ¬ (y.size : Int) < k := by omega
                obtain ⟨al, hal⟩ : ∃ al, wq ++ y = al := ⟨_, rfl⟩
                have hald : al.data.toList = wq.data.toList ++ (p.data.toList ++ List.replicate c 48) := by rw [← hal, cat_data, HX.out]
                have hv2 := HV.out
                rw [pad_eq k p.data.toList c (by rw [show p.data.toList.length = p.size by simp]; omega), List.append_assoc, ← hald] at hv2
                have had : adB al.data.toList = true := by rw [hald, ← List.append_assoc]; exact adB_append (adB_append HWA.out HPA.out) (adB_rep c)
                have HA2 := Lib.hid had
                have hz : al.size ≤ 1010 := by rw [← hal]; simp; omega
                have hys : y.size ≤ 9 := by omega
                have HV2 := Lib.hid hv2
                clear hv2 had hald hck
                have hyk3 : decide (y.size < k) = false := by simp; omega
                clear hyz HX
                go_wp2
                clear hal
                go_loop [4, 5, 13, 14] (fun v4 v5 v13 v14 => v4 = .int .i64 0 ∧ v5 = .int .i64 0 ∧ ∃ q m : Nat, q ≤ al.size ∧ v14 = .int .i64 q ∧ v13 = .int .i64 m ∧ m ≤ 1152921504606846976 ∧ valL m (al.data.toList.drop q) = o) (fun _ _ _ v => al.size - (intOf v).toNat)
                case atStart => exact ⟨rfl, rfl, 0, 0, Nat.zero_le _, rfl, rfl, by omega, HV2.out⟩
                case round =>
                  obtain ⟨rfl, rfl, q, m, hq, rfl, rfl, hmm, hvv⟩ := hrel
                  by_cases hlq : q < al.size
                  · rw [valL_at m al q hlq] at hvv
                    obtain ⟨a1, a2⟩ := adB_at HA2.out q hlq
                    have hdv : (dv al[q] : Int) = ((al[q].toNat : Nat) : Int) - 48 := by unfold dv; omega
                    by_cases hbig : (1152921504606846976 - dv al[q]) / 10 < m
                    · rw [if_pos hbig] at hvv
                      have HVV := Lib.hid hvv; clear hvv
                      have hb2 : (1152921504606846976 - (((al[q].toNat : Nat) : Int) - 48)) / 10 < (m : Int) := by omega
                      clear hdv hbig
                      go_wp2
                      go_ret2
                      exact ⟨by rw [← HVV.out]; rfl, rfl⟩
                    · rw [if_neg hbig] at hvv
                      have HVV := Lib.hid hvv; clear hvv
                      have hb2 : ¬ (1152921504606846976 - (((al[q].toNat : Nat) : Int) - 48)) / 10 < (m : Int) := by omega
                      have HDV := Lib.hid hdv
                      have hb3 : 10 * (m : Int) + (((al[q].toNat : Nat) : Int) - 48) ≤ 1152921504606846976 := by omega
                      clear hdv hbig
                      go_wp2
                      go_round
                      case rel => exact ⟨rfl, rfl, q + 1, 10 * m + dv al[q], by omega, by go_num, by rw [← HDV.out]; go_num, by have := HDV.out; omega, HVV.out⟩
                      case measure => simp [intOf]; omega
                  · have hv0 : al.data.toList.drop q = [] := List.drop_eq_nil_of_le (by simp; omega)
                    rw [hv0] at hvv
                    have HVV := Lib.hid hvv; clear hvv hv0
                    go_wp2
                    go_ret2
                    exact ⟨by rw [← HVV.out]; rfl, rfl⟩
      · have hy := Lib.hid (scan_yes dgB s j hlt hd)
        go_wp2_with (go_at_call 34; refine (digit_any 34 (.inr rfl) _ _).mono ?_; rintro e w' ⟨rfl, rfl⟩)
        go_round
        case rel => exact ⟨j + 1, by omega, by omega, by go_num, by rw [← hy.out]; exact HS.out⟩
        case measure => simp [intOf]; omega
    · have hy := scan_end dgB s j (by omega)
      have hji : j = i := by rw [← HI.out, ← HS.out, hy]
      clear hy
      exfalso; omega

set_option maxRecDepth 100000 in
set_option maxHeartbeats 2000000 in
theorem rp_valg_t (s : ByteArray) (k : Nat) (w : World) (i : Nat) (hk : k ≤ 9) (hs : s.size ≤ 1000) (h0 : 0 < s.size) (hm : (((s[0].toNat : Nat) : Int) == 45) = true) (hi : scan dgB s 1 = i) (hil : i < s.size) (hb : (((s[i].toNat : Nat) : Int) != 46) = false) (p : ByteArray) (hpe : s.extract (i + 1) s.size = p) (hp1 : 0 < p.size) (hpk : p.size ≤ k) (wq : ByteArray) (hwe : s.extract 1 i = wq) (hnd : adB p.data.toList = true) (hw1 : wq.size = 1) (hwa : adB wq.data.toList = true) (o : Option Nat) (hv : valL 0 (wq.data.toList ++ p.data.toList ++ padL k p.data.toList) = o) :
    Calls Try.prog 15 #[.string s, .int .i64 k] w (RV true o w) := by
  have HI := Lib.hid hi; clear hi
  have HB := Lib.hid hb; have HPE := Lib.hid hpe; have HWE := Lib.hid hwe
  have HPZ : Hid (p.size + (i + 1) = s.size) := by show p.size + (i + 1) = s.size; rw [← hpe]; simp; omega
  have HWZ : Hid (wq.size + 1 = i) := by show wq.size + 1 = i; have := scan_le dgB s 1 (by omega); rw [HI.out] at this; rw [← hwe]; simp; omega
  clear hb hpe hwe
  have HPA := Lib.hid hnd; have HWA := Lib.hid hwa; have HV := Lib.hid hv; clear hnd hwa hv
  go_enter Try.func15, Try.ntmps15
  go_wp2
  go_loop [6] (fun v => ∃ j : Nat, 1 ≤ j ∧ j ≤ s.size ∧ v = .int .i64 j ∧ scan dgB s j = scan dgB s 1) (fun v => s.size - (intOf v).toNat)
  case atStart => exact ⟨1, by omega, by omega, rfl, rfl⟩
  case round =>
    obtain ⟨j, hj0, hj, rfl, hsc⟩ := hrel
    have HS := Lib.hid hsc; clear hsc
    by_cases hlt : j < s.size
    · cases hd : dgB (s[j].toNat : Int)
      · have hy := scan_no dgB s j hlt hd
        have hji : j = i := by rw [← HI.out, ← HS.out, hy]
        clear hy
        obtain rfl : j = i := hji
        have hb := HB.out
        have hpe := HPE.out
        have hwe := HWE.out
        have y1 : (j : Int) + 1 ≤ s.size := by omega
        have pz : ((p.size : Int) == 0) = false := by rw [beq_eq_false_iff_ne]; omega
        have pk : ¬ (k : Int) < p.size := by omega
        have pkb : decide (k < p.size) = false := by simp; omega
        have hwz : wq.size ≤ 1000 := by have := HWZ.out; omega
        go_wp2_with (go_at_call 34; refine (digit_any 34 (.inr rfl) _ _).mono ?_; rintro e w' ⟨rfl, rfl⟩)
        go_loop [4, 5, 11] (fun v4 v5 v => v4 = .int .i64 0 ∧ v5 = .int .i64 0 ∧ ∃ x : Nat, x ≤ p.size ∧ v = .int .i64 x ∧ scan dgB p x = scan dgB p 0) (fun _ _ v => p.size - (intOf v).toNat)
        case atStart => exact ⟨rfl, rfl, 0, by omega, rfl, rfl⟩
        case round =>
          obtain ⟨rfl, rfl, x, hx, rfl, hsc⟩ := hrel
          have HS2 := Lib.hid hsc; clear hsc
          by_cases hlx : x < p.size
          · cases hd2 : dgB (p[x].toNat : Int)
            · have HY2 := Lib.hid (scan_no dgB p x hlx hd2)
              exfalso
              have e := (adB_at HPA.out x hlx)
              have := dgB_no.1 hd2
              omega
            · have hy := Lib.hid (scan_yes dgB p x hlx hd2)
              go_wp2_with (go_at_call 34; refine (digit_any 34 (.inr rfl) _ _).mono ?_; rintro e w' ⟨rfl, rfl⟩)
              go_round
              case rel => exact ⟨rfl, rfl, x + 1, by omega, by go_num, by rw [← hy.out]; exact HS2.out⟩
              case measure => simp [intOf]; omega
          · have HY2 := Lib.hid (scan_end dgB p x (by omega))
            have hpe2 : ¬ (x : Int) < p.size := by omega
            obtain rfl : x = p.size := by omega
            have wz : ((wq.size : Int) == 0) = false := by rw [beq_eq_false_iff_ne]; omega
            have wz2 : ¬ (1 : Int) < wq.size := by omega
            clear hw1
            go_wp2
            go_loop [10] (fun v => ∃ (x : ByteArray) (c : Nat), v = .string x ∧ x.size = p.size + c ∧ p.size + c ≤ k ∧ Hid (x.data.toList = p.data.toList ++ List.replicate c 48)) (fun v => k - strSize v)
            case atStart => exact ⟨p, 0, rfl, rfl, hpk, by show p.data.toList = _; simp⟩
            case round =>
              obtain ⟨y, c, rfl, hyz, hck, HX⟩ := hrel
              by_cases hyk : y.size < k
              · have hyk2 : (y.size : Int) < k := by omega
                go_wp2
                go_round
                case rel => exact ⟨y ++ ⟨#[48]⟩, c + 1, rfl, by rw [size_add1, hyz]; omega, by omega, pad_step HX.out⟩
                case measure => rw [show strSize (.string (y ++ ⟨#[48]⟩)) = y.size + 1 from size_add1 y]; show k - (y.size + 1) < k - y.size; omega
              · have hyk2 : ¬ (y.size : Int) < k := by omega
                obtain ⟨al, hal⟩ : ∃ al, wq ++ y = al := ⟨_, rfl⟩
                have hald : al.data.toList = wq.data.toList ++ (p.data.toList ++ List.replicate c 48) := by rw [← hal, cat_data, HX.out]
                have hv2 := HV.out
                rw [pad_eq k p.data.toList c (by rw [show p.data.toList.length = p.size by simp]; omega), List.append_assoc, ← hald] at hv2
                have had : adB al.data.toList = true := by rw [hald, ← List.append_assoc]; exact adB_append (adB_append HWA.out HPA.out) (adB_rep c)
                have HA2 := Lib.hid had
                have hz : al.size ≤ 1010 := by rw [← hal]; simp; omega
                have hys : y.size ≤ 9 := by omega
                have HV2 := Lib.hid hv2
                clear hv2 had hald hck
                have hyk3 : decide (y.size < k) = false := by simp; omega
                clear hyz HX
                go_wp2
                clear hal
                go_loop [4, 5, 13, 14] (fun v4 v5 v13 v14 => v4 = .int .i64 0 ∧ v5 = .int .i64 0 ∧ ∃ q m : Nat, q ≤ al.size ∧ v14 = .int .i64 q ∧ v13 = .int .i64 m ∧ m ≤ 1152921504606846976 ∧ valL m (al.data.toList.drop q) = o) (fun _ _ _ v => al.size - (intOf v).toNat)
                case atStart => exact ⟨rfl, rfl, 0, 0, Nat.zero_le _, rfl, rfl, by omega, HV2.out⟩
                case round =>
                  obtain ⟨rfl, rfl, q, m, hq, rfl, rfl, hmm, hvv⟩ := hrel
                  by_cases hlq : q < al.size
                  · rw [valL_at m al q hlq] at hvv
                    obtain ⟨a1, a2⟩ := adB_at HA2.out q hlq
                    have hdv : (dv al[q] : Int) = ((al[q].toNat : Nat) : Int) - 48 := by unfold dv; omega
                    by_cases hbig : (1152921504606846976 - dv al[q]) / 10 < m
                    · rw [if_pos hbig] at hvv
                      have HVV := Lib.hid hvv; clear hvv
                      have hb2 : (1152921504606846976 - (((al[q].toNat : Nat) : Int) - 48)) / 10 < (m : Int) := by omega
                      clear hdv hbig
                      go_wp2
                      go_ret2
                      exact ⟨by rw [← HVV.out]; rfl, rfl⟩
                    · rw [if_neg hbig] at hvv
                      have HVV := Lib.hid hvv; clear hvv
                      have hb2 : ¬ (1152921504606846976 - (((al[q].toNat : Nat) : Int) - 48)) / 10 < (m : Int) := by omega
                      have HDV := Lib.hid hdv
                      have hb3 : 10 * (m : Int) + (((al[q].toNat : Nat) : Int) - 48) ≤ 1152921504606846976 := by omega
                      clear hdv hbig
                      go_wp2
                      go_round
                      case rel => exact ⟨rfl, rfl, q + 1, 10 * m + dv al[q], by omega, by go_num, by rw [← HDV.out]; go_num, by have := HDV.out; omega, HVV.out⟩
                      case measure => simp [intOf]; omega
                  · have hv0 : al.data.toList.drop q = [] := List.drop_eq_nil_of_le (by simp; omega)
                    rw [hv0] at hvv
                    have HVV := Lib.hid hvv; clear hvv hv0
                    go_wp2
                    go_ret2
                    exact ⟨by rw [← HVV.out]; rfl, rfl⟩
      · have hy := Lib.hid (scan_yes dgB s j hlt hd)
        go_wp2_with (go_at_call 34; refine (digit_any 34 (.inr rfl) _ _).mono ?_; rintro e w' ⟨rfl, rfl⟩)
        go_round
        case rel => exact ⟨j + 1, by omega, by omega, by go_num, by rw [← hy.out]; exact HS.out⟩
        case measure => simp [intOf]; omega
    · have hy := scan_end dgB s j (by omega)
      have hji : j = i := by rw [← HI.out, ← HS.out, hy]
      clear hy
      exfalso; omega

set_option maxRecDepth 100000 in
set_option maxHeartbeats 2000000 in
theorem rp_valh_t (s : ByteArray) (k : Nat) (w : World) (i : Nat) (hk : k ≤ 9) (hs : s.size ≤ 1000) (h0 : 0 < s.size) (hm : (((s[0].toNat : Nat) : Int) == 45) = true) (hi : scan dgB s 1 = i) (hil : i < s.size) (hb : (((s[i].toNat : Nat) : Int) != 46) = false) (p : ByteArray) (hpe : s.extract (i + 1) s.size = p) (hp1 : 0 < p.size) (hpk : p.size ≤ k) (wq : ByteArray) (hwe : s.extract 1 i = wq) (hnd : adB p.data.toList = true) (hw1 : 1 < wq.size) (hw : (((wq[0].toNat : Nat) : Int) == 48) = false) (hwa : adB wq.data.toList = true) (o : Option Nat) (hv : valL 0 (wq.data.toList ++ p.data.toList ++ padL k p.data.toList) = o) :
    Calls Try.prog 15 #[.string s, .int .i64 k] w (RV true o w) := by
  have HI := Lib.hid hi; clear hi
  have HB := Lib.hid hb; have HPE := Lib.hid hpe; have HWE := Lib.hid hwe
  have HPZ : Hid (p.size + (i + 1) = s.size) := by show p.size + (i + 1) = s.size; rw [← hpe]; simp; omega
  have HWZ : Hid (wq.size + 1 = i) := by show wq.size + 1 = i; have := scan_le dgB s 1 (by omega); rw [HI.out] at this; rw [← hwe]; simp; omega
  clear hb hpe hwe
  have HPA := Lib.hid hnd; have HWA := Lib.hid hwa; have HV := Lib.hid hv; clear hnd hwa hv
  go_enter Try.func15, Try.ntmps15
  go_wp2
  go_loop [6] (fun v => ∃ j : Nat, 1 ≤ j ∧ j ≤ s.size ∧ v = .int .i64 j ∧ scan dgB s j = scan dgB s 1) (fun v => s.size - (intOf v).toNat)
  case atStart => exact ⟨1, by omega, by omega, rfl, rfl⟩
  case round =>
    obtain ⟨j, hj0, hj, rfl, hsc⟩ := hrel
    have HS := Lib.hid hsc; clear hsc
    by_cases hlt : j < s.size
    · cases hd : dgB (s[j].toNat : Int)
      · have hy := scan_no dgB s j hlt hd
        have hji : j = i := by rw [← HI.out, ← HS.out, hy]
        clear hy
        obtain rfl : j = i := hji
        have hb := HB.out
        have hpe := HPE.out
        have hwe := HWE.out
        have y1 : (j : Int) + 1 ≤ s.size := by omega
        have pz : ((p.size : Int) == 0) = false := by rw [beq_eq_false_iff_ne]; omega
        have pk : ¬ (k : Int) < p.size := by omega
        have pkb : decide (k < p.size) = false := by simp; omega
        have hwz : wq.size ≤ 1000 := by have := HWZ.out; omega
        go_wp2_with (go_at_call 34; refine (digit_any 34 (.inr rfl) _ _).mono ?_; rintro e w' ⟨rfl, rfl⟩)
        go_loop [4, 5, 11] (fun v4 v5 v => v4 = .int .i64 0 ∧ v5 = .int .i64 0 ∧ ∃ x : Nat, x ≤ p.size ∧ v = .int .i64 x ∧ scan dgB p x = scan dgB p 0) (fun _ _ v => p.size - (intOf v).toNat)
        case atStart => exact ⟨rfl, rfl, 0, by omega, rfl, rfl⟩
        case round =>
          obtain ⟨rfl, rfl, x, hx, rfl, hsc⟩ := hrel
          have HS2 := Lib.hid hsc; clear hsc
          by_cases hlx : x < p.size
          · cases hd2 : dgB (p[x].toNat : Int)
            · have HY2 := Lib.hid (scan_no dgB p x hlx hd2)
              exfalso
              have e := (adB_at HPA.out x hlx)
              have := dgB_no.1 hd2
              omega
            · have hy := Lib.hid (scan_yes dgB p x hlx hd2)
              go_wp2_with (go_at_call 34; refine (digit_any 34 (.inr rfl) _ _).mono ?_; rintro e w' ⟨rfl, rfl⟩)
              go_round
              case rel => exact ⟨rfl, rfl, x + 1, by omega, by go_num, by rw [← hy.out]; exact HS2.out⟩
              case measure => simp [intOf]; omega
          · have HY2 := Lib.hid (scan_end dgB p x (by omega))
            have hpe2 : ¬ (x : Int) < p.size := by omega
            obtain rfl : x = p.size := by omega
            have wz : ((wq.size : Int) == 0) = false := by rw [beq_eq_false_iff_ne]; omega
            have wz2 : (1 : Int) < wq.size := by omega
            go_wp2
            go_loop [10] (fun v => ∃ (x : ByteArray) (c : Nat), v = .string x ∧ x.size = p.size + c ∧ p.size + c ≤ k ∧ Hid (x.data.toList = p.data.toList ++ List.replicate c 48)) (fun v => k - strSize v)
            case atStart => exact ⟨p, 0, rfl, rfl, hpk, by show p.data.toList = _; simp⟩
            case round =>
              obtain ⟨y, c, rfl, hyz, hck, HX⟩ := hrel
              by_cases hyk : y.size < k
              · have hyk2 : (y.size : Int) < k := by omega
                go_wp2
                go_round
                case rel => exact ⟨y ++ ⟨#[48]⟩, c + 1, rfl, by rw [size_add1, hyz]; omega, by omega, pad_step HX.out⟩
                case measure => rw [show strSize (.string (y ++ ⟨#[48]⟩)) = y.size + 1 from size_add1 y]; show k - (y.size + 1) < k - y.size; omega
              · have hyk2 : ¬ (y.size : Int) < k := by omega
                obtain ⟨al, hal⟩ : ∃ al, wq ++ y = al := ⟨_, rfl⟩
                have hald : al.data.toList = wq.data.toList ++ (p.data.toList ++ List.replicate c 48) := by rw [← hal, cat_data, HX.out]
                have hv2 := HV.out
                rw [pad_eq k p.data.toList c (by rw [show p.data.toList.length = p.size by simp]; omega), List.append_assoc, ← hald] at hv2
                have had : adB al.data.toList = true := by rw [hald, ← List.append_assoc]; exact adB_append (adB_append HWA.out HPA.out) (adB_rep c)
                have HA2 := Lib.hid had
                have hz : al.size ≤ 1010 := by rw [← hal]; simp; omega
                have hys : y.size ≤ 9 := by omega
                have HV2 := Lib.hid hv2
                clear hv2 had hald hck
                have hyk3 : decide (y.size < k) = false := by simp; omega
                clear hyz HX
                go_wp2
                clear hal
                go_loop [4, 5, 13, 14] (fun v4 v5 v13 v14 => v4 = .int .i64 0 ∧ v5 = .int .i64 0 ∧ ∃ q m : Nat, q ≤ al.size ∧ v14 = .int .i64 q ∧ v13 = .int .i64 m ∧ m ≤ 1152921504606846976 ∧ valL m (al.data.toList.drop q) = o) (fun _ _ _ v => al.size - (intOf v).toNat)
                case atStart => exact ⟨rfl, rfl, 0, 0, Nat.zero_le _, rfl, rfl, by omega, HV2.out⟩
                case round =>
                  obtain ⟨rfl, rfl, q, m, hq, rfl, rfl, hmm, hvv⟩ := hrel
                  by_cases hlq : q < al.size
                  · rw [valL_at m al q hlq] at hvv
                    obtain ⟨a1, a2⟩ := adB_at HA2.out q hlq
                    have hdv : (dv al[q] : Int) = ((al[q].toNat : Nat) : Int) - 48 := by unfold dv; omega
                    by_cases hbig : (1152921504606846976 - dv al[q]) / 10 < m
                    · rw [if_pos hbig] at hvv
                      have HVV := Lib.hid hvv; clear hvv
                      have hb2 : (1152921504606846976 - (((al[q].toNat : Nat) : Int) - 48)) / 10 < (m : Int) := by omega
                      clear hdv hbig
                      go_wp2
                      go_ret2
                      exact ⟨by rw [← HVV.out]; rfl, rfl⟩
                    · rw [if_neg hbig] at hvv
                      have HVV := Lib.hid hvv; clear hvv
                      have hb2 : ¬ (1152921504606846976 - (((al[q].toNat : Nat) : Int) - 48)) / 10 < (m : Int) := by omega
                      have HDV := Lib.hid hdv
                      have hb3 : 10 * (m : Int) + (((al[q].toNat : Nat) : Int) - 48) ≤ 1152921504606846976 := by omega
                      clear hdv hbig
                      go_wp2
                      go_round
                      case rel => exact ⟨rfl, rfl, q + 1, 10 * m + dv al[q], by omega, by go_num, by rw [← HDV.out]; go_num, by have := HDV.out; omega, HVV.out⟩
                      case measure => simp [intOf]; omega
                  · have hv0 : al.data.toList.drop q = [] := List.drop_eq_nil_of_le (by simp; omega)
                    rw [hv0] at hvv
                    have HVV := Lib.hid hvv; clear hvv hv0
                    go_wp2
                    go_ret2
                    exact ⟨by rw [← HVV.out]; rfl, rfl⟩
      · have hy := Lib.hid (scan_yes dgB s j hlt hd)
        go_wp2_with (go_at_call 34; refine (digit_any 34 (.inr rfl) _ _).mono ?_; rintro e w' ⟨rfl, rfl⟩)
        go_round
        case rel => exact ⟨j + 1, by omega, by omega, by go_num, by rw [← hy.out]; exact HS.out⟩
        case measure => simp [intOf]; omega
    · have hy := scan_end dgB s j (by omega)
      have hji : j = i := by rw [← HI.out, ← HS.out, hy]
      clear hy
      exfalso; omega

end Go.Proofs.Ytkabmmpldanmcaa
