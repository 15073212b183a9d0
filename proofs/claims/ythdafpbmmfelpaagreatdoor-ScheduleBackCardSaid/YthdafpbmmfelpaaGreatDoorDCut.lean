/- Contracts: cutting at a point, whole numbers, digits. -/
import Derived.Test.YthdafpbmmfelpaaGreatDoorM1
import Derived.Test.YthdafpbmmfelpaaGreatDoorDParP
import Derived.Test.YthdafpbmmfelpaaGreatDoorShg
namespace Go.Proofs.YthdafpbmmfelpaaGreatDoor.Dec
open Go.ChangeShapes Go.WideShapes Go.ChangeAt Go.RowKit
set_option linter.unusedVariables false

theorem indexByte_noDot : ∀ l : List UInt8, (Lib.indexByte l 46 = -1 ∧ cnt noDot l = l.length) ∨ (Lib.indexByte l 46 = cnt noDot l ∧ cnt noDot l < l.length)
  | [] => .inl ⟨rfl, rfl⟩
  | c :: r => by
    by_cases hc : c = 46
    · subst hc; exact .inr ⟨rfl, by simp [cnt, noDot]⟩
    · have h1 : noDot (c.toNat : Int) = true := by
        unfold noDot; rw [bne_iff_ne]; intro e
        exact hc (UInt8.toNat_inj.1 (by have : ((46 : UInt8).toNat) = 46 := rfl; omega))
      have h2 : (c == 46) = false := by simpa using hc
      rw [cnt_cons _ _ _ h1, Lib.indexByte, h2]
      rcases indexByte_noDot r with ⟨a, b⟩ | ⟨a, b⟩
      · left; rw [a]; simp [b]
      · right; rw [a]
        have h3 : ((cnt noDot r : Int) == -1) = false := by simp
        rw [h3]; simp; omega

theorem slcut_yes (s : ByteArray) (q : Nat) (w : World) (hs : s.size ≤ 1000) (hq : cnt noDot s.data.toList = q) (hl : q < s.size) :
    Calls Tryz.prog 174 #[.string s, .string ⟨#[46]⟩] w fun e w' => e = .returned (.tuple #[.string (s.extract 0 q), .string (s.extract (q + 1) s.size), .bool true]) ∧ ∃ n, w' = w.drewN n := by
  have hz : s.data.toList.length = s.size := by simp
  have hi : Lib.indexByte s.data.toList 46 = (q : Int) := by
    rcases indexByte_noDot s.data.toList with ⟨a, b⟩ | ⟨a, b⟩
    · rw [hq, hz] at b; omega
    · rw [a, hq]
  have ci := Tryz.stringslite_Index_one s 46 w
  rw [hi] at ci
  have CI := Lib.hid ci; clear ci hi hz hq
  have e1 : IntKind.i64.wrap ((q : Int) + 1) = (q : Int) + 1 := by rw [IntWalk.i64_in _ (by omega)]
  have e2 : (0 : Int) ≤ (q : Int) + 1 := by omega
  have e3 : (q : Int) + 1 ≤ s.size := by omega
  have e4 : ((q : Int) + 1).toNat = q + 1 := by omega
  go_enter Tryz.func174, Tryz.ntmps174
  go_wp2_with (go_at_call 173; refine CI.out.mono ?_; rintro e w' ⟨rfl, rfl⟩)
  go_quiet (fail)
  go_wp2
  go_ret3
  exact ⟨rfl, _, rfl⟩

theorem slcut_no (s : ByteArray) (w : World) (hs : s.size ≤ 1000) (hq : cnt noDot s.data.toList = s.size) :
    Calls Tryz.prog 174 #[.string s, .string ⟨#[46]⟩] w fun e w' => e = .returned (.tuple #[.string s, .string ⟨#[]⟩, .bool false]) ∧ w' = w := by
  have hz : s.data.toList.length = s.size := by simp
  have hi : Lib.indexByte s.data.toList 46 = -1 := by
    rcases indexByte_noDot s.data.toList with ⟨a, b⟩ | ⟨a, b⟩
    · exact a
    · rw [hq, hz] at b; omega
  have ci := Tryz.stringslite_Index_one s 46 w
  rw [hi] at ci
  have CI := Lib.hid ci; clear ci hi hz hq
  go_enter Tryz.func174, Tryz.ntmps174
  go_wp2_with (go_at_call 173; refine CI.out.mono ?_; rintro e w' ⟨rfl, rfl⟩)
  go_ret3
  exact ⟨rfl, rfl⟩

theorem cut_yes (s : ByteArray) (q : Nat) (w : World) (hs : s.size ≤ 1000) (hq : cnt noDot s.data.toList = q) (hl : q < s.size) :
    Calls Tryz.prog 141 #[.string s, .string ⟨#[46]⟩] w fun e w' => e = .returned (.tuple #[.string (s.extract 0 q), .string (s.extract (q + 1) s.size), .bool true]) ∧ ∃ n, w' = w.drewN n := by
  have H := Lib.hid hq; clear hq
  go_enter Tryz.func141, Tryz.ntmps141
  go_wp2_with (go_at_call 174; refine (slcut_yes s q _ hs H.out hl).mono ?_; rintro e w' ⟨rfl, n, rfl⟩)
  go_ret3
  exact ⟨rfl, _, rfl⟩
theorem cut_no (s : ByteArray) (w : World) (hs : s.size ≤ 1000) (hq : cnt noDot s.data.toList = s.size) :
    Calls Tryz.prog 141 #[.string s, .string ⟨#[46]⟩] w fun e w' => e = .returned (.tuple #[.string s, .string ⟨#[]⟩, .bool false]) ∧ ∃ n, w' = w.drewN n := by
  have H := Lib.hid hq; clear hq
  go_enter Tryz.func141, Tryz.ntmps141
  go_wp2_with (go_at_call 174; refine (slcut_no s _ hs H.out).mono ?_; rintro e w' ⟨rfl, rfl⟩)
  go_ret3
  exact ⟨rfl, 0, rfl⟩

theorem isDigits_any (s : ByteArray) (w : World) (hs : s.size ≤ maxLen) :
    Calls Tryz.prog 143 #[.string s] w fun e w' => e = .returned (.bool (adB s.data.toList)) ∧ w = w' := by
  obtain ⟨d, hd⟩ : ∃ d, scan dgB s 0 = d := ⟨_, rfl⟩
  have hz : s.data.toList.length = s.size := by simp
  have ha : adB s.data.toList = ((d : Int) == (s.size : Int)) := by
    unfold adB; rw [hz, ← hd, cnt_drop, List.drop_zero, Nat.zero_add]
    rw [Bool.eq_iff_iff]; simp; omega
  rw [ha]
  have HD := Lib.hid hd; clear hd ha hz
  have hm := Lib.hid hs
  unfold maxLen at hs
  go_enter Tryz.func143, Tryz.ntmps143
  go_wp2_with (go_at_call 163; refine (digitsSize_is _ d _ hm.out HD.out).mono ?_; rintro e w' ⟨rfl, rfl⟩)
  go_ret
  exact ⟨rfl, rfl⟩

theorem wholeB_no {l : List UInt8} (h : (l == [48]) = false) : wholeB l = (adB l && !l.isEmpty && !(l.head? == some 48)) := by unfold wholeB; rw [h]; rfl
theorem head_at (s : ByteArray) (h : 0 < s.size) : s.data.toList.head? = some s[0] := by
  have e := drop_at s 0 h
  rw [List.drop_zero] at e
  rw [e]; rfl

theorem isWhole_any (s : ByteArray) (w : World) (hs : s.size ≤ maxLen) :
    Calls Tryz.prog 142 #[.string s] w fun e w' => e = .returned (.bool (wholeB s.data.toList)) ∧ w = w' := by
  have hm := Lib.hid hs
  have hz : s.data.toList.length = s.size := by simp
  unfold maxLen at hs
  cases t1 : (s.data.toList == [48])
  · have hw := wholeB_no t1
    have u1 : (s.toList == [48]) = false := by rw [Lib.toList_data]; exact t1
    by_cases h0 : 0 < s.size
    · have hne : s.data.toList.isEmpty = false := by
        cases he : s.data.toList with
        | nil => rw [he] at hz; simp at hz; omega
        | cons c r => rfl
      have u2 : s.toList.isEmpty = false := by rw [Lib.toList_data]; exact hne
      rw [hne, head_at s h0] at hw
      by_cases hc : ((s[0].toNat : Nat) : Int) = 48
      · have h48 : s[0] = 48 := UInt8.toNat_inj.1 (by have : ((48 : UInt8).toNat) = 48 := rfl; omega)
        have hf : wholeB s.data.toList = false := by rw [hw, h48]; simp
        rw [hf]
        have u3 : (((s[0].toNat : Nat) : Int) != 48) = false := by simp [hc]
        clear hw h48 hf t1 hne hz hc
        go_enter Tryz.func142, Tryz.ntmps142
        go_wp2_with (fail)
        go_ret
        exact ⟨rfl, rfl⟩
      · have h48 : (some s[0] == some (48 : UInt8)) = false := by
          simp; intro e; apply hc; rw [e]; rfl
        have hf : wholeB s.data.toList = adB s.data.toList := by rw [hw, h48]; simp
        rw [hf]
        have u3 : (((s[0].toNat : Nat) : Int) != 48) = true := by simpa using hc
        clear hw h48 hf t1 hne hz hc
        go_enter Tryz.func142, Tryz.ntmps142
        go_wp2_with (go_at_call 143; refine (isDigits_any _ _ hm.out).mono ?_; rintro e w' ⟨rfl, rfl⟩)
        go_ret
        exact ⟨rfl, rfl⟩
    · have hne : s.data.toList = [] := List.length_eq_zero_iff.1 (by omega)
      have u2 : s.toList.isEmpty = true := by rw [Lib.toList_data, hne]; rfl
      have hf : wholeB s.data.toList = false := by rw [hne]; rfl
      rw [hf]
      clear hw hf t1 hne hz
      go_enter Tryz.func142, Tryz.ntmps142
      go_wp2_with (fail)
      go_ret
      exact ⟨rfl, rfl⟩
  · have hw : wholeB s.data.toList = true := by unfold wholeB; rw [t1]; rfl
    rw [hw]
    have u1 : (s.toList == [48]) = true := by rw [Lib.toList_data]; exact t1
    clear t1 hw hz
    go_enter Tryz.func142, Tryz.ntmps142
    go_wp2_with (fail)
    go_ret
    exact ⟨rfl, rfl⟩

/-- What value returns. -/
def ValRet (o : Option Nat) (w : World) (e : Ending) (w' : World) : Prop :=
  (e = match o with | none => .returned (.tuple #[.int .i64 0, .bool false]) | some n => .returned (.tuple #[.int .i64 n, .bool true])) ∧ w = w'

theorem adB_at {s : ByteArray} (h : adB s.data.toList = true) (k : Nat) (hk : k < s.size) : 48 ≤ ((s[k].toNat : Nat) : Int) ∧ ((s[k].toNat : Nat) : Int) ≤ 57 := by
  have h1 := (cnt_all_iff dgB _).1 (adB_iff.1 h) s[k] (by simp [ByteArray.getElem_eq_getElem_data])
  exact dgB_iff.1 h1

theorem valL_at (m : Nat) (s : ByteArray) (k : Nat) (h : k < s.size) : valL m (s.data.toList.drop k) = if (1152921504606846976 - dv s[k]) / 10 < m then none else valL (10 * m + dv s[k]) (s.data.toList.drop (k + 1)) := by
  rw [drop_at s k h]; rfl

theorem value_any (s : ByteArray) (w : World) (hs : s.size ≤ 1000) (hd : adB s.data.toList = true) :
    Calls Tryz.prog 144 #[.string s] w (ValRet (valL 0 s.data.toList) w) := by
  have HA := Lib.hid hd; clear hd
  go_enter Tryz.func144, Tryz.ntmps144
  go_wp2
  go_loop [4, 9] (fun v4 v9 => ∃ k m : Nat, k ≤ s.size ∧ v9 = .int .i64 k ∧ v4 = .int .i64 m ∧ m ≤ 1152921504606846976 ∧ valL m (s.data.toList.drop k) = valL 0 s.data.toList) (fun _ i => s.size - (intOf i).toNat)
  case atStart => exact ⟨0, 0, Nat.zero_le _, rfl, rfl, by omega, rfl⟩
  case round =>
    obtain ⟨k, m, hk, rfl, rfl, hm, hv⟩ := hrel
    by_cases hlt : k < s.size
    · rw [valL_at m s k hlt] at hv
      obtain ⟨c1, c2⟩ := adB_at HA.out k hlt
      have hdv : (dv s[k] : Int) = ((s[k].toNat : Nat) : Int) - 48 := by unfold dv; omega
      by_cases hbig : (1152921504606846976 - dv s[k]) / 10 < m
      · rw [if_pos hbig] at hv
        have HV := Lib.hid hv; clear hv
        have hb2 : (1152921504606846976 - (((s[k].toNat : Nat) : Int) - 48)) / 10 < (m : Int) := by omega
        clear hdv hbig
        go_wp2
        go_ret2
        exact ⟨by rw [← HV.out]; rfl, rfl⟩
      · rw [if_neg hbig] at hv
        have HV := Lib.hid hv; clear hv
        have hb2 : ¬ (1152921504606846976 - (((s[k].toNat : Nat) : Int) - 48)) / 10 < (m : Int) := by omega
        have HDV := Lib.hid hdv
        have hb3 : 10 * (m : Int) + (((s[k].toNat : Nat) : Int) - 48) ≤ 1152921504606846976 := by omega
        clear hdv hbig
        go_wp2
        go_round
        case rel => exact ⟨k + 1, 10 * m + dv s[k], by omega, by go_num, by rw [← HDV.out]; go_num, by have := HDV.out; omega, HV.out⟩
        case measure => simp [intOf]; omega
    · have hv0 : s.data.toList.drop k = [] := List.drop_eq_nil_of_le (by simp; omega)
      rw [hv0] at hv
      have HV := Lib.hid hv; clear hv hv0
      go_wp2
      go_ret2
      exact ⟨by rw [← HV.out]; rfl, rfl⟩
end Go.Proofs.YthdafpbmmfelpaaGreatDoor.Dec
