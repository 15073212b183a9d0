/- The contract of decimal.Parse. -/
import Derived.Test.YthdafpbmmfelpaaGreatDoorDCut
import Derived.Test.YthdafpbmmfelpaaGreatDoorDDig
import Derived.Lib.Repeat
import Derived.Test.YthdafpbmmfelpaaGreatDoorShg
namespace Go.Proofs.YthdafpbmmfelpaaGreatDoor.Dec
open Go.ChangeShapes Go.WideShapes Go.ChangeAt Go.RowKit
set_option linter.unusedVariables false

theorem isPlaces_any (n : Int) (w : World) : Calls Tryz.prog 140 #[.int .i64 n] w fun e w' => e = .returned (.bool (plB n)) ∧ w = w' := by
  have hb : plB n = decide (0 ≤ n ∧ n ≤ 9) := rfl
  by_cases h1 : 0 ≤ n
  · by_cases h2 : n ≤ 9
    · have hp : plB n = true := by rw [hb]; simp [h1, h2]
      rw [hp]; clear hb hp
      go_enter Tryz.func140, Tryz.ntmps140
      go_wp2
      go_ret
      exact ⟨rfl, rfl⟩
    · have hp : plB n = false := by rw [hb]; simp [h2]
      rw [hp]; clear hb hp
      go_enter Tryz.func140, Tryz.ntmps140
      go_wp2
      go_ret
      exact ⟨rfl, rfl⟩
  · have hp : plB n = false := by rw [hb]; simp [h1]
    rw [hp]; clear hb hp
    go_enter Tryz.func140, Tryz.ntmps140
    go_wp2
    go_ret
    exact ⟨rfl, rfl⟩

theorem repeatL_one (c : Nat) : Lib.repeatL [48] c = List.replicate c 48 := by
  induction c with
  | zero => rfl
  | succ c ih => rw [Lib.repeatL, ih, List.replicate_succ]; rfl

theorem repeat_is (X : Int) (c : Nat) (w : World) (hX : X = c) (hc : c ≤ 1000000) :
    Calls Tryz.prog 75 #[.string ⟨#[48]⟩, .int .i64 X] w fun e w' => e = .returned (.string ⟨(List.replicate c (48 : UInt8)).toArray⟩) ∧ Below w.heap.size w w' := by
  subst hX
  have h := Tryz.strings_Repeat ⟨#[48]⟩ c w (by omega) (by show 1 * c ≤ _; omega)
  have e : (⟨#[48]⟩ : ByteArray).data.toList = [48] := rfl
  rw [e, repeatL_one] at h
  exact h

theorem trim_is (s u : ByteArray) (w : World) (hu : u = ⟨(unsg s.data.toList).toArray⟩) :
    Calls Tryz.prog 111 #[.string s, .string ⟨#[45]⟩] w fun e w' => e = .returned (.string u) ∧ w = w' := by
  have h := Tryz.strings_TrimPrefix s ⟨#[45]⟩ w
  have e : Lib.trimPrefix s.data.toList (⟨#[45]⟩ : ByteArray).data.toList = unsg s.data.toList := by
    have e2 : (⟨#[45]⟩ : ByteArray).data.toList = [45] := rfl
    rw [e2]
    cases s.data.toList with
    | nil => rfl
    | cons c r =>
      by_cases hc : (c.toNat : Int) = 45
      · have h45 : c = 45 := UInt8.toNat_inj.1 (by have : ((45 : UInt8).toNat) = 45 := rfl; omega)
        subst h45; rfl
      · have h45 : c ≠ 45 := by intro e; subst e; exact hc rfl
        unfold Lib.trimPrefix unsg
        dsimp only
        rw [if_neg hc, if_neg]
        simp [Lib.hasPrefix]; exact fun e => h45 e.symm
  rw [e, ← hu] at h
  exact h.mono fun e w' ⟨h1, h2⟩ => ⟨h1, h2.symm⟩

theorem cat_data (a b : ByteArray) : (a ++ b).data.toList = a.data.toList ++ b.data.toList := by simp

theorem value_none (s : ByteArray) (w : World) (hs : s.size ≤ 1000) (hd : adB s.data.toList = true) (hv : valL 0 s.data.toList = none) :
    Calls Tryz.prog 144 #[.string s] w fun e w' => e = .returned (.tuple #[.int .i64 0, .bool false]) ∧ w = w' := by
  have h := value_any s w hs hd
  rw [hv] at h; exact h
theorem value_some (s : ByteArray) (n : Nat) (w : World) (hs : s.size ≤ 1000) (hd : adB s.data.toList = true) (hv : valL 0 s.data.toList = some n) :
    Calls Tryz.prog 144 #[.string s] w fun e w' => e = .returned (.tuple #[.int .i64 n, .bool true]) ∧ w = w' := by
  have h := value_any s w hs hd
  rw [hv] at h; exact h

def ParRet (r : Int × Int) (w : World) (e : Ending) (w' : World) : Prop := e = .returned (.tuple #[.int .i64 r.1, .int .i64 r.2]) ∧ Below w.heap.size w w'

theorem parse_range (s : ByteArray) (k : Int) (w : World) (hk : plB k = false) :
    Calls Tryz.prog 112 #[.string s, .int .i64 k] w fun e w' => e = .returned (.tuple #[.int .i64 0, .int .i64 2]) ∧ w = w' := by
  go_enter Tryz.func112, Tryz.ntmps112
  go_wp2_with (go_at_call 140; refine (isPlaces_any _ _).mono ?_; rintro e w' ⟨rfl, rfl⟩)
  go_ret2
  exact ⟨rfl, rfl⟩

theorem parse_bad_f (s : ByteArray) (k : Nat) (u wq p : ByteArray) (w : World) (hk : k ≤ 9) (hs : s.size ≤ 1000) (hu : u = ⟨(unsg s.data.toList).toArray⟩) (hq : wq.size ≤ 1000) (hpz : p.size ≤ 1000) (hc : ∀ W : World, Calls Tryz.prog 141 #[.string u, .string ⟨#[46]⟩] W fun e w' => e = .returned (.tuple #[.string wq, .string p, .bool false]) ∧ ∃ n, w' = W.drewN n) (hw : wholeB wq.data.toList = false) :
    Calls Tryz.prog 112 #[.string s, .int .i64 k] w (ParRet (0, 7) w) := by
  have hpl : plB k = true := plB_iff.2 ⟨by omega, by omega⟩
  have HU := Lib.hid hu; have HC := Lib.hid hc; clear hu hc
  have hm : Hid (wq.size ≤ maxLen) := by show wq.size ≤ maxLen; unfold maxLen; omega
  have hm2 : Hid (p.size ≤ maxLen) := by show p.size ≤ maxLen; unfold maxLen; omega
  go_enter Tryz.func112, Tryz.ntmps112
  go_wp2_with (first | (go_at_call 140; refine (isPlaces_any _ _).mono ?_; rintro e w' ⟨rfl, rfl⟩) | (go_at_call 111; refine (trim_is _ u _ HU.out).mono ?_; rintro e w' ⟨rfl, rfl⟩) | (go_at_call 141; refine (HC.out _).mono ?_; rintro e w' ⟨rfl, n, rfl⟩) | (go_at_call 142; refine (isWhole_any _ _ hm.out).mono ?_; rintro e w' ⟨rfl, rfl⟩) | (go_at_call 143; refine (isDigits_any _ _ hm2.out).mono ?_; rintro e w' ⟨rfl, rfl⟩))
  go_ret2
  exact ⟨rfl, below_drewN (Below.refl _ _) _⟩

theorem parse_bad_t (s : ByteArray) (k : Nat) (u wq p : ByteArray) (w : World) (hk : k ≤ 9) (hs : s.size ≤ 1000) (hu : u = ⟨(unsg s.data.toList).toArray⟩) (hq : wq.size ≤ 1000) (hpz : p.size ≤ 1000) (hc : ∀ W : World, Calls Tryz.prog 141 #[.string u, .string ⟨#[46]⟩] W fun e w' => e = .returned (.tuple #[.string wq, .string p, .bool true]) ∧ ∃ n, w' = W.drewN n) (hw : wholeB wq.data.toList = false) :
    Calls Tryz.prog 112 #[.string s, .int .i64 k] w (ParRet (0, 7) w) := by
  have hpl : plB k = true := plB_iff.2 ⟨by omega, by omega⟩
  have HU := Lib.hid hu; have HC := Lib.hid hc; clear hu hc
  have hm : Hid (wq.size ≤ maxLen) := by show wq.size ≤ maxLen; unfold maxLen; omega
  have hm2 : Hid (p.size ≤ maxLen) := by show p.size ≤ maxLen; unfold maxLen; omega
  go_enter Tryz.func112, Tryz.ntmps112
  go_wp2_with (first | (go_at_call 140; refine (isPlaces_any _ _).mono ?_; rintro e w' ⟨rfl, rfl⟩) | (go_at_call 111; refine (trim_is _ u _ HU.out).mono ?_; rintro e w' ⟨rfl, rfl⟩) | (go_at_call 141; refine (HC.out _).mono ?_; rintro e w' ⟨rfl, n, rfl⟩) | (go_at_call 142; refine (isWhole_any _ _ hm.out).mono ?_; rintro e w' ⟨rfl, rfl⟩) | (go_at_call 143; refine (isDigits_any _ _ hm2.out).mono ?_; rintro e w' ⟨rfl, rfl⟩))
  go_ret2
  exact ⟨rfl, below_drewN (Below.refl _ _) _⟩

theorem parse_empty (s : ByteArray) (k : Nat) (u wq p : ByteArray) (w : World) (hk : k ≤ 9) (hs : s.size ≤ 1000) (hu : u = ⟨(unsg s.data.toList).toArray⟩) (hq : wq.size ≤ 1000) (hpz : p.size ≤ 1000) (hc : ∀ W : World, Calls Tryz.prog 141 #[.string u, .string ⟨#[46]⟩] W fun e w' => e = .returned (.tuple #[.string wq, .string p, .bool true]) ∧ ∃ n, w' = W.drewN n) (hw : wholeB wq.data.toList = true) (hp0 : p.size = 0) :
    Calls Tryz.prog 112 #[.string s, .int .i64 k] w (ParRet (0, 7) w) := by
  have hpl : plB k = true := plB_iff.2 ⟨by omega, by omega⟩
  have HU := Lib.hid hu; have HC := Lib.hid hc; clear hu hc
  have hm : Hid (wq.size ≤ maxLen) := by show wq.size ≤ maxLen; unfold maxLen; omega
  have hm2 : Hid (p.size ≤ maxLen) := by show p.size ≤ maxLen; unfold maxLen; omega
  have t1 : ((p.size : Int) == 0) = true := by simp [hp0]
  clear hp0
  go_enter Tryz.func112, Tryz.ntmps112
  go_wp2_with (first | (go_at_call 140; refine (isPlaces_any _ _).mono ?_; rintro e w' ⟨rfl, rfl⟩) | (go_at_call 111; refine (trim_is _ u _ HU.out).mono ?_; rintro e w' ⟨rfl, rfl⟩) | (go_at_call 141; refine (HC.out _).mono ?_; rintro e w' ⟨rfl, n, rfl⟩) | (go_at_call 142; refine (isWhole_any _ _ hm.out).mono ?_; rintro e w' ⟨rfl, rfl⟩) | (go_at_call 143; refine (isDigits_any _ _ hm2.out).mono ?_; rintro e w' ⟨rfl, rfl⟩))
  go_ret2
  exact ⟨rfl, below_drewN (Below.refl _ _) _⟩

theorem parse_long (s : ByteArray) (k : Nat) (u wq p : ByteArray) (w : World) (hk : k ≤ 9) (hs : s.size ≤ 1000) (hu : u = ⟨(unsg s.data.toList).toArray⟩) (hq : wq.size ≤ 1000) (hpz : p.size ≤ 1000) (hc : ∀ W : World, Calls Tryz.prog 141 #[.string u, .string ⟨#[46]⟩] W fun e w' => e = .returned (.tuple #[.string wq, .string p, .bool true]) ∧ ∃ n, w' = W.drewN n) (hw : wholeB wq.data.toList = true) (hp0 : k < p.size) :
    Calls Tryz.prog 112 #[.string s, .int .i64 k] w (ParRet (0, 7) w) := by
  have hpl : plB k = true := plB_iff.2 ⟨by omega, by omega⟩
  have HU := Lib.hid hu; have HC := Lib.hid hc; clear hu hc
  have hm : Hid (wq.size ≤ maxLen) := by show wq.size ≤ maxLen; unfold maxLen; omega
  have hm2 : Hid (p.size ≤ maxLen) := by show p.size ≤ maxLen; unfold maxLen; omega
  have t1 : ((p.size : Int) == 0) = false := by rw [beq_eq_false_iff_ne]; omega
  have t2 : (k : Int) < (p.size : Int) := by omega
  go_enter Tryz.func112, Tryz.ntmps112
  go_wp2_with (first | (go_at_call 140; refine (isPlaces_any _ _).mono ?_; rintro e w' ⟨rfl, rfl⟩) | (go_at_call 111; refine (trim_is _ u _ HU.out).mono ?_; rintro e w' ⟨rfl, rfl⟩) | (go_at_call 141; refine (HC.out _).mono ?_; rintro e w' ⟨rfl, n, rfl⟩) | (go_at_call 142; refine (isWhole_any _ _ hm.out).mono ?_; rintro e w' ⟨rfl, rfl⟩) | (go_at_call 143; refine (isDigits_any _ _ hm2.out).mono ?_; rintro e w' ⟨rfl, rfl⟩))
  go_ret2
  exact ⟨rfl, below_drewN (Below.refl _ _) _⟩

theorem parse_nodig (s : ByteArray) (k : Nat) (u wq p : ByteArray) (w : World) (hk : k ≤ 9) (hs : s.size ≤ 1000) (hu : u = ⟨(unsg s.data.toList).toArray⟩) (hq : wq.size ≤ 1000) (hpz : p.size ≤ 1000) (hc : ∀ W : World, Calls Tryz.prog 141 #[.string u, .string ⟨#[46]⟩] W fun e w' => e = .returned (.tuple #[.string wq, .string p, .bool true]) ∧ ∃ n, w' = W.drewN n) (hw : wholeB wq.data.toList = true) (hp0 : 0 < p.size) (hpk : p.size ≤ k) (hd : adB p.data.toList = false) :
    Calls Tryz.prog 112 #[.string s, .int .i64 k] w (ParRet (0, 7) w) := by
  have hpl : plB k = true := plB_iff.2 ⟨by omega, by omega⟩
  have HU := Lib.hid hu; have HC := Lib.hid hc; clear hu hc
  have hm : Hid (wq.size ≤ maxLen) := by show wq.size ≤ maxLen; unfold maxLen; omega
  have hm2 : Hid (p.size ≤ maxLen) := by show p.size ≤ maxLen; unfold maxLen; omega
  have t1 : ((p.size : Int) == 0) = false := by rw [beq_eq_false_iff_ne]; omega
  have t2 : ¬ (k : Int) < (p.size : Int) := by omega
  go_enter Tryz.func112, Tryz.ntmps112
  go_wp2_with (first | (go_at_call 140; refine (isPlaces_any _ _).mono ?_; rintro e w' ⟨rfl, rfl⟩) | (go_at_call 111; refine (trim_is _ u _ HU.out).mono ?_; rintro e w' ⟨rfl, rfl⟩) | (go_at_call 141; refine (HC.out _).mono ?_; rintro e w' ⟨rfl, n, rfl⟩) | (go_at_call 142; refine (isWhole_any _ _ hm.out).mono ?_; rintro e w' ⟨rfl, rfl⟩) | (go_at_call 143; refine (isDigits_any _ _ hm2.out).mono ?_; rintro e w' ⟨rfl, rfl⟩))
  go_ret2
  exact ⟨rfl, below_drewN (Below.refl _ _) _⟩

theorem repeat_is2 (X : Int) (c : Nat) (z : ByteArray) (w : World) (hX : X = c) (hc : c ≤ 1000000) (hz : z = ⟨(List.replicate c (48 : UInt8)).toArray⟩) :
    Calls Tryz.prog 75 #[.string ⟨#[48]⟩, .int .i64 X] w fun e w' => e = .returned (.string z) ∧ Below w.heap.size w w' := by
  subst hz; exact repeat_is X c w hX hc

theorem parse_big_f (s : ByteArray) (k c : Nat) (u wq p z : ByteArray) (w : World) (hk : k ≤ 9) (hs : s.size ≤ 1000) (hu : u = ⟨(unsg s.data.toList).toArray⟩) (hq : wq.size ≤ 900) (hpz : p.size ≤ 9) (hcz : c ≤ 9) (hkc : k = p.size + c) (hz : z = ⟨(List.replicate c (48 : UInt8)).toArray⟩) (hw : wholeB wq.data.toList = true) (hc : ∀ W : World, Calls Tryz.prog 141 #[.string u, .string ⟨#[46]⟩] W fun e w' => e = .returned (.tuple #[.string wq, .string p, .bool false]) ∧ ∃ n, w' = W.drewN n)
    (ha : adB (wq ++ p ++ z).data.toList = true) (hv : valL 0 (wq ++ p ++ z).data.toList = none) :
    Calls Tryz.prog 112 #[.string s, .int .i64 k] w (ParRet (0, 5) w) := by
  have hpl : plB k = true := plB_iff.2 ⟨by omega, by omega⟩
  have hzz : z.size = c := by rw [hz]; simp [ByteArray.size]
  have hzs : z.size ≤ 9 := by omega
  have HU := Lib.hid hu; have HC := Lib.hid hc; have HZ := Lib.hid hz; clear hu hc hz
  have hm : Hid (wq.size ≤ maxLen) := by show wq.size ≤ maxLen; unfold maxLen; omega
  have hm2 : Hid (p.size ≤ maxLen) := by show p.size ≤ maxLen; unfold maxLen; omega
  have hal : Hid ((wq ++ p ++ z).size ≤ 1000) := by show (wq ++ p ++ z).size ≤ 1000; simp; omega
  have HA := Lib.hid ha; have HV := Lib.hid hv; clear ha hv
  have HKC := Lib.hid hkc; have hkl : p.size ≤ k := by omega
  have HX : Hid ((k : Int) - p.size = c) := by show (k : Int) - p.size = c; omega
  clear hkc hzz
  go_enter Tryz.func112, Tryz.ntmps112
  go_wp2_with (first | (go_at_call 140; refine (isPlaces_any _ _).mono ?_; rintro e w' ⟨rfl, rfl⟩) | (go_at_call 111; refine (trim_is _ u _ HU.out).mono ?_; rintro e w' ⟨rfl, rfl⟩) | (go_at_call 141; refine (HC.out _).mono ?_; rintro e w' ⟨rfl, n, rfl⟩) | (go_at_call 142; refine (isWhole_any _ _ hm.out).mono ?_; rintro e w' ⟨rfl, rfl⟩) | (go_at_call 143; refine (isDigits_any _ _ hm2.out).mono ?_; rintro e w' ⟨rfl, rfl⟩) | (go_at_call 75; refine (repeat_is2 _ c z _ HX.out (by omega) HZ.out).mono ?_; rintro e w1 ⟨rfl, hb⟩) | (go_at_call 144; refine (value_none _ _ hal.out HA.out HV.out).mono ?_; rintro e w' ⟨rfl, rfl⟩))
  go_ret2
  exact ⟨rfl, (below_drewN (Below.refl _ _) _).trans hb⟩

theorem parse_big_t (s : ByteArray) (k c : Nat) (u wq p z : ByteArray) (w : World) (hk : k ≤ 9) (hs : s.size ≤ 1000) (hu : u = ⟨(unsg s.data.toList).toArray⟩) (hq : wq.size ≤ 900) (hpz : p.size ≤ 9) (hcz : c ≤ 9) (hkc : k = p.size + c) (hz : z = ⟨(List.replicate c (48 : UInt8)).toArray⟩) (hw : wholeB wq.data.toList = true) (hc : ∀ W : World, Calls Tryz.prog 141 #[.string u, .string ⟨#[46]⟩] W fun e w' => e = .returned (.tuple #[.string wq, .string p, .bool true]) ∧ ∃ n, w' = W.drewN n)
    (ha : adB (wq ++ p ++ z).data.toList = true) (hv : valL 0 (wq ++ p ++ z).data.toList = none) (hp0 : 0 < p.size) (hd : adB p.data.toList = true) :
    Calls Tryz.prog 112 #[.string s, .int .i64 k] w (ParRet (0, 5) w) := by
  have hpl : plB k = true := plB_iff.2 ⟨by omega, by omega⟩
  have hzz : z.size = c := by rw [hz]; simp [ByteArray.size]
  have hzs : z.size ≤ 9 := by omega
  have HU := Lib.hid hu; have HC := Lib.hid hc; have HZ := Lib.hid hz; clear hu hc hz
  have hm : Hid (wq.size ≤ maxLen) := by show wq.size ≤ maxLen; unfold maxLen; omega
  have hm2 : Hid (p.size ≤ maxLen) := by show p.size ≤ maxLen; unfold maxLen; omega
  have hal : Hid ((wq ++ p ++ z).size ≤ 1000) := by show (wq ++ p ++ z).size ≤ 1000; simp; omega
  have HA := Lib.hid ha; have HV := Lib.hid hv; clear ha hv
  have HKC := Lib.hid hkc; have hkl : p.size ≤ k := by omega
  have HX : Hid ((k : Int) - p.size = c) := by show (k : Int) - p.size = c; omega
  clear hkc hzz
  have t1 : ((p.size : Int) == 0) = false := by rw [beq_eq_false_iff_ne]; omega
  have t2 : ¬ (k : Int) < (p.size : Int) := by omega
  go_enter Tryz.func112, Tryz.ntmps112
  go_wp2_with (first | (go_at_call 140; refine (isPlaces_any _ _).mono ?_; rintro e w' ⟨rfl, rfl⟩) | (go_at_call 111; refine (trim_is _ u _ HU.out).mono ?_; rintro e w' ⟨rfl, rfl⟩) | (go_at_call 141; refine (HC.out _).mono ?_; rintro e w' ⟨rfl, n, rfl⟩) | (go_at_call 142; refine (isWhole_any _ _ hm.out).mono ?_; rintro e w' ⟨rfl, rfl⟩) | (go_at_call 143; refine (isDigits_any _ _ hm2.out).mono ?_; rintro e w' ⟨rfl, rfl⟩) | (go_at_call 75; refine (repeat_is2 _ c z _ HX.out (by omega) HZ.out).mono ?_; rintro e w1 ⟨rfl, hb⟩) | (go_at_call 144; refine (value_none _ _ hal.out HA.out HV.out).mono ?_; rintro e w' ⟨rfl, rfl⟩))
  go_ret2
  exact ⟨rfl, (below_drewN (Below.refl _ _) _).trans hb⟩

theorem parse_pos_f (s : ByteArray) (k c : Nat) (u wq p z : ByteArray) (w : World) (hk : k ≤ 9) (hs : s.size ≤ 1000) (hu : u = ⟨(unsg s.data.toList).toArray⟩) (hq : wq.size ≤ 900) (hpz : p.size ≤ 9) (hcz : c ≤ 9) (hkc : k = p.size + c) (hz : z = ⟨(List.replicate c (48 : UInt8)).toArray⟩) (hw : wholeB wq.data.toList = true) (hc : ∀ W : World, Calls Tryz.prog 141 #[.string u, .string ⟨#[46]⟩] W fun e w' => e = .returned (.tuple #[.string wq, .string p, .bool false]) ∧ ∃ n, w' = W.drewN n)
    (ha : adB (wq ++ p ++ z).data.toList = true) (nv : Nat) (hv : valL 0 (wq ++ p ++ z).data.toList = some nv) (hnb : nv ≤ 1152921504606846976) (hus : u.size = s.size) :
    Calls Tryz.prog 112 #[.string s, .int .i64 k] w (ParRet ((nv : Int), 0) w) := by
  have hpl : plB k = true := plB_iff.2 ⟨by omega, by omega⟩
  have hzz : z.size = c := by rw [hz]; simp [ByteArray.size]
  have hzs : z.size ≤ 9 := by omega
  have HU := Lib.hid hu; have HC := Lib.hid hc; have HZ := Lib.hid hz; clear hu hc hz
  have hm : Hid (wq.size ≤ maxLen) := by show wq.size ≤ maxLen; unfold maxLen; omega
  have hm2 : Hid (p.size ≤ maxLen) := by show p.size ≤ maxLen; unfold maxLen; omega
  have hal : Hid ((wq ++ p ++ z).size ≤ 1000) := by show (wq ++ p ++ z).size ≤ 1000; simp; omega
  have HA := Lib.hid ha; have HV := Lib.hid hv; clear ha hv
  have HKC := Lib.hid hkc; have hkl : p.size ≤ k := by omega
  have HX : Hid ((k : Int) - p.size = c) := by show (k : Int) - p.size = c; omega
  clear hkc hzz
  have t3 : ¬ (u.size : Int) < (s.size : Int) := by omega
  clear hus
  go_enter Tryz.func112, Tryz.ntmps112
  go_wp2_with (first | (go_at_call 140; refine (isPlaces_any _ _).mono ?_; rintro e w' ⟨rfl, rfl⟩) | (go_at_call 111; refine (trim_is _ u _ HU.out).mono ?_; rintro e w' ⟨rfl, rfl⟩) | (go_at_call 141; refine (HC.out _).mono ?_; rintro e w' ⟨rfl, n, rfl⟩) | (go_at_call 142; refine (isWhole_any _ _ hm.out).mono ?_; rintro e w' ⟨rfl, rfl⟩) | (go_at_call 143; refine (isDigits_any _ _ hm2.out).mono ?_; rintro e w' ⟨rfl, rfl⟩) | (go_at_call 75; refine (repeat_is2 _ c z _ HX.out (by omega) HZ.out).mono ?_; rintro e w1 ⟨rfl, hb⟩) | (go_at_call 144; refine (value_some _ nv _ hal.out HA.out HV.out).mono ?_; rintro e w' ⟨rfl, rfl⟩))
  go_ret2
  exact ⟨rfl, (below_drewN (Below.refl _ _) _).trans hb⟩

theorem parse_neg_f (s : ByteArray) (k c : Nat) (u wq p z : ByteArray) (w : World) (hk : k ≤ 9) (hs : s.size ≤ 1000) (hu : u = ⟨(unsg s.data.toList).toArray⟩) (hq : wq.size ≤ 900) (hpz : p.size ≤ 9) (hcz : c ≤ 9) (hkc : k = p.size + c) (hz : z = ⟨(List.replicate c (48 : UInt8)).toArray⟩) (hw : wholeB wq.data.toList = true) (hc : ∀ W : World, Calls Tryz.prog 141 #[.string u, .string ⟨#[46]⟩] W fun e w' => e = .returned (.tuple #[.string wq, .string p, .bool false]) ∧ ∃ n, w' = W.drewN n)
    (ha : adB (wq ++ p ++ z).data.toList = true) (nv : Nat) (hv : valL 0 (wq ++ p ++ z).data.toList = some nv) (hnb : nv ≤ 1152921504606846976) (hus : u.size < s.size) :
    Calls Tryz.prog 112 #[.string s, .int .i64 k] w (ParRet (-(nv : Int), 0) w) := by
  have hpl : plB k = true := plB_iff.2 ⟨by omega, by omega⟩
  have hzz : z.size = c := by rw [hz]; simp [ByteArray.size]
  have hzs : z.size ≤ 9 := by omega
  have HU := Lib.hid hu; have HC := Lib.hid hc; have HZ := Lib.hid hz; clear hu hc hz
  have hm : Hid (wq.size ≤ maxLen) := by show wq.size ≤ maxLen; unfold maxLen; omega
  have hm2 : Hid (p.size ≤ maxLen) := by show p.size ≤ maxLen; unfold maxLen; omega
  have hal : Hid ((wq ++ p ++ z).size ≤ 1000) := by show (wq ++ p ++ z).size ≤ 1000; simp; omega
  have HA := Lib.hid ha; have HV := Lib.hid hv; clear ha hv
  have HKC := Lib.hid hkc; have hkl : p.size ≤ k := by omega
  have HX : Hid ((k : Int) - p.size = c) := by show (k : Int) - p.size = c; omega
  clear hkc hzz
  have t3 : (u.size : Int) < (s.size : Int) := by omega
  go_enter Tryz.func112, Tryz.ntmps112
  go_wp2_with (first | (go_at_call 140; refine (isPlaces_any _ _).mono ?_; rintro e w' ⟨rfl, rfl⟩) | (go_at_call 111; refine (trim_is _ u _ HU.out).mono ?_; rintro e w' ⟨rfl, rfl⟩) | (go_at_call 141; refine (HC.out _).mono ?_; rintro e w' ⟨rfl, n, rfl⟩) | (go_at_call 142; refine (isWhole_any _ _ hm.out).mono ?_; rintro e w' ⟨rfl, rfl⟩) | (go_at_call 143; refine (isDigits_any _ _ hm2.out).mono ?_; rintro e w' ⟨rfl, rfl⟩) | (go_at_call 75; refine (repeat_is2 _ c z _ HX.out (by omega) HZ.out).mono ?_; rintro e w1 ⟨rfl, hb⟩) | (go_at_call 144; refine (value_some _ nv _ hal.out HA.out HV.out).mono ?_; rintro e w' ⟨rfl, rfl⟩))
  go_ret2
  exact ⟨rfl, (below_drewN (Below.refl _ _) _).trans hb⟩

theorem parse_pos_t (s : ByteArray) (k c : Nat) (u wq p z : ByteArray) (w : World) (hk : k ≤ 9) (hs : s.size ≤ 1000) (hu : u = ⟨(unsg s.data.toList).toArray⟩) (hq : wq.size ≤ 900) (hpz : p.size ≤ 9) (hcz : c ≤ 9) (hkc : k = p.size + c) (hz : z = ⟨(List.replicate c (48 : UInt8)).toArray⟩) (hw : wholeB wq.data.toList = true) (hc : ∀ W : World, Calls Tryz.prog 141 #[.string u, .string ⟨#[46]⟩] W fun e w' => e = .returned (.tuple #[.string wq, .string p, .bool true]) ∧ ∃ n, w' = W.drewN n)
    (ha : adB (wq ++ p ++ z).data.toList = true) (nv : Nat) (hv : valL 0 (wq ++ p ++ z).data.toList = some nv) (hnb : nv ≤ 1152921504606846976) (hp0 : 0 < p.size) (hd : adB p.data.toList = true) (hus : u.size = s.size) :
    Calls Tryz.prog 112 #[.string s, .int .i64 k] w (ParRet ((nv : Int), 0) w) := by
  have hpl : plB k = true := plB_iff.2 ⟨by omega, by omega⟩
  have hzz : z.size = c := by rw [hz]; simp [ByteArray.size]
  have hzs : z.size ≤ 9 := by omega
  have HU := Lib.hid hu; have HC := Lib.hid hc; have HZ := Lib.hid hz; clear hu hc hz
  have hm : Hid (wq.size ≤ maxLen) := by show wq.size ≤ maxLen; unfold maxLen; omega
  have hm2 : Hid (p.size ≤ maxLen) := by show p.size ≤ maxLen; unfold maxLen; omega
  have hal : Hid ((wq ++ p ++ z).size ≤ 1000) := by show (wq ++ p ++ z).size ≤ 1000; simp; omega
  have HA := Lib.hid ha; have HV := Lib.hid hv; clear ha hv
  have HKC := Lib.hid hkc; have hkl : p.size ≤ k := by omega
  have HX : Hid ((k : Int) - p.size = c) := by show (k : Int) - p.size = c; omega
  clear hkc hzz
  have t1 : ((p.size : Int) == 0) = false := by rw [beq_eq_false_iff_ne]; omega
  have t2 : ¬ (k : Int) < (p.size : Int) := by omega
  have t3 : ¬ (u.size : Int) < (s.size : Int) := by omega
  clear hus
  go_enter Tryz.func112, Tryz.ntmps112
  go_wp2_with (first | (go_at_call 140; refine (isPlaces_any _ _).mono ?_; rintro e w' ⟨rfl, rfl⟩) | (go_at_call 111; refine (trim_is _ u _ HU.out).mono ?_; rintro e w' ⟨rfl, rfl⟩) | (go_at_call 141; refine (HC.out _).mono ?_; rintro e w' ⟨rfl, n, rfl⟩) | (go_at_call 142; refine (isWhole_any _ _ hm.out).mono ?_; rintro e w' ⟨rfl, rfl⟩) | (go_at_call 143; refine (isDigits_any _ _ hm2.out).mono ?_; rintro e w' ⟨rfl, rfl⟩) | (go_at_call 75; refine (repeat_is2 _ c z _ HX.out (by omega) HZ.out).mono ?_; rintro e w1 ⟨rfl, hb⟩) | (go_at_call 144; refine (value_some _ nv _ hal.out HA.out HV.out).mono ?_; rintro e w' ⟨rfl, rfl⟩))
  go_ret2
  exact ⟨rfl, (below_drewN (Below.refl _ _) _).trans hb⟩

theorem parse_neg_t (s : ByteArray) (k c : Nat) (u wq p z : ByteArray) (w : World) (hk : k ≤ 9) (hs : s.size ≤ 1000) (hu : u = ⟨(unsg s.data.toList).toArray⟩) (hq : wq.size ≤ 900) (hpz : p.size ≤ 9) (hcz : c ≤ 9) (hkc : k = p.size + c) (hz : z = ⟨(List.replicate c (48 : UInt8)).toArray⟩) (hw : wholeB wq.data.toList = true) (hc : ∀ W : World, Calls Tryz.prog 141 #[.string u, .string ⟨#[46]⟩] W fun e w' => e = .returned (.tuple #[.string wq, .string p, .bool true]) ∧ ∃ n, w' = W.drewN n)
    (ha : adB (wq ++ p ++ z).data.toList = true) (nv : Nat) (hv : valL 0 (wq ++ p ++ z).data.toList = some nv) (hnb : nv ≤ 1152921504606846976) (hp0 : 0 < p.size) (hd : adB p.data.toList = true) (hus : u.size < s.size) :
    Calls Tryz.prog 112 #[.string s, .int .i64 k] w (ParRet (-(nv : Int), 0) w) := by
  have hpl : plB k = true := plB_iff.2 ⟨by omega, by omega⟩
  have hzz : z.size = c := by rw [hz]; simp [ByteArray.size]
  have hzs : z.size ≤ 9 := by omega
  have HU := Lib.hid hu; have HC := Lib.hid hc; have HZ := Lib.hid hz; clear hu hc hz
  have hm : Hid (wq.size ≤ maxLen) := by show wq.size ≤ maxLen; unfold maxLen; omega
  have hm2 : Hid (p.size ≤ maxLen) := by show p.size ≤ maxLen; unfold maxLen; omega
  have hal : Hid ((wq ++ p ++ z).size ≤ 1000) := by show (wq ++ p ++ z).size ≤ 1000; simp; omega
  have HA := Lib.hid ha; have HV := Lib.hid hv; clear ha hv
  have HKC := Lib.hid hkc; have hkl : p.size ≤ k := by omega
  have HX : Hid ((k : Int) - p.size = c) := by show (k : Int) - p.size = c; omega
  clear hkc hzz
  have t1 : ((p.size : Int) == 0) = false := by rw [beq_eq_false_iff_ne]; omega
  have t2 : ¬ (k : Int) < (p.size : Int) := by omega
  have t3 : (u.size : Int) < (s.size : Int) := by omega
  go_enter Tryz.func112, Tryz.ntmps112
  go_wp2_with (first | (go_at_call 140; refine (isPlaces_any _ _).mono ?_; rintro e w' ⟨rfl, rfl⟩) | (go_at_call 111; refine (trim_is _ u _ HU.out).mono ?_; rintro e w' ⟨rfl, rfl⟩) | (go_at_call 141; refine (HC.out _).mono ?_; rintro e w' ⟨rfl, n, rfl⟩) | (go_at_call 142; refine (isWhole_any _ _ hm.out).mono ?_; rintro e w' ⟨rfl, rfl⟩) | (go_at_call 143; refine (isDigits_any _ _ hm2.out).mono ?_; rintro e w' ⟨rfl, rfl⟩) | (go_at_call 75; refine (repeat_is2 _ c z _ HX.out (by omega) HZ.out).mono ?_; rintro e w1 ⟨rfl, hb⟩) | (go_at_call 144; refine (value_some _ nv _ hal.out HA.out HV.out).mono ?_; rintro e w' ⟨rfl, rfl⟩))
  go_ret2
  exact ⟨rfl, (below_drewN (Below.refl _ _) _).trans hb⟩

end Go.Proofs.YthdafpbmmfelpaaGreatDoor.Dec
