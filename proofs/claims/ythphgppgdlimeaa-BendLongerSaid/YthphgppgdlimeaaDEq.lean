/- IsName of both. -/
import Derived.Test.YthphgppgdlimeaaDFst
namespace Go.Proofs.Ythphgppgdlimeaa.Dec
open Go.ChangeShapes Go.WideShapes Go.ChangeAt Go.RowKit
set_option linter.unusedVariables false

def firstC (k : Cls) (c : UInt8) (r : List UInt8) : Int × Nat :=
  match k with
  | .blank => (0, 1)
  | .hash => (0, cnt noNl (c :: r))
  | .nl => (4, 1)
  | .dig => (2, numL (c :: r))
  | .cmp => (3, if nextEq r = true then 2 else 1)
  | .sym => (3, 1)
  | .let_ => if 20 < cnt wdB (c :: r) then (-1, 0) else (1, cnt wdB (c :: r))
  | .bad => (-1, 0)

theorem firstL_at (s : ByteArray) (k : Nat) (h : k < s.size) : firstL (s.data.toList.drop k) = match cls ((s[k].toNat : Nat) : Int) with
    | .blank => (0, 1) | .hash => (0, cnt noNl (s.data.toList.drop k)) | .nl => (4, 1) | .dig => (2, numL (s.data.toList.drop k))
    | .cmp => (3, if nextEq (s.data.toList.drop (k + 1)) = true then 2 else 1) | .sym => (3, 1)
    | .let_ => if 20 < cnt wdB (s.data.toList.drop k) then (-1, 0) else (1, cnt wdB (s.data.toList.drop k)) | .bad => (-1, 0) := by
  have e := drop_at s k h
  generalize s.data.toList.drop (k + 1) = r at e
  rw [e]
  rfl

theorem word_is (s : ByteArray) (k0 q : Nat) (w : World) (hs : s.size ≤ maxLen) (h1 : k0 ≤ s.size) (hq : scan wdB s k0 = q) :
    Calls Try.prog 63 #[.string s, .int .i64 k0] w fun e w' => e = .returned (.int .i64 q) ∧ w = w' := by
  have h := word_any s k0 w hs (by omega) (by omega)
  rw [Int.toNat_natCast, hq] at h; exact h
theorem first_is (s : ByteArray) (w : World) (k : Int) (z : Nat) (hs : s.size ≤ maxLen) (h0 : 0 < s.size) (hk : firstL s.data.toList = (k, z)) :
    Calls Try.prog 70 #[.string s] w fun e w' => e = .returned (.tuple #[.int .i64 k, .int .i64 z]) ∧ w = w' := by
  have h := first_any s w hs h0
  rw [hk] at h; exact h

def nameB (l : List UInt8) : Bool := !l.isEmpty && ((firstL l).1 == 1) && ((firstL l).2 == l.length)

theorem firstL_one {c : UInt8} {r : List UInt8} (h : (firstL (c :: r)).1 = 1) : (97 ≤ (c.toNat : Int) ∧ (c.toNat : Int) ≤ 122) ∨ (65 ≤ (c.toNat : Int) ∧ (c.toNat : Int) ≤ 90) := by
  have e : firstL (c :: r) = firstC (cls (c.toNat : Int)) c r := rfl
  rw [e] at h
  cases hk : cls (c.toNat : Int) <;> rw [hk] at h <;> simp only [firstC] at h
  case let_ =>
    unfold cls at hk; repeat' split at hk
    all_goals first | assumption | contradiction
  all_goals first | (exact absurd h (by decide)) | (split at h <;> exact absurd h (by decide))

theorem nonempty {s : ByteArray} (h0 : 0 < s.size) : s.data.toList.isEmpty = false := by
  have hz : s.data.toList.length = s.size := by simp
  cases he : s.data.toList with
  | nil => rw [he] at hz; simp at hz; omega
  | cons c r => rfl

theorem isName_any (s : ByteArray) (w : World) (hs : s.size ≤ maxLen) : Calls Try.prog 60 #[.string s] w fun e w' => e = .returned (.bool (nameB s.data.toList)) ∧ w = w' := by
  have hm := Lib.hid hs
  have hz : s.data.toList.length = s.size := by simp
  unfold maxLen at hs
  by_cases h0 : 0 < s.size
  · have hne := nonempty h0
    obtain ⟨k, z, hkz⟩ : ∃ k z, firstL s.data.toList = (k, z) := ⟨_, _, rfl⟩
    have hb : nameB s.data.toList = ((k == 1) && ((z : Int) == (s.size : Int))) := by
      unfold nameB; rw [hne, hkz, hz]; simp only [Bool.not_false, Bool.true_and]
      congr 1; rw [Bool.eq_iff_iff]; simp; omega
    rw [hb]
    have u2 : s.toList.isEmpty = false := by rw [Lib.toList_data]; exact hne
    have HK := Lib.hid hkz; clear hb hkz hne hz
    cases hk1 : (k == 1)
    · go_enter Try.func60, Try.ntmps60
      go_wp2_with (go_at_call 70; refine (first_is _ _ k z hm.out h0 HK.out).mono ?_; rintro e w' ⟨rfl, rfl⟩)
      go_ret
      exact ⟨rfl, rfl⟩
    · have HK1 := Lib.hid (eq_of_beq hk1)
      go_enter Try.func60, Try.ntmps60
      go_wp2_with (go_at_call 70; refine (first_is _ _ k z hm.out h0 HK.out).mono ?_; rintro e w' ⟨rfl, rfl⟩)
      go_ret
      exact ⟨rfl, rfl⟩
  · have hne : s.data.toList = [] := List.length_eq_zero_iff.1 (by omega)
    have u2 : s.toList.isEmpty = true := by rw [Lib.toList_data, hne]; rfl
    have hb : nameB s.data.toList = false := by rw [hne]; rfl
    rw [hb]
    clear hb hne hz
    go_enter Try.func60, Try.ntmps60
    go_wp2
    go_ret
    exact ⟨rfl, rfl⟩

theorem risName_any (s : ByteArray) (w : World) (hs : s.size ≤ maxLen) : Calls Try.prog 50 #[.string s] w fun e w' => e = .returned (.bool (nameB s.data.toList)) ∧ w = w' := by
  have hm := Lib.hid hs
  have hz : s.data.toList.length = s.size := by simp
  unfold maxLen at hs
  by_cases h0 : 0 < s.size
  · have hne := nonempty h0
    have t0 : ((s.size : Int) == 0) = false := by rw [beq_eq_false_iff_ne]; omega
    have hd := drop_at s 0 h0
    rw [List.drop_zero] at hd
    have hq := cnt_drop wdB s 0
    rw [List.drop_zero, Nat.zero_add] at hq
    by_cases hl : (97 ≤ ((s[0].toNat : Nat) : Int) ∧ ((s[0].toNat : Nat) : Int) ≤ 122) ∨ (65 ≤ ((s[0].toNat : Nat) : Int) ∧ ((s[0].toNat : Nat) : Int) ≤ 90)
    · have hf := firstL_at s 0 h0
      rw [cls_let hl, List.drop_zero] at hf
      have tl : ltB (s[0].toNat : Int) = true := ltB_iff.2 hl
      obtain ⟨q, hqq⟩ : ∃ q, scan wdB s 0 = q := ⟨_, rfl⟩
      have hql := scan_le wdB s 0 (by omega)
      rw [hqq] at hql
      rw [← hq, hqq] at hf
      have hf2 : firstL s.data.toList = if 20 < q then (-1, 0) else (1, q) := hf
      clear hf
      by_cases h20 : 20 < s.size
      · have hb : nameB s.data.toList = false := by
          unfold nameB; rw [hf2, hz]
          by_cases h21 : 20 < q
          · rw [if_pos h21]
            simp
          · rw [if_neg h21]
            have : (q == s.size) = false := by rw [beq_eq_false_iff_ne]; omega
            rw [this]; simp
        rw [hb]
        have t1 : (20 : Int) < s.size := by omega
        clear hb hf2 hq hd hne hz
        go_enter Try.func50, Try.ntmps50
        go_wp2
        go_ret
        exact ⟨rfl, rfl⟩
      · have hb : nameB s.data.toList = ((q : Int) == (s.size : Int)) := by
          unfold nameB; rw [hf2, hz, hne]
          rw [if_neg (by omega)]
          simp only [Bool.not_false, Bool.true_and, beq_self_eq_true]
          rw [Bool.eq_iff_iff]; simp; omega
        rw [hb]
        have t1 : ¬ (20 : Int) < s.size := by omega
        have HQ := Lib.hid hqq
        clear hb hf2 hq hd hne hz hqq
        go_enter Try.func50, Try.ntmps50
        go_wp2_with (first | (go_at_call 62; refine (letter_any 62 (.inr rfl) _ _).mono ?_; rintro e w' ⟨rfl, rfl⟩) | (go_at_call 63; refine (word_is _ 0 q _ hm.out (by omega) HQ.out).mono ?_; rintro e w' ⟨rfl, rfl⟩))
        go_ret
        exact ⟨rfl, rfl⟩
    · have tl : ltB (s[0].toNat : Int) = false := ltB_no.2 hl
      have hb : nameB s.data.toList = false := by
        unfold nameB
        have : ((firstL s.data.toList).1 == 1) = false := by
          rw [beq_eq_false_iff_ne]; intro h
          rw [hd] at h
          exact hl (firstL_one h)
        rw [this]; simp
      rw [hb]
      clear hb hq hd hne hz
      by_cases h20 : 20 < s.size
      · have t1 : (20 : Int) < s.size := by omega
        go_enter Try.func50, Try.ntmps50
        go_wp2
        go_ret
        exact ⟨rfl, rfl⟩
      · have t1 : ¬ (20 : Int) < s.size := by omega
        go_enter Try.func50, Try.ntmps50
        go_wp2_with (first | (go_at_call 62; refine (letter_any 62 (.inr rfl) _ _).mono ?_; rintro e w' ⟨rfl, rfl⟩))
        go_ret
        exact ⟨rfl, rfl⟩
  · have hne : s.data.toList = [] := List.length_eq_zero_iff.1 (by omega)
    have t0 : ((s.size : Int) == 0) = true := beq_iff_eq.2 (by omega)
    have hb : nameB s.data.toList = false := by rw [hne]; rfl
    rw [hb]
    clear hb hne hz
    go_enter Try.func50, Try.ntmps50
    go_wp2
    go_ret
    exact ⟨rfl, rfl⟩
end Go.Proofs.Ythphgppgdlimeaa.Dec
