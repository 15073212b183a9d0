/- Contracts: what a text begins with (commentSize, first). -/
import Derived.Test.YthphgppgdlimeaaDHead
import Derived.Test.YthphgppgdlimeaaDShelf
import Derived.Lib.IndexLaws
namespace Go.Proofs.Ythphgppgdlimeaa.Dec
open Go.ChangeShapes Go.WideShapes Go.ChangeAt Go.RowKit
set_option linter.unusedVariables false

theorem indexByte_noNl : ∀ l : List UInt8, (Lib.indexByte l 10 = -1 ∧ cnt noNl l = l.length) ∨ (Lib.indexByte l 10 = cnt noNl l ∧ cnt noNl l < l.length)
  | [] => .inl ⟨rfl, rfl⟩
  | c :: r => by
    by_cases hc : c = 10
    · subst hc; exact .inr ⟨rfl, by simp [cnt, noNl]⟩
    · have h1 : noNl (c.toNat : Int) = true := by
        unfold noNl; rw [bne_iff_ne]; intro e
        exact hc (UInt8.toNat_inj.1 (by have : ((10 : UInt8).toNat) = 10 := rfl; omega))
      have h2 : (c == 10) = false := by simpa using hc
      rw [cnt_cons _ _ _ h1, Lib.indexByte, h2]
      rcases indexByte_noNl r with ⟨a, b⟩ | ⟨a, b⟩
      · left; rw [a]; simp [b]
      · right; rw [a]
        have h3 : ((cnt noNl r : Int) == -1) = false := by simp
        rw [h3]; simp; omega

theorem commentSize_any (s : ByteArray) (w : World) (hs : s.size ≤ maxLen) :
    Calls Try.prog 73 #[.string s] w fun e w' => e = .returned (.int .i64 (cnt noNl s.data.toList)) ∧ w = w' := by
  unfold maxLen at hs
  have hz : s.data.toList.length = s.size := by simp
  obtain ⟨n, hn⟩ : ∃ n, cnt noNl s.data.toList = n := ⟨_, rfl⟩
  have h := indexByte_noNl s.data.toList
  rw [hn, hz] at h
  rw [hn]
  have HN := Lib.hid hn; clear hn hz
  have H := Lib.hid h; clear h
  go_enter Try.func73, Try.ntmps73
  go_wp2_with (go_at_call 76; refine (Try.strings_IndexByte _ _ _).mono ?_; rintro e w' ⟨rfl, rfl⟩)
  · rename_i hge
    go_ret
    exact ⟨ret_one (by have h := H.out; omega), rfl⟩
  · rename_i hlt
    go_ret
    exact ⟨ret_one (by have h := H.out; omega), rfl⟩

theorem scan_cons (p : Int → Bool) (s : ByteArray) (h0 : 0 < s.size) (h : p (s[0].toNat : Int) = true) : scan p s 1 = cnt p s.data.toList := by
  have h1 := scan_yes p s 0 h0 h
  show scan p s (0 + 1) = _; rw [← h1, cnt_drop, List.drop_zero, Nat.zero_add]

theorem firstL_eq (s : ByteArray) (h0 : 0 < s.size) : firstL s.data.toList = match cls ((s[0].toNat : Nat) : Int) with
    | .blank => (0, 1) | .hash => (0, cnt noNl s.data.toList) | .nl => (4, 1) | .dig => (2, numL s.data.toList)
    | .cmp => (3, if nextEq (s.data.toList.drop 1) = true then 2 else 1) | .sym => (3, 1)
    | .let_ => if 20 < cnt wdB s.data.toList then (-1, 0) else (1, cnt wdB s.data.toList) | .bad => (-1, 0) := by
  have e := drop_at s 0 h0
  rw [List.drop_zero] at e
  rw [Nat.zero_add] at e
  generalize s.data.toList.drop 1 = r at e
  rw [e]
  rfl

theorem wordSize_is (s : ByteArray) (k : Nat) (w : World) (hs : s.size ≤ maxLen) (h0 : 0 < s.size) (hl : ltB (s[0].toNat : Int) = true) (hk : scan wdB s 1 = k) :
    Calls Try.prog 75 #[.string s] w fun e w' => e = .returned (.int .i64 k) ∧ w = w' := by
  subst hk; exact wordSize_yes s w hs h0 hl
theorem nextEq_at (s : ByteArray) (h : 1 < s.size) : nextEq (s.data.toList.drop 1) = (((s[1].toNat : Nat) : Int) == 61) := by
  rw [drop_at s 1 h]; rfl
theorem nextEq_no (s : ByteArray) (h : ¬ 1 < s.size) : nextEq (s.data.toList.drop 1) = false := by
  rw [List.drop_eq_nil_of_le (by simp; omega)]; rfl

/-- What first returns, by what the list begins with. -/
def FirstRet (r : Int × Nat) (e : Ending) : Prop := e = .returned (.tuple #[.int .i64 r.1, .int .i64 (r.2 : Int)])

set_option maxHeartbeats 1000000 in
theorem first_let (s : ByteArray) (w : World) (hs : s.size ≤ maxLen) (h0 : 0 < s.size) (hc : (97 ≤ ((s[0].toNat : Nat) : Int) ∧ ((s[0].toNat : Nat) : Int) ≤ 122) ∨ (65 ≤ ((s[0].toNat : Nat) : Int) ∧ ((s[0].toNat : Nat) : Int) ≤ 90)) :
    Calls Try.prog 70 #[.string s] w fun e w' => FirstRet (firstL s.data.toList) e ∧ w = w' := by
  have hm := Lib.hid hs
  unfold maxLen at hs
  have hf := firstL_eq s h0
  rw [cls_let hc] at hf
  have hl := scan_cons wdB s h0 (by unfold wdB; rw [ltB_iff.2 hc]; rfl)
  have hpos := scan_le wdB s 1 (by omega)
  obtain ⟨k, hk⟩ : ∃ k, cnt wdB s.data.toList = k := ⟨_, rfl⟩
  rw [hk] at hf hl
  rw [hl] at hpos
  have t0 : ltB (s[0].toNat : Int) = true := ltB_iff.2 hc
  have t1 : ((k : Int) == 0) = false := by simp; omega
  have HF := Lib.hid hf; have HL := Lib.hid hl; have HK := Lib.hid hk; clear hf hl hk
  by_cases h20 : 20 < k
  · have hf2 : firstL s.data.toList = (-1, 0) := by rw [HF.out]; exact if_pos h20
    have HF2 := Lib.hid hf2; clear hf2
    rcases hc with hc | hc
    · go_enter Try.func70, Try.ntmps70
      go_wp2_with (go_at_call 75; refine (wordSize_is _ k _ hm.out h0 t0 HL.out).mono ?_; rintro e w' ⟨rfl, rfl⟩)
      go_ret2
      exact ⟨by rw [HF2.out]; rfl, rfl⟩
    · go_enter Try.func70, Try.ntmps70
      go_wp2_with (go_at_call 75; refine (wordSize_is _ k _ hm.out h0 t0 HL.out).mono ?_; rintro e w' ⟨rfl, rfl⟩)
      go_ret2
      exact ⟨by rw [HF2.out]; rfl, rfl⟩
  · have hf2 : firstL s.data.toList = (1, k) := by rw [HF.out]; exact if_neg h20
    have HF2 := Lib.hid hf2; clear hf2
    rcases hc with hc | hc
    · go_enter Try.func70, Try.ntmps70
      go_wp2_with (go_at_call 75; refine (wordSize_is _ k _ hm.out h0 t0 HL.out).mono ?_; rintro e w' ⟨rfl, rfl⟩)
      go_ret2
      exact ⟨by rw [HF2.out]; rfl, rfl⟩
    · go_enter Try.func70, Try.ntmps70
      go_wp2_with (go_at_call 75; refine (wordSize_is _ k _ hm.out h0 t0 HL.out).mono ?_; rintro e w' ⟨rfl, rfl⟩)
      go_ret2
      exact ⟨by rw [HF2.out]; rfl, rfl⟩


set_option maxHeartbeats 1000000 in
theorem first_any (s : ByteArray) (w : World) (hs : s.size ≤ maxLen) (h0 : 0 < s.size) :
    Calls Try.prog 70 #[.string s] w fun e w' => FirstRet (firstL s.data.toList) e ∧ w = w' := by
  have hm := Lib.hid hs
  unfold maxLen at hs
  have hf := firstL_eq s h0
  rcases cls_cases ((s[0].toNat : Nat) : Int) with hc | hc | hc | hc | hc | hc | hc | hc | hc | hc | hc | hc | hc | hc | hc | hc | hc | hc | hc
  · rw [hc] at hf
    have HF := Lib.hid hf; clear hf
    go_enter Try.func70, Try.ntmps70
    go_wp2_with fail
    go_ret2
    exact ⟨by rw [HF.out]; rfl, rfl⟩
  · rw [hc] at hf
    have HF := Lib.hid hf; clear hf
    go_enter Try.func70, Try.ntmps70
    go_wp2_with fail
    go_ret2
    exact ⟨by rw [HF.out]; rfl, rfl⟩
  · rw [hc] at hf
    have HF := Lib.hid hf; clear hf
    go_enter Try.func70, Try.ntmps70
    go_wp2_with fail
    refine (commentSize_any _ _ hm.out).mono ?_; rintro e w' ⟨rfl, rfl⟩
    go_wp2_with fail
    go_ret2
    exact ⟨by rw [HF.out]; rfl, rfl⟩
  · rw [hc] at hf
    have HF := Lib.hid hf; clear hf
    go_enter Try.func70, Try.ntmps70
    go_wp2_with fail
    go_ret2
    exact ⟨by rw [HF.out]; rfl, rfl⟩
  · obtain ⟨c1, c2⟩ := hc
    rw [cls_dig c1 c2] at hf
    have HF := Lib.hid hf; clear hf
    go_enter Try.func70, Try.ntmps70
    go_wp2_with (go_at_call 74; refine (numberSize_any _ _ hm.out h0).mono ?_; rintro e w' ⟨rfl, rfl⟩)
    all_goals go_ret2
    all_goals exact ⟨by rw [HF.out]; rfl, rfl⟩
  · rw [hc] at hf
    by_cases h1 : 1 < s.size
    · have hn := nextEq_at s h1
      cases ht : ((s[1].toNat : Nat) : Int) == 61
      · rw [ht] at hn
        have HF := Lib.hid hf; have HN := Lib.hid hn; clear hf hn
        go_enter Try.func70, Try.ntmps70
        go_wp2_with fail
        go_ret2
        exact ⟨by rw [HF.out, HN.out]; rfl, rfl⟩
      · rw [ht] at hn
        have HF := Lib.hid hf; have HN := Lib.hid hn; clear hf hn
        go_enter Try.func70, Try.ntmps70
        go_wp2_with fail
        go_ret2
        exact ⟨by rw [HF.out, HN.out]; rfl, rfl⟩
    · have hn := nextEq_no s h1
      have HF := Lib.hid hf; have HN := Lib.hid hn; clear hf hn
      go_enter Try.func70, Try.ntmps70
      go_wp2_with fail
      go_ret2
      exact ⟨by rw [HF.out, HN.out]; rfl, rfl⟩
  · rw [hc] at hf
    by_cases h1 : 1 < s.size
    · have hn := nextEq_at s h1
      cases ht : ((s[1].toNat : Nat) : Int) == 61
      · rw [ht] at hn
        have HF := Lib.hid hf; have HN := Lib.hid hn; clear hf hn
        go_enter Try.func70, Try.ntmps70
        go_wp2_with fail
        go_ret2
        exact ⟨by rw [HF.out, HN.out]; rfl, rfl⟩
      · rw [ht] at hn
        have HF := Lib.hid hf; have HN := Lib.hid hn; clear hf hn
        go_enter Try.func70, Try.ntmps70
        go_wp2_with fail
        go_ret2
        exact ⟨by rw [HF.out, HN.out]; rfl, rfl⟩
    · have hn := nextEq_no s h1
      have HF := Lib.hid hf; have HN := Lib.hid hn; clear hf hn
      go_enter Try.func70, Try.ntmps70
      go_wp2_with fail
      go_ret2
      exact ⟨by rw [HF.out, HN.out]; rfl, rfl⟩
  · rw [hc] at hf
    by_cases h1 : 1 < s.size
    · have hn := nextEq_at s h1
      cases ht : ((s[1].toNat : Nat) : Int) == 61
      · rw [ht] at hn
        have HF := Lib.hid hf; have HN := Lib.hid hn; clear hf hn
        go_enter Try.func70, Try.ntmps70
        go_wp2_with fail
        go_ret2
        exact ⟨by rw [HF.out, HN.out]; rfl, rfl⟩
      · rw [ht] at hn
        have HF := Lib.hid hf; have HN := Lib.hid hn; clear hf hn
        go_enter Try.func70, Try.ntmps70
        go_wp2_with fail
        go_ret2
        exact ⟨by rw [HF.out, HN.out]; rfl, rfl⟩
    · have hn := nextEq_no s h1
      have HF := Lib.hid hf; have HN := Lib.hid hn; clear hf hn
      go_enter Try.func70, Try.ntmps70
      go_wp2_with fail
      go_ret2
      exact ⟨by rw [HF.out, HN.out]; rfl, rfl⟩
  · rw [hc] at hf
    have HF := Lib.hid hf; clear hf
    go_enter Try.func70, Try.ntmps70
    go_wp2_with fail
    go_ret2
    exact ⟨by rw [HF.out]; rfl, rfl⟩
  · rw [hc] at hf
    have HF := Lib.hid hf; clear hf
    go_enter Try.func70, Try.ntmps70
    go_wp2_with fail
    go_ret2
    exact ⟨by rw [HF.out]; rfl, rfl⟩
  · rw [hc] at hf
    have HF := Lib.hid hf; clear hf
    go_enter Try.func70, Try.ntmps70
    go_wp2_with fail
    go_ret2
    exact ⟨by rw [HF.out]; rfl, rfl⟩
  · rw [hc] at hf
    have HF := Lib.hid hf; clear hf
    go_enter Try.func70, Try.ntmps70
    go_wp2_with fail
    go_ret2
    exact ⟨by rw [HF.out]; rfl, rfl⟩
  · rw [hc] at hf
    have HF := Lib.hid hf; clear hf
    go_enter Try.func70, Try.ntmps70
    go_wp2_with fail
    go_ret2
    exact ⟨by rw [HF.out]; rfl, rfl⟩
  · rw [hc] at hf
    have HF := Lib.hid hf; clear hf
    go_enter Try.func70, Try.ntmps70
    go_wp2_with fail
    go_ret2
    exact ⟨by rw [HF.out]; rfl, rfl⟩
  · rw [hc] at hf
    have HF := Lib.hid hf; clear hf
    go_enter Try.func70, Try.ntmps70
    go_wp2_with fail
    go_ret2
    exact ⟨by rw [HF.out]; rfl, rfl⟩
  · rw [hc] at hf
    have HF := Lib.hid hf; clear hf
    go_enter Try.func70, Try.ntmps70
    go_wp2_with fail
    go_ret2
    exact ⟨by rw [HF.out]; rfl, rfl⟩
  · rw [hc] at hf
    have HF := Lib.hid hf; clear hf
    go_enter Try.func70, Try.ntmps70
    go_wp2_with fail
    go_ret2
    exact ⟨by rw [HF.out]; rfl, rfl⟩
  · exact first_let s w hm.out h0 hc
  · obtain ⟨hb, hc⟩ := hc
    rw [hb] at hf
    have HF := Lib.hid hf; clear hf hb
    obtain ⟨hl, hd, hc⟩ := hc
    go_enter Try.func70, Try.ntmps70
    go_wp2_with (go_at_call 75; refine (wordSize_no _ _ hm.out h0 hl).mono ?_; rintro e w' ⟨rfl, rfl⟩)
    go_ret2
    exact ⟨by rw [HF.out]; rfl, rfl⟩
end Go.Proofs.Ythphgppgdlimeaa.Dec
