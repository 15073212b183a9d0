/- Contracts: what a text begins with (numberSize, commentSize, first). -/
import Derived.Test.YthphgppgdlimeaaDScan
import Derived.Test.YthphgppgdlimeaaDFirst
import Derived.WalkSpells
import Derived.WalkLawsBesides
import Derived.Lib.Strings
import Derived.Lib.IndexBytes
namespace Go.Proofs.Ythphgppgdlimeaa.Dec
open Go.ChangeShapes Go.WideShapes Go.ChangeAt Go.RowKit
set_option linter.unusedVariables false

theorem ext_max (s : ByteArray) (a : Nat) (h : s.size ≤ maxLen) : (s.extract a s.size).size ≤ maxLen := by
  have e : (s.extract a s.size).size ≤ s.size := by simp
  omega
theorem ext_scan (p : Int → Bool) (s : ByteArray) (a : Nat) : scan p (s.extract a s.size) 0 = cnt p (s.data.toList.drop a) := by
  unfold scan; rw [Lib.extract_to_end]; simp

theorem digitsSize_is (s : ByteArray) (d : Nat) (w : World) (hs : s.size ≤ maxLen) (hd : scan dgB s 0 = d) :
    Calls Try.prog 77 #[.string s] w fun e w' => e = .returned (.int .i64 d) ∧ w = w' := by
  subst hd; exact digitsSize_any s w hs

theorem numberSize_any (s : ByteArray) (w : World) (hs : s.size ≤ maxLen) (h0 : 0 < s.size) :
    Calls Try.prog 74 #[.string s] w fun e w' => e = .returned (.int .i64 (numL s.data.toList)) ∧ w = w' := by
  obtain ⟨d, hd⟩ : ∃ d, scan dgB s 0 = d := ⟨_, rfl⟩
  have hb := scan_le dgB s 0 (by omega)
  rw [hd] at hb
  have HD := Lib.hid hd; clear hd
  have hm := Lib.hid hs
  unfold maxLen at hs
  by_cases hlt : d < s.size
  · have t1 : ((d : Int) == s.size) = false := by simp; omega
    by_cases hp : ((s[d]).toNat : Int) = 46
    · have t2 : (((s[d]).toNat : Int) != 46) = false := by simp [hp]
      have HP := Lib.hid hp; clear hp
      obtain ⟨q, hq⟩ : ∃ q, scan dgB (s.extract (d + 1) s.size) 0 = q := ⟨_, rfl⟩
      have hq2 : scan dgB s (d + 1) = d + 1 + q := by rw [cnt_drop, ← ext_scan, hq]
      have hql := scan_le dgB s (d + 1) (by omega)
      rw [hq2] at hql
      have HQ := Lib.hid hq; have HQ2 := Lib.hid hq2; clear hq hq2
      by_cases hq0 : q = 0
      · have t3 : ((q : Int) == 0) = true := by simp [hq0]
        have HQ0 := Lib.hid hq0; clear hq0
        go_enter Try.func74, Try.ntmps74
        go_wp2_with fail
        refine (digitsSize_is _ d _ hm.out HD.out).mono ?_; rintro e w' ⟨rfl, rfl⟩
        go_wp2_with fail
        refine (digitsSize_is _ q _ (ext_max _ _ hm.out) HQ.out).mono ?_; rintro e w' ⟨rfl, rfl⟩
        go_wp2_with fail
        go_ret
        exact ⟨ret_one (by have e := numL_plain' s 0 d HD.out hlt (.inr (.inr (by rw [HQ2.out, HQ0.out]))); rw [Nat.zero_add] at e; rw [← e]; rfl), rfl⟩
      · have t3 : ((q : Int) == 0) = false := by simp; omega
        go_enter Try.func74, Try.ntmps74
        go_wp2_with fail
        refine (digitsSize_is _ d _ hm.out HD.out).mono ?_; rintro e w' ⟨rfl, rfl⟩
        go_wp2_with fail
        refine (digitsSize_is _ q _ (ext_max _ _ hm.out) HQ.out).mono ?_; rintro e w' ⟨rfl, rfl⟩
        go_wp2_with fail
        go_ret
        exact ⟨ret_one (by have e := numL_point' s 0 d _ HD.out hlt HP.out HQ2.out (by omega); rw [Nat.zero_add, List.drop_zero] at e; rw [e]; omega), rfl⟩
    · have t2 : (((s[d]).toNat : Int) != 46) = true := by simpa using hp
      have HP := Lib.hid hp; clear hp
      go_enter Try.func74, Try.ntmps74
      go_wp2_with fail
      refine (digitsSize_is _ d _ hm.out HD.out).mono ?_; rintro e w' ⟨rfl, rfl⟩
      go_wp2_with fail
      go_ret
      exact ⟨ret_one (by have e := numL_plain' s 0 d HD.out hlt (.inl HP.out); rw [Nat.zero_add] at e; rw [← e]; rfl), rfl⟩
  · have t1 : ((d : Int) == s.size) = true := by simp; omega
    go_enter Try.func74, Try.ntmps74
    go_wp2_with fail
    refine (digitsSize_is _ d _ hm.out HD.out).mono ?_; rintro e w' ⟨rfl, rfl⟩
    go_wp2_with fail
    go_ret
    exact ⟨ret_one (by have e := numL_end' s 0 d HD.out (by omega); rw [Nat.zero_add] at e; rw [← e]; rfl), rfl⟩
end Go.Proofs.Ythphgppgdlimeaa.Dec
