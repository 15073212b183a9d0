/- The reference: Number. -/
import Derived.Test.YthdafpbmmfelpaaGreatDoorNw
namespace Go.Proofs.YthdafpbmmfelpaaGreatDoor
open Go.ChangeShapes Go.WideShapes Go.ChangeAt Go.RowKit Dec
set_option linter.unusedVariables false
set_option linter.unusedSimpArgs false

theorem num_ad {l : List UInt8} (h1 : 1 ≤ l.length) (h10 : l.length ≤ 10) (h : 1 < l.length → l.head? ≠ some 48) : numW l = adB l := by
  match l, h1 with
  | [c], _ =>
    by_cases hc : c = 48
    · subst hc; decide
    · unfold numW wholeB
      have e : ([c] == [(48 : UInt8)]) = false := by simp [hc]
      have e2 : (some c == some (48 : UInt8)) = false := by simp [hc]
      simp [e, e2, hc]
  | c :: d :: r, _ =>
    have hh := h (by simp)
    have hc : ¬ c = 48 := fun e => hh (by simp [e])
    unfold numW wholeB
    have e : r.length ≤ 8 := by simp at h10; omega
    simp [hc, e]
theorem num_no {l : List UInt8} (h : l.length < 1 ∨ 10 < l.length ∨ (1 < l.length ∧ l.head? = some 48)) : numW l = false := by
  cases hb : numW l
  · rfl
  · exfalso
    unfold numW at hb
    simp only [Bool.and_eq_true, decide_eq_true_eq] at hb
    obtain ⟨hw, hl⟩ := hb
    unfold wholeB at hw
    rcases h with h | h | ⟨h, hh⟩
    · have : l = [] := List.eq_nil_of_length_eq_zero (by omega)
      subst this
      simp at hw
    · omega
    · rw [hh] at hw
      simp at hw
      subst hw
      simp at h
theorem ad_take {s : ByteArray} {k : Nat} (hk : k < s.size) : adB (s.data.toList.take (k + 1)) = (adB (s.data.toList.take k) && dgB ((s[k].toNat : Nat) : Int)) := by
  have hk' : k < s.data.toList.length := by simpa using hk
  have e : s.data.toList[k] = s[k] := by simp [ByteArray.getElem_eq_getElem_data]
  rw [List.take_succ_eq_append_getElem hk', e, Bool.eq_iff_iff, Bool.and_eq_true, adB_iff, adB_iff, cnt_all_iff, cnt_all_iff]
  constructor
  · intro h
    exact ⟨fun c hc => h c (by simp [hc]), h s[k] (by simp)⟩
  · rintro ⟨h1, h2⟩ c hc
    rcases List.mem_append.1 hc with h | h
    · exact h1 c h
    · rw [List.mem_singleton.1 h]; exact h2
theorem ad_no {s : ByteArray} {k : Nat} (hk : k < s.size) (h : dgB ((s[k].toNat : Nat) : Int) = false) : adB s.data.toList = false := by
  cases ha : adB s.data.toList
  · rfl
  · have h1 := (cnt_all_iff dgB _).1 (adB_iff.1 ha) s[k] (by simp [ByteArray.getElem_eq_getElem_data])
    rw [h] at h1; cases h1
theorem dnum_take {s : ByteArray} {k : Nat} (hk : k < s.size) : dnum 0 (s.data.toList.take (k + 1)) = 10 * dnum 0 (s.data.toList.take k) + dv s[k] := by
  have hk' : k < s.data.toList.length := by simpa using hk
  have e : s.data.toList[k] = s[k] := by simp [ByteArray.getElem_eq_getElem_data]
  rw [List.take_succ_eq_append_getElem hk', e, dnum_snoc]
set_option maxHeartbeats 4000000 in
set_option maxRecDepth 100000 in
theorem number_any (s : ByteArray) (w : World) (hs : s.size ≤ maxLen) :
    Calls Tryz.prog 84 #[.string s] w fun e w' => e = .returned (.tuple #[.int .i64 (if numW s.data.toList = true then (dnum 0 s.data.toList : Nat) else (0 : Int)), .bool (numW s.data.toList)]) ∧ w' = w := by
  have hz : s.data.toList.length = s.size := by simp
  unfold maxLen at hs
  by_cases h0 : s.size < 1
  · have hn := num_no (l := s.data.toList) (.inl (by omega))
    rw [hn]
    have g1 : decide ((s.size : Int) < 1) = true := by simp; omega
    clear hn hz
    go_enter Tryz.func84, Tryz.ntmps84
    go_wp2
    go_ret2
    exact ⟨rfl, rfl⟩
  have g1 : decide ((s.size : Int) < 1) = false := by simp; omega
  by_cases h1 : 10 < s.size
  · have hn := num_no (l := s.data.toList) (.inr (.inl (by omega)))
    rw [hn]
    have g2 : decide ((s.size : Int) > 10) = true := by simp; omega
    clear hn hz
    go_enter Tryz.func84, Tryz.ntmps84
    go_wp2
    go_ret2
    exact ⟨rfl, rfl⟩
  have g2 : decide ((s.size : Int) > 10) = false := by simp; omega
  have hp : 0 < s.size := by omega
  have hh := head_at s hp
  have q0 : (0 : Int) < (s.size : Int) := by omega
  by_cases h2 : 1 < s.size ∧ s[0]'hp = 48
  · have hn := num_no (l := s.data.toList) (.inr (.inr ⟨by omega, by rw [hh, h2.2]⟩))
    rw [hn]
    have g3 : decide ((s.size : Int) > 1) = true := by simp; omega
    have g4 : (((((s[0]'hp).toNat : Nat) : Int)) == 48) = true := by rw [h2.2]; rfl
    clear hn hz hh h2
    go_enter Tryz.func84, Tryz.ntmps84
    go_wp2
    go_ret2
    exact ⟨rfl, rfl⟩
  have hn := num_ad (l := s.data.toList) (by omega) (by omega) (fun h e => h2 ⟨by omega, by rw [hh] at e; simpa using e⟩)
  rw [hn]
  have HN : Hid (∀ k (hk : k < s.size), dgB ((s[k].toNat : Nat) : Int) = false → adB s.data.toList = false) := Lib.hid fun k hk h => ad_no hk h
  have hg : (decide ((s.size : Int) > 1) = true ∧ ((((s[0]'hp).toNat : Nat) : Int) == 48) = false) ∨ decide ((s.size : Int) > 1) = false := by
    by_cases h : 1 < s.size
    · left
      refine ⟨by simp; omega, ?_⟩
      cases hq : ((((s[0]'hp).toNat : Nat) : Int) == 48)
      · rfl
      · exfalso
        have h3 : (((s[0]'hp).toNat : Nat) : Int) = 48 := by simpa using hq
        exact h2 ⟨h, UInt8.toNat_inj.1 (show (s[0]'hp).toNat = 48 by omega)⟩
    · right
      simp; omega
  clear hn
  generalize hR : adB s.data.toList = R
  generalize hV : (if R = true then ((dnum 0 s.data.toList : Nat) : Int) else 0) = V
  have HTt : Hid (adB s.data.toList = true → V = (dnum 0 s.data.toList : Nat) ∧ R = true) := Lib.hid fun h => by
    rw [← hV, ← hR, h]; exact ⟨if_pos rfl, rfl⟩
  have HFf : Hid (adB s.data.toList = false → V = 0 ∧ R = false) := Lib.hid fun h => by
    rw [← hV, ← hR, h]; exact ⟨if_neg (by decide), rfl⟩
  clear hV hR hz h2 hh
  have hs10 : s.size ≤ 10 := by omega
  clear h1
  rcases hg with ⟨g3, g4⟩ | g3
  all_goals (
    go_enter Tryz.func84, Tryz.ntmps84
    go_wp2
    go_loop [4, 5] (fun v4 v5 => ∃ k : Nat, v5 = .int .i64 k ∧ k ≤ s.size ∧ v4 = .int .i64 (dnum 0 (s.data.toList.take k) : Nat) ∧ Hid (adB (s.data.toList.take k) = true)) (fun _ v => s.size - (intOf v).toNat)
    case atStart => exact ⟨0, rfl, Nat.zero_le _, rfl, Lib.hid (by simp [adB, cnt])⟩
    case round =>
      obtain ⟨k, rfl, hk, rfl, hA⟩ := hrel
      by_cases hlt : k < s.size
      · have t1 : decide ((k : Int) < (s.size : Int)) = true := by simp; omega
        have u1 : (0 : Int) ≤ (k : Int) := by omega
        have u2 : (k : Int) < (s.size : Int) := by omega
        cases hd : dgB ((s[k].toNat : Nat) : Int)
        · have HF := Lib.hid (HFf.out (HN.out k hlt hd))
          go_wp2_with (go_at_call 83; refine (digit_any 83 (.inr rfl) _ _).mono ?_; rintro e w' ⟨rfl, rfl⟩)
          go_ret2
          exact ⟨by rw [HF.out.1, HF.out.2]; rfl, rfl⟩
        · have HE := Lib.hid (dnum_take hlt)
          have HA2 := Lib.hid (show adB (s.data.toList.take (k + 1)) = true by rw [ad_take hlt, hA.out, hd]; rfl)
          have hm := dnum_lt (s.data.toList.take k) 0 0 hA.out (by decide)
          have hm2 : (10 : Nat) ^ (0 + (s.data.toList.take k).length) ≤ 10 ^ 10 := Nat.pow_le_pow_right (by decide) (by rw [List.length_take]; omega)
          have hm3 : (10 : Nat) ^ 10 = 10000000000 := by decide
          have hm4 : dnum 0 (s.data.toList.take k) < 10000000000 := by omega
          obtain ⟨c1, c2⟩ := dgB_iff.1 hd
          have HDV := Lib.hid (show (dv s[k] : Int) = ((s[k].toNat : Nat) : Int) - 48 by unfold dv; omega)
          clear hm hm2 hm3 hA
          generalize dnum 0 (s.data.toList.take k) = m at *
          have hb3 : 10 * (m : Int) + (((s[k].toNat : Nat) : Int) - 48) ≤ 1152921504606846976 := by omega
          go_wp2_with (go_at_call 83; refine (digit_any 83 (.inr rfl) _ _).mono ?_; rintro e w' ⟨rfl, rfl⟩)
          go_round
          case rel => exact ⟨k + 1, by go_num, by omega, by rw [HE.out]; have := HDV.out; rw [show ((10 * m + dv s[k] : Nat) : Int) = 10 * (m : Int) + (((s[k].toNat : Nat) : Int) - 48) by omega], HA2⟩
          case measure => simp [intOf]; omega
      · have t1 : decide ((k : Int) < (s.size : Int)) = false := by simp; omega
        have e : s.data.toList.take k = s.data.toList := List.take_of_length_le (by simp; omega)
        rw [e] at hA
        rw [e]
        have HA2 := Lib.hid (HTt.out hA.out)
        go_wp2
        go_ret2
        exact ⟨by rw [HA2.out.1, HA2.out.2]; rfl, rfl⟩)
end Go.Proofs.YthdafpbmmfelpaaGreatDoor
