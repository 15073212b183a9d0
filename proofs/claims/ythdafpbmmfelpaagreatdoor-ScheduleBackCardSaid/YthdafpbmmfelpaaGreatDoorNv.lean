/- The program: valueOf. -/
import Derived.Test.YthdafpbmmfelpaaGreatDoorNr
namespace Go.Proofs.YthdafpbmmfelpaaGreatDoor
open Go.ChangeShapes Go.WideShapes Go.ChangeAt Go.RowKit Dec
set_option linter.unusedVariables false
set_option linter.unusedSimpArgs false

theorem neg_at {s : ByteArray} (h : 0 < s.size) : negB s.data.toList = ((((s[0]'h).toNat : Nat) : Int) == 45) := by
  have hh := head_at s h
  cases hl : s.data.toList with
  | nil => rw [hl] at hh; cases hh
  | cons c r =>
    rw [hl] at hh
    simp at hh
    unfold negB
    rw [hh]
theorem parse_word (t : ByteArray) (W : World) (ht : t.size ≤ 10) : Calls Tryz.prog 112 #[.string t, .int .i64 0] W fun e w' => ∃ v c : Int, e = .returned (.tuple #[.int .i64 v, .int .i64 c]) ∧ (c = 0 → 0 < t.size) ∧ ((c == 0) && !negB t.data.toList) = wholeB t.data.toList ∧ (wholeB t.data.toList = true → v = (dnum 0 t.data.toList : Nat)) ∧ Below W.heap.size W w' := by
  have h := parse_any t 0 W (by omega) (by omega)
  refine h.mono ?_
  rintro e w' ⟨rfl, hb⟩
  have hz : t.data.toList.length = t.size := by simp
  refine ⟨_, _, rfl, fun h0 => ?_, ?_, fun hw => ?_, hb⟩
  · rcases Nat.eq_zero_or_pos t.size with h1 | h1
    · exfalso
      have e : t.data.toList = [] := List.eq_nil_of_length_eq_zero (by omega)
      rw [e] at h0
      revert h0
      decide
    · exact h1
  · cases hn : negB t.data.toList
    · rw [parse_zero hn (by omega)]
      cases hw : wholeB t.data.toList
      · simp
      · simp
    · rw [whole_neg hn]; simp
  · rw [parse_zero (neg_whole hw) (by omega), if_pos hw]
theorem num_size {s : ByteArray} (h : ¬ s.size ≤ 10) : numW s.data.toList = false := num_no (.inr (.inl (by simp; omega)))
theorem num_whole {s : ByteArray} (h : s.size ≤ 10) : numW s.data.toList = wholeB s.data.toList := by
  unfold numW
  have : decide (s.data.toList.length ≤ 10) = true := by simp; omega
  rw [this, Bool.and_true]
set_option maxHeartbeats 4000000 in
set_option maxRecDepth 100000 in
/-- A word that is to be a name. -/
theorem value_name (s : ByteArray) (w : World) (hs : s.size ≤ maxLen) : Calls Tryz.prog 81 #[.string s, .int .i64 0] w fun e w' => e = .returned (.tuple #[.int .i64 0, .bool (nameB s.data.toList)]) ∧ Below w.heap.size w w' := by
  have h71 := isName_any s w hs
  go_enter Tryz.func81, Tryz.ntmps81
  go_wp2_with (go_at_call 71; (with_reducible refine h71.mono ?_); rintro X wq ⟨rfl, hb⟩)
  go_ret2
  exact ⟨rfl, by first | exact hb | (subst hb; exact Below.refl _ _)⟩
set_option maxHeartbeats 4000000 in
set_option maxRecDepth 100000 in
/-- A word that is to be a number. -/
theorem value_num (s : ByteArray) (w : World) (hs : s.size ≤ maxLen) : Calls Tryz.prog 81 #[.string s, .int .i64 1] w fun e w' => ∃ v : Int, e = .returned (.tuple #[.int .i64 v, .bool (numW s.data.toList)]) ∧ (numW s.data.toList = true → v = (dnum 0 s.data.toList : Nat)) ∧ Below w.heap.size w w' := by
  unfold maxLen at hs
  by_cases hl : s.size ≤ 10
  · have g1 : decide ((s.size : Int) > 10) = false := by simp; omega
    have h112 := parse_word s w hl
    rw [num_whole hl]
    generalize wholeB s.data.toList = W0 at *
    have HD : Hid (∃ D, D = dnum 0 s.data.toList) := Lib.hid ⟨_, rfl⟩
    obtain ⟨D, hD⟩ := HD.out
    rw [← hD] at h112
    rw [← hD]
    clear hD HD
    have hneg := fun h => neg_at (s := s) h
    generalize negB s.data.toList = ng at *
    go_enter Tryz.func81, Tryz.ntmps81
    go_upto_region 8 with (go_at_call 112; (with_reducible refine h112.mono ?_); rintro X wq ⟨v, c, rfl, hc0, hok, hv, hb⟩)
    by_cases hc : c = 0
    · have hp := hc0 hc
      subst hc
      have q0 : (0 : Int) < (s.size : Int) := by omega
      have hn2 : ((((s[0]'hp).toNat : Nat) : Int) != 45) = W0 := by
        have e := hneg hp
        rw [bne, ← e, ← hok]; rfl
      have HV := Lib.hid hv
      clear hneg hok hc0 h112 hv
      go_quiet (fail)
      go_wp2
      exact bodyPost_ret (v := .tuple #[.int .i64 v, .bool W0]) (by simp [results, Tryz.results81, go_sem]) rfl ⟨v, rfl, HV.out, below_drewN hb _⟩
    · have e1 : (c == 0) = false := by simp [hc]
      rw [e1] at hok
      simp at hok
      subst hok
      have HV := Lib.hid hv
      clear hneg hc0 h112 hv
      go_quiet (fail)
      go_wp2
      exact bodyPost_ret (v := .tuple #[.int .i64 v, .bool false]) (by simp [results, Tryz.results81, go_sem]) rfl ⟨v, rfl, HV.out, below_drewN hb _⟩
  · have g1 : decide ((s.size : Int) > 10) = true := by simp; omega
    rw [num_size hl]
    go_enter Tryz.func81, Tryz.ntmps81
    go_wp2
    go_ret2
    exact ⟨0, rfl, (fun h => nomatch h), Below.refl _ _⟩
/-- A word that is a code: two digits. -/
def codB (l : List UInt8) : Bool := decide (l.length = 2) && adB l
theorem ad_one (b : UInt8) : adB [b] = dgB (b.toNat : Int) := by
  rw [Bool.eq_iff_iff, adB_iff, cnt_all_iff]
  simp
theorem ad_two (a b : UInt8) : adB [a, b] = (dgB (a.toNat : Int) && dgB (b.toNat : Int)) := by
  rw [Bool.eq_iff_iff, adB_iff, cnt_all_iff, Bool.and_eq_true]
  simp
theorem whole_of {l : List UInt8} (h1 : 1 ≤ l.length) (h10 : l.length ≤ 10) (h : 1 < l.length → l.head? ≠ some 48) : wholeB l = adB l := by
  have := num_ad h1 h10 h
  unfold numW at this
  rw [← this]
  have e : decide (l.length ≤ 10) = true := by simp; omega
  rw [e, Bool.and_true]
theorem trim_code {l : List UInt8} (h : l.length = 2) : wholeB (Lib.trimPrefix l [48]) = codB l ∧ (codB l = true → dnum 0 (Lib.trimPrefix l [48]) = dnum 0 l) ∧ (Lib.trimPrefix l [48]).length ≤ 2 := by
  match l, h with
  | [a, b], _ =>
    have hc : codB [a, b] = adB [a, b] := by simp [codB]
    rw [hc, ad_two]
    by_cases ha : a = 48
    · subst ha
      have e : Lib.trimPrefix [48, b] [48] = [b] := by simp [Lib.trimPrefix, Lib.hasPrefix]
      rw [e, whole_of (by simp) (by simp) (by simp), ad_one]
      refine ⟨by rw [show dgB (((48 : UInt8).toNat : Nat) : Int) = true by decide]; rfl, fun _ => ?_, by simp⟩
      have : dv 48 = 0 := by decide
      simp [dnum, this]
    · have e : Lib.trimPrefix [a, b] [48] = [a, b] := by
        have : Lib.hasPrefix [a, b] [48] = false := by
          cases hq : Lib.hasPrefix [a, b] [48]
          · rfl
          · exfalso
            simp [Lib.hasPrefix] at hq
            first | exact ha hq | exact ha hq.symm | exact ha hq.1 | exact ha hq.1.symm
        simp [Lib.trimPrefix, this]
      rw [e, whole_of (by simp) (by simp) (by simp [ha]), ad_two]
      exact ⟨rfl, fun _ => rfl, by simp⟩
set_option maxHeartbeats 4000000 in
set_option maxRecDepth 100000 in
/-- A word that is to be a code. -/
theorem value_code (s : ByteArray) (w : World) (hs : s.size ≤ maxLen) : Calls Tryz.prog 81 #[.string s, .int .i64 2] w fun e w' => ∃ v : Int, e = .returned (.tuple #[.int .i64 v, .bool (codB s.data.toList)]) ∧ (codB s.data.toList = true → v = (dnum 0 s.data.toList : Nat)) ∧ Below w.heap.size w w' := by
  unfold maxLen at hs
  have hz : s.data.toList.length = s.size := by simp
  by_cases hl : s.size = 2
  · have g1 : ((s.size : Int) == 2) = true := by simp; omega
    obtain ⟨k1, k2, k3⟩ := trim_code (l := s.data.toList) (by omega)
    have h111 := Tryz.strings_TrimPrefix s ⟨#[48]⟩ w
    have e48 : (⟨#[48]⟩ : ByteArray).data.toList = [48] := rfl
    rw [e48] at h111
    obtain ⟨u, hu⟩ : ∃ u : ByteArray, u = ⟨(Lib.trimPrefix s.data.toList [48]).toArray⟩ := ⟨_, rfl⟩
    have hud : u.data.toList = Lib.trimPrefix s.data.toList [48] := by rw [hu]
    rw [← hu] at h111
    rw [← hud] at k1 k2 k3
    have hus : u.size ≤ 10 := by
      have : u.data.toList.length = u.size := by simp
      omega
    have h112 := parse_word u w hus
    rw [k1] at h112
    have HK := Lib.hid k2
    have hneg := fun h => neg_at (s := u) h
    clear hu hud k1 k2 k3 e48 hz
    generalize codB s.data.toList = W0 at *
    generalize dnum 0 s.data.toList = D at *
    generalize dnum 0 u.data.toList = D' at *
    generalize negB u.data.toList = ng at *
    go_enter Tryz.func81, Tryz.ntmps81
    go_upto_region 8 with (first
      | (go_at_call 111; (with_reducible refine h111.mono ?_); rintro X wp ⟨rfl, rfl⟩)
      | (go_at_call 112; (with_reducible refine h112.mono ?_); rintro X wq ⟨v, c, rfl, hc0, hok, hv, hb⟩))
    by_cases hc : c = 0
    · have hp := hc0 hc
      subst hc
      have q0 : (0 : Int) < (u.size : Int) := by omega
      have hn2 : ((((u[0]'hp).toNat : Nat) : Int) != 45) = W0 := by
        have e := hneg hp
        rw [bne, ← e, ← hok]; rfl
      have HV : Hid (W0 = true → v = (D : Int)) := Lib.hid fun h => by rw [hv h, HK.out h]
      clear hneg hok hc0 h112 hv h111
      go_quiet (fail)
      go_wp2
      exact bodyPost_ret (v := .tuple #[.int .i64 v, .bool W0]) (by simp [results, Tryz.results81, go_sem]) rfl ⟨v, rfl, HV.out, below_drewN hb _⟩
    · have e1 : (c == 0) = false := by simp [hc]
      rw [e1] at hok
      simp at hok
      subst hok
      have HV : Hid (false = true → v = (D : Int)) := Lib.hid fun h => absurd h (by decide)
      clear hneg hc0 h112 hv h111
      go_quiet (fail)
      go_wp2
      exact bodyPost_ret (v := .tuple #[.int .i64 v, .bool false]) (by simp [results, Tryz.results81, go_sem]) rfl ⟨v, rfl, HV.out, below_drewN hb _⟩
  · have g1 : ((s.size : Int) == 2) = false := by simp; omega
    have e : codB s.data.toList = false := by unfold codB; rw [hz]; simp [hl]
    rw [e]
    clear hz
    go_enter Tryz.func81, Tryz.ntmps81
    go_wp2
    go_ret2
    exact ⟨0, rfl, (fun h => nomatch h), Below.refl _ _⟩
end Go.Proofs.YthdafpbmmfelpaaGreatDoor
