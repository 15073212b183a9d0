/- The reference's Parse, in one piece: it returns what parseL says, for strings of at most 900 bytes. -/
import Derived.Test.YtkabmmpldanmcaaRp1
import Derived.Test.YtkabmmpldanmcaaRp2
import Derived.Test.YtkabmmpldanmcaaRp3
import Derived.Test.YtkabmmpldanmcaaRp4
import Derived.Test.YtkabmmpldanmcaaRp5
namespace Go.Proofs.Ytkabmmpldanmcaa
open Go.ChangeShapes Go.WideShapes Go.ChangeAt Go.RowKit
set_option linter.unusedVariables false

def RPost (r : Int × Int) (w : World) (e : Ending) (w' : World) : Prop := e = .returned (.tuple #[.int .i64 r.1, .int .i64 r.2]) ∧ w = w'

theorem pl_none {l : List UInt8} {k : Nat} (h : formL (unsg l) k = none) : parseL l k = (0, 7) := by unfold parseL; rw [h]
theorem pl_some {l : List UInt8} {k : Nat} {W P : List UInt8} (h : formL (unsg l) k = some (W, P)) : parseL l k = vres (negB l) (valL 0 (W ++ P ++ padL k P)) := by
  unfold parseL; rw [h]
  dsimp only
  cases valL 0 (W ++ P ++ padL k P) <;> rfl

/-- Where the digits end at a point, the point is the first one. -/
theorem dot_at {u : List UInt8} (h : cnt dgB u < u.length) : (u[cnt dgB u].toNat : Int) = 46 → cnt noDot u = cnt dgB u := by
  induction u with
  | nil => simp at h
  | cons c r ih =>
    by_cases hp : dgB (c.toNat : Int) = true
    · have h1 := dgB_iff.1 hp
      have h2 : noDot (c.toNat : Int) = true := by unfold noDot; rw [bne_iff_ne]; omega
      have e1 : cnt dgB (c :: r) = cnt dgB r + 1 := by rw [cnt, if_pos hp]
      have e2 : cnt noDot (c :: r) = cnt noDot r + 1 := by rw [cnt, if_pos h2]
      rw [e1] at h
      simp only [e1, e2, List.getElem_cons_succ]
      intro hb
      rw [ih (by simpa using h) hb]
    · have e1 : cnt dgB (c :: r) = 0 := by rw [cnt, if_neg hp]
      simp only [e1, List.getElem_cons_zero]
      intro hb
      rw [cnt, if_neg]; unfold noDot; simp [hb]
theorem dot_no {u : List UInt8} (h : cnt dgB u < u.length) : (u[cnt dgB u].toNat : Int) ≠ 46 → cnt dgB u ≠ cnt noDot u := by
  induction u with
  | nil => simp at h
  | cons c r ih =>
    by_cases hp : dgB (c.toNat : Int) = true
    · have h1 := dgB_iff.1 hp
      have h2 : noDot (c.toNat : Int) = true := by unfold noDot; rw [bne_iff_ne]; omega
      have e1 : cnt dgB (c :: r) = cnt dgB r + 1 := by rw [cnt, if_pos hp]
      have e2 : cnt noDot (c :: r) = cnt noDot r + 1 := by rw [cnt, if_pos h2]
      rw [e1] at h
      simp only [e1, e2, List.getElem_cons_succ]
      intro hb
      have := ih (by simpa using h) hb
      omega
    · have e1 : cnt dgB (c :: r) = 0 := by rw [cnt, if_neg hp]
      simp only [e1, List.getElem_cons_zero]
      intro hb
      rw [cnt, if_pos]
      · omega
      · unfold noDot; rw [bne_iff_ne]; exact hb

theorem whole_cases {l : List UInt8} (ha : adB l = true) : (wholeB l = false ∧ l.length = 0) ∨ (wholeB l = true ∧ l.length = 1) ∨ (1 < l.length ∧ ∃ c, l.head? = some c ∧ ((c = 48 ∧ wholeB l = false) ∨ (c ≠ 48 ∧ wholeB l = true))) := by
  match l, ha with
  | [], _ => exact .inl ⟨rfl, rfl⟩
  | [c], ha =>
    right; left
    refine ⟨?_, rfl⟩
    by_cases h : c = 48
    · subst h; rfl
    · unfold wholeB; rw [ha]; simp
  | c :: d :: r, ha =>
    right; right
    refine ⟨by simp, c, rfl, ?_⟩
    by_cases h : c = 48
    · left; refine ⟨h, ?_⟩; subst h; unfold wholeB; simp
    · right; refine ⟨h, ?_⟩; unfold wholeB; rw [ha]; simp [h]

theorem unsg_drop (s : ByteArray) (h0 : 0 < s.size) : (((((s[0].toNat : Nat) : Int) == 45) = true ∧ unsg s.data.toList = s.data.toList.drop 1 ∧ negB s.data.toList = true) ∨ ((((s[0].toNat : Nat) : Int) == 45) = false ∧ unsg s.data.toList = s.data.toList.drop 0 ∧ negB s.data.toList = false)) := by
  have e := drop_at s 0 h0
  rw [List.drop_zero] at e
  by_cases hc : ((s[0].toNat : Nat) : Int) = 45
  · left
    refine ⟨beq_iff_eq.2 hc, ?_, ?_⟩
    · rw [e]; unfold unsg; dsimp only; rw [if_pos hc]; rfl
    · rw [e]; unfold negB; simp [hc]
  · right
    refine ⟨by simpa using hc, ?_, ?_⟩
    · rw [List.drop_zero]
      conv => lhs; rw [e]
      conv => rhs; rw [e]
      unfold unsg; dsimp only; rw [if_neg hc]
    · rw [e]; unfold negB; simpa using hc

theorem byte_list (s : ByteArray) (fr i : Nat) (hfr : fr ≤ s.size) (hi : scan dgB s fr = i) (hlt : i < s.size) : ∃ h : cnt dgB (s.data.toList.drop fr) < (s.data.toList.drop fr).length, (s.data.toList.drop fr)[cnt dgB (s.data.toList.drop fr)] = s[i] := by
  have e := cnt_drop dgB s fr
  rw [hi] at e
  have hl : (s.data.toList.drop fr).length = s.size - fr := by simp
  refine ⟨by omega, ?_⟩
  rw [List.getElem_drop]
  simp only [← e]
  rfl

theorem ne48 {c : UInt8} (h : c ≠ 48) : (((c.toNat : Nat) : Int) == 48) = false := by
  rw [beq_eq_false_iff_ne]; intro e
  exact h (UInt8.toNat_inj.1 (by have : ((48 : UInt8).toNat) = 48 := rfl; omega))

theorem rparse_any (s : ByteArray) (k : Nat) (w : World) (hk : k ≤ 9) (hs : s.size ≤ 900) : Calls Try.prog 15 #[.string s, .int .i64 k] w (RPost (parseL s.data.toList k) w) := by
  by_cases h0 : 0 < s.size
  · have hz : s.data.toList.length = s.size := by simp
    rcases unsg_drop s h0 with ⟨hm, hu, hn⟩ | ⟨hm, hu, hn⟩
    · obtain ⟨i, hi⟩ : ∃ i, scan dgB s 1 = i := ⟨_, rfl⟩
      have hil := scan_le dgB s 1 (by omega)
      rw [hi] at hil
      have hd := cnt_drop dgB s 1
      rw [hi] at hd
      have hul : (unsg s.data.toList).length = s.size - 1 := by rw [hu]; simp
      by_cases hlt : i < s.size
      · obtain ⟨hlb, hb⟩ := byte_list s 1 i (by omega) hi hlt
        by_cases h46 : ((s[i].toNat : Nat) : Int) = 46
        · have hq : cnt noDot (unsg s.data.toList) = cnt dgB (unsg s.data.toList) := by rw [hu]; exact dot_at hlb (by rw [hb]; exact h46)
          have hd2 : cnt dgB (unsg s.data.toList) = i - 1 := by rw [hu]; omega
          obtain ⟨p, hp⟩ : ∃ p, s.extract (i + 1) s.size = p := ⟨_, rfl⟩
          obtain ⟨wq, hwq⟩ : ∃ wq, s.extract 1 i = wq := ⟨_, rfl⟩
          have hpl : p.data.toList = (unsg s.data.toList).drop (cnt noDot (unsg s.data.toList) + 1) := by rw [← hp, Lib.extract_to_end, hq, hd2, hu, List.drop_drop]; congr 1; omega
          have hwl : wq.data.toList = (unsg s.data.toList).take (cnt noDot (unsg s.data.toList)) := by rw [← hwq, Lib.extract_data, hq, hd2, hu]
          have hps : p.data.toList.length = p.size := by simp
          have hws : wq.data.toList.length = wq.size := by simp
          have hpz : p.size + (i + 1) = s.size := by rw [← hp]; simp; omega
          have hwa : adB wq.data.toList = true := by rw [hwl, take_ad]; exact hq.symm
          have hqlt : cnt noDot (unsg s.data.toList) < (unsg s.data.toList).length := by omega
          have h46b : (((s[i].toNat : Nat) : Int) != 46) = false := by simp [h46]
          by_cases hp0 : p.size = 0
          · rw [pl_none (by unfold formL; rw [if_neg]; rintro ⟨_, h⟩; exact (h hqlt).1 (List.length_eq_zero_iff.1 (by rw [← hpl]; omega)))]
            exact rp_none_t s k w i hk (by omega) h0 hm hi hlt h46b (by omega) p hp
          · by_cases hpk : k < p.size
            · rw [pl_none (by unfold formL; rw [if_neg]; rintro ⟨_, h⟩; have h2 := (h hqlt).2.1; rw [← hpl] at h2; omega)]
              exact rp_many_t s k w i hk (by omega) h0 hm hi hlt h46b (by omega) p hp
            · cases hpd : adB p.data.toList with
              | false =>
                rw [pl_none (by unfold formL; rw [if_neg]; rintro ⟨_, h⟩; have h2 := (h hqlt).2.2; rw [← hpl, hpd] at h2; cases h2)]
                exact rp_nodig_t s k w i hk (by omega) h0 hm hi hlt h46b p hp (by omega) (by omega) wq hwq hpd
              | true =>
                have good : wholeB wq.data.toList = true → formL (unsg s.data.toList) k = some (wq.data.toList, p.data.toList) := by
                  intro h; unfold formL; rw [← hwl, ← hpl, if_pos ⟨h, fun _ => ⟨fun h => by rw [h] at hps; simp at hps; omega, by omega, hpd⟩⟩]
                have bad : wholeB wq.data.toList = false → formL (unsg s.data.toList) k = none := by
                  intro h; unfold formL; rw [← hwl, if_neg]; rintro ⟨h2, _⟩; rw [h] at h2; cases h2
                rcases whole_cases hwa with ⟨hw, hl⟩ | ⟨hw, hl⟩ | ⟨hl, c, hc, ⟨hc48, hw⟩ | ⟨hc48, hw⟩⟩
                · rw [pl_none (bad hw)]
                  exact rp_wholea_t s k w i hk (by omega) h0 hm hi hlt h46b p hp (by omega) (by omega) wq hwq hpd (by omega)
                · rw [pl_some (good hw), hn]
                  exact rp_valg_t s k w i hk (by omega) h0 hm hi hlt h46b p hp (by omega) (by omega) wq hwq hpd (by omega) hwa _ rfl
                · rw [pl_none (bad hw)]
                  rw [head_at wq (by omega)] at hc
                  exact rp_wholeb_t s k w i hk (by omega) h0 hm hi hlt h46b p hp (by omega) (by omega) wq hwq hpd (by omega) (by injection hc with hc; rw [hc, hc48]; rfl)
                · rw [pl_some (good hw), hn]
                  rw [head_at wq (by omega)] at hc
                  exact rp_valh_t s k w i hk (by omega) h0 hm hi hlt h46b p hp (by omega) (by omega) wq hwq hpd (by omega) (by injection hc with hc; rw [hc]; exact ne48 hc48) hwa _ rfl
        · have hq : cnt dgB (unsg s.data.toList) ≠ cnt noDot (unsg s.data.toList) := by rw [hu]; exact dot_no hlb (by rw [hb]; exact h46)
          have hwf : wholeB ((unsg s.data.toList).take (cnt noDot (unsg s.data.toList))) ≠ true := fun h => hq (take_ad.1 (whole_ad h))
          rw [pl_none (by unfold formL; rw [if_neg]; rintro ⟨h, _⟩; exact hwf h)]
          exact rp_byte_t s k w i hk (by omega) h0 hm hi hlt (by simpa using h46)
      · have hie : i = s.size := by omega
        have hd2 : cnt dgB (unsg s.data.toList) = (unsg s.data.toList).length := by rw [hul, hu]; omega
        have hq : cnt noDot (unsg s.data.toList) = (unsg s.data.toList).length := by have h1 := dig_le_dot (unsg s.data.toList); have h2 := cnt_le noDot (unsg s.data.toList); omega
        obtain ⟨wq, hwq⟩ : ∃ wq, s.extract 1 s.size = wq := ⟨_, rfl⟩
        have hwl : wq.data.toList = unsg s.data.toList := by rw [← hwq, Lib.extract_to_end, hu]
        have hws : wq.data.toList.length = wq.size := by simp
        have hwa : adB wq.data.toList = true := by rw [hwl, adB_iff, hd2]
        have htk : (unsg s.data.toList).take (cnt noDot (unsg s.data.toList)) = wq.data.toList := by rw [hq, List.take_length, hwl]
        have hdr : (unsg s.data.toList).drop (cnt noDot (unsg s.data.toList) + 1) = [] := List.drop_eq_nil_of_le (by omega)
        have good : wholeB wq.data.toList = true → formL (unsg s.data.toList) k = some (wq.data.toList, []) := by
          intro h; unfold formL; rw [htk, hdr, if_pos ⟨h, fun h => by omega⟩]
        have bad : wholeB wq.data.toList = false → formL (unsg s.data.toList) k = none := by
          intro h; unfold formL; rw [htk, if_neg]; rintro ⟨h2, _⟩; rw [h] at h2; cases h2
        rcases whole_cases hwa with ⟨hw, hl⟩ | ⟨hw, hl⟩ | ⟨hl, c, hc, ⟨hc48, hw⟩ | ⟨hc48, hw⟩⟩
        · rw [pl_none (bad hw)]
          exact rp_enda_t s k w i hk (by omega) h0 hm hi hie wq hwq (by omega)
        · rw [pl_some (good hw), hn]
          exact rp_vendg_t s k w i hk (by omega) h0 hm hi hie wq hwq (by omega) hwa _ rfl
        · rw [pl_none (bad hw)]
          rw [head_at wq (by omega)] at hc
          exact rp_endb_t s k w i hk (by omega) h0 hm hi hie wq hwq (by omega) (by injection hc with hc; rw [hc, hc48]; rfl)
        · rw [pl_some (good hw), hn]
          rw [head_at wq (by omega)] at hc
          exact rp_vendh_t s k w i hk (by omega) h0 hm hi hie wq hwq (by omega) (by injection hc with hc; rw [hc]; exact ne48 hc48) hwa _ rfl
    · obtain ⟨i, hi⟩ : ∃ i, scan dgB s 0 = i := ⟨_, rfl⟩
      have hil := scan_le dgB s 0 (by omega)
      rw [hi] at hil
      have hd := cnt_drop dgB s 0
      rw [hi] at hd
      have hul : (unsg s.data.toList).length = s.size - 0 := by rw [hu]; simp
      by_cases hlt : i < s.size
      · obtain ⟨hlb, hb⟩ := byte_list s 0 i (by omega) hi hlt
        by_cases h46 : ((s[i].toNat : Nat) : Int) = 46
        · have hq : cnt noDot (unsg s.data.toList) = cnt dgB (unsg s.data.toList) := by rw [hu]; exact dot_at hlb (by rw [hb]; exact h46)
          have hd2 : cnt dgB (unsg s.data.toList) = i - 0 := by rw [hu]; omega
          obtain ⟨p, hp⟩ : ∃ p, s.extract (i + 1) s.size = p := ⟨_, rfl⟩
          obtain ⟨wq, hwq⟩ : ∃ wq, s.extract 0 i = wq := ⟨_, rfl⟩
          have hpl : p.data.toList = (unsg s.data.toList).drop (cnt noDot (unsg s.data.toList) + 1) := by rw [← hp, Lib.extract_to_end, hq, hd2, hu, List.drop_drop]; congr 1; omega
          have hwl : wq.data.toList = (unsg s.data.toList).take (cnt noDot (unsg s.data.toList)) := by rw [← hwq, Lib.extract_data, hq, hd2, hu]
          have hps : p.data.toList.length = p.size := by simp
          have hws : wq.data.toList.length = wq.size := by simp
          have hpz : p.size + (i + 1) = s.size := by rw [← hp]; simp; omega
          have hwa : adB wq.data.toList = true := by rw [hwl, take_ad]; exact hq.symm
          have hqlt : cnt noDot (unsg s.data.toList) < (unsg s.data.toList).length := by omega
          have h46b : (((s[i].toNat : Nat) : Int) != 46) = false := by simp [h46]
          by_cases hp0 : p.size = 0
          · rw [pl_none (by unfold formL; rw [if_neg]; rintro ⟨_, h⟩; exact (h hqlt).1 (List.length_eq_zero_iff.1 (by rw [← hpl]; omega)))]
            exact rp_none_f s k w i hk (by omega) h0 hm hi hlt h46b (by omega) p hp
          · by_cases hpk : k < p.size
            · rw [pl_none (by unfold formL; rw [if_neg]; rintro ⟨_, h⟩; have h2 := (h hqlt).2.1; rw [← hpl] at h2; omega)]
              exact rp_many_f s k w i hk (by omega) h0 hm hi hlt h46b (by omega) p hp
            · cases hpd : adB p.data.toList with
              | false =>
                rw [pl_none (by unfold formL; rw [if_neg]; rintro ⟨_, h⟩; have h2 := (h hqlt).2.2; rw [← hpl, hpd] at h2; cases h2)]
                exact rp_nodig_f s k w i hk (by omega) h0 hm hi hlt h46b p hp (by omega) (by omega) wq hwq hpd
              | true =>
                have good : wholeB wq.data.toList = true → formL (unsg s.data.toList) k = some (wq.data.toList, p.data.toList) := by
                  intro h; unfold formL; rw [← hwl, ← hpl, if_pos ⟨h, fun _ => ⟨fun h => by rw [h] at hps; simp at hps; omega, by omega, hpd⟩⟩]
                have bad : wholeB wq.data.toList = false → formL (unsg s.data.toList) k = none := by
                  intro h; unfold formL; rw [← hwl, if_neg]; rintro ⟨h2, _⟩; rw [h] at h2; cases h2
                rcases whole_cases hwa with ⟨hw, hl⟩ | ⟨hw, hl⟩ | ⟨hl, c, hc, ⟨hc48, hw⟩ | ⟨hc48, hw⟩⟩
                · rw [pl_none (bad hw)]
                  exact rp_wholea_f s k w i hk (by omega) h0 hm hi hlt h46b p hp (by omega) (by omega) wq hwq hpd (by omega)
                · rw [pl_some (good hw), hn]
                  exact rp_valg_f s k w i hk (by omega) h0 hm hi hlt h46b p hp (by omega) (by omega) wq hwq hpd (by omega) hwa _ rfl
                · rw [pl_none (bad hw)]
                  rw [head_at wq (by omega)] at hc
                  exact rp_wholeb_f s k w i hk (by omega) h0 hm hi hlt h46b p hp (by omega) (by omega) wq hwq hpd (by omega) (by injection hc with hc; rw [hc, hc48]; rfl)
                · rw [pl_some (good hw), hn]
                  rw [head_at wq (by omega)] at hc
                  exact rp_valh_f s k w i hk (by omega) h0 hm hi hlt h46b p hp (by omega) (by omega) wq hwq hpd (by omega) (by injection hc with hc; rw [hc]; exact ne48 hc48) hwa _ rfl
        · have hq : cnt dgB (unsg s.data.toList) ≠ cnt noDot (unsg s.data.toList) := by rw [hu]; exact dot_no hlb (by rw [hb]; exact h46)
          have hwf : wholeB ((unsg s.data.toList).take (cnt noDot (unsg s.data.toList))) ≠ true := fun h => hq (take_ad.1 (whole_ad h))
          rw [pl_none (by unfold formL; rw [if_neg]; rintro ⟨h, _⟩; exact hwf h)]
          exact rp_byte_f s k w i hk (by omega) h0 hm hi hlt (by simpa using h46)
      · have hie : i = s.size := by omega
        have hd2 : cnt dgB (unsg s.data.toList) = (unsg s.data.toList).length := by rw [hul, hu]; omega
        have hq : cnt noDot (unsg s.data.toList) = (unsg s.data.toList).length := by have h1 := dig_le_dot (unsg s.data.toList); have h2 := cnt_le noDot (unsg s.data.toList); omega
        obtain ⟨wq, hwq⟩ : ∃ wq, s.extract 0 s.size = wq := ⟨_, rfl⟩
        have hwl : wq.data.toList = unsg s.data.toList := by rw [← hwq, Lib.extract_to_end, hu]
        have hws : wq.data.toList.length = wq.size := by simp
        have hwa : adB wq.data.toList = true := by rw [hwl, adB_iff, hd2]
        have htk : (unsg s.data.toList).take (cnt noDot (unsg s.data.toList)) = wq.data.toList := by rw [hq, List.take_length, hwl]
        have hdr : (unsg s.data.toList).drop (cnt noDot (unsg s.data.toList) + 1) = [] := List.drop_eq_nil_of_le (by omega)
        have good : wholeB wq.data.toList = true → formL (unsg s.data.toList) k = some (wq.data.toList, []) := by
          intro h; unfold formL; rw [htk, hdr, if_pos ⟨h, fun h => by omega⟩]
        have bad : wholeB wq.data.toList = false → formL (unsg s.data.toList) k = none := by
          intro h; unfold formL; rw [htk, if_neg]; rintro ⟨h2, _⟩; rw [h] at h2; cases h2
        rcases whole_cases hwa with ⟨hw, hl⟩ | ⟨hw, hl⟩ | ⟨hl, c, hc, ⟨hc48, hw⟩ | ⟨hc48, hw⟩⟩
        · rw [pl_none (bad hw)]
          exact rp_enda_f s k w i hk (by omega) h0 hm hi hie wq hwq (by omega)
        · rw [pl_some (good hw), hn]
          exact rp_vendg_f s k w i hk (by omega) h0 hm hi hie wq hwq (by omega) hwa _ rfl
        · rw [pl_none (bad hw)]
          rw [head_at wq (by omega)] at hc
          exact rp_endb_f s k w i hk (by omega) h0 hm hi hie wq hwq (by omega) (by injection hc with hc; rw [hc, hc48]; rfl)
        · rw [pl_some (good hw), hn]
          rw [head_at wq (by omega)] at hc
          exact rp_vendh_f s k w i hk (by omega) h0 hm hi hie wq hwq (by omega) (by injection hc with hc; rw [hc]; exact ne48 hc48) hwa _ rfl
  · have hz : s.data.toList.length = s.size := by simp
    have hl : s.data.toList = [] := List.length_eq_zero_iff.1 (by omega)
    have e : parseL s.data.toList k = (0, 7) := by rw [hl]; exact pl_none rfl
    rw [e]
    exact rp_empty s k w (by omega) hk
end Go.Proofs.Ytkabmmpldanmcaa
