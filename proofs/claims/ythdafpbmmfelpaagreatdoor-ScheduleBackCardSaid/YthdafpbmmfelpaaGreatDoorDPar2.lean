/- The contract of decimal.Parse, in one piece: it returns what parseL says, for strings of at most 900 bytes. -/
import Derived.Test.YthdafpbmmfelpaaGreatDoorDPar
namespace Go.Proofs.YthdafpbmmfelpaaGreatDoor.Dec
open Go.ChangeShapes Go.WideShapes Go.ChangeAt Go.RowKit
set_option linter.unusedVariables false

theorem unsg_len (l : List UInt8) : (negB l = true ∧ (unsg l).length + 1 = l.length) ∨ (negB l = false ∧ (unsg l).length = l.length) := by
  cases l with
  | nil => exact .inr ⟨rfl, rfl⟩
  | cons c r =>
    by_cases hc : (c.toNat : Int) = 45
    · left; unfold negB unsg; dsimp only; rw [if_pos hc]; simp [hc]
    · right; unfold negB unsg; dsimp only; rw [if_neg hc]; simp [hc]

theorem adB_append {a b : List UInt8} (ha : adB a = true) (hb : adB b = true) : adB (a ++ b) = true := by
  rw [adB_iff] at *; rw [cnt_append_all dgB a b ha, hb]; simp
theorem adB_rep (c : Nat) : adB (List.replicate c 48) = true := by
  rw [adB_iff, cnt_all_iff]; intro x hx
  rw [List.eq_of_mem_replicate hx]; rfl
theorem whole_ad {l : List UInt8} (h : wholeB l = true) : adB l = true := by
  unfold wholeB at h
  by_cases h1 : (l == [48]) = true
  · rw [eq_of_beq h1]; rfl
  · cases ha : adB l
    · rw [ha] at h; simp at h; simp [h] at h1
    · rfl
theorem valL_le : ∀ (l : List UInt8) (n m : Nat), n ≤ 1152921504606846976 → adB l = true → valL n l = some m → m ≤ 1152921504606846976
  | [], n, m, hn, _, h => by simp [valL] at h; omega
  | c :: r, n, m, hn, hd, h => by
    rw [valL] at h
    split at h
    · cases h
    · rename_i hb
      have hall := (cnt_all_iff dgB _).1 (adB_iff.1 hd)
      have hc := dgB_iff.1 (hall c (by simp))
      have hr : adB r = true := by rw [adB_iff, cnt_all_iff]; intro x hx; exact hall x (by simp [hx])
      have hdv : dv c ≤ 9 := by unfold dv; omega
      exact valL_le r _ m (by omega) hr h

theorem pad_eq (k : Nat) (p : List UInt8) (c : Nat) (h : k = p.length + c) : padL k p = List.replicate c 48 := by unfold padL; rw [show k - p.length = c by omega]

theorem parse_any (s : ByteArray) (k : Nat) (w : World) (hk : k ≤ 9) (hs : s.size ≤ 900) : Calls Tryz.prog 112 #[.string s, .int .i64 k] w (ParRet (parseL s.data.toList k) w) := by
  have hz : s.data.toList.length = s.size := by simp
  have hul := unsg_len s.data.toList
  rw [hz] at hul
  obtain ⟨u, hu⟩ : ∃ u : ByteArray, u = ⟨(unsg s.data.toList).toArray⟩ := ⟨_, rfl⟩
  have hud : u.data.toList = unsg s.data.toList := by rw [hu]
  have hus : u.size = (unsg s.data.toList).length := by rw [hu]; simp [ByteArray.size]
  have hqle := cnt_le noDot (unsg s.data.toList)
  -- the value's stage, in either case
  have stage : ∀ (wq p : ByteArray) (b : Bool), (∀ W : World, Calls Tryz.prog 141 #[.string u, .string ⟨#[46]⟩] W fun e w' => e = .returned (.tuple #[.string wq, .string p, .bool b]) ∧ ∃ n, w' = W.drewN n) →
      wq.size ≤ 900 → p.size ≤ 900 → wholeB wq.data.toList = true → (b = false → p.size = 0) → (b = true → 0 < p.size) → p.size ≤ k → adB p.data.toList = true →
      Calls Tryz.prog 112 #[.string s, .int .i64 k] w (ParRet (match valL 0 (wq.data.toList ++ p.data.toList ++ padL k p.data.toList) with | none => (0, 5) | some n => (if negB s.data.toList = true then -(n : Int) else n, 0)) w) := by
    intro wq p b hc hwq hpp hw hbf hbt hpk hpd
    obtain ⟨c, hkc⟩ : ∃ c, k = p.size + c := ⟨k - p.size, by omega⟩
    have hpl : p.data.toList.length = p.size := by simp
    rw [pad_eq k p.data.toList c (by rw [hpl]; exact hkc)]
    obtain ⟨z, hzd⟩ : ∃ z : ByteArray, z = ⟨(List.replicate c (48 : UInt8)).toArray⟩ := ⟨_, rfl⟩
    have hzl : z.data.toList = List.replicate c 48 := by rw [hzd]
    have hcat : (wq ++ p ++ z).data.toList = wq.data.toList ++ p.data.toList ++ List.replicate c 48 := by rw [cat_data, cat_data, hzl]
    have had : adB (wq ++ p ++ z).data.toList = true := by rw [hcat]; exact adB_append (adB_append (whole_ad hw) hpd) (adB_rep c)
    rw [← hcat]
    cases hv : valL 0 (wq ++ p ++ z).data.toList with
    | none =>
      cases b with
      | false => exact parse_big_f s k c u wq p z w hk (by omega) hu hwq (by omega) (by omega) hkc hzd hw hc had hv
      | true => exact parse_big_t s k c u wq p z w hk (by omega) hu hwq (by omega) (by omega) hkc hzd hw hc had hv (hbt rfl) hpd
    | some nv =>
      have hnb := valL_le _ _ _ (by omega) had hv
      rcases hul with ⟨hn, hl⟩ | ⟨hn, hl⟩
      · rw [hn]
        cases b with
        | false => exact parse_neg_f s k c u wq p z w hk (by omega) hu hwq (by omega) (by omega) hkc hzd hw hc had nv hv hnb (by omega)
        | true => exact parse_neg_t s k c u wq p z w hk (by omega) hu hwq (by omega) (by omega) hkc hzd hw hc had nv hv hnb (hbt rfl) hpd (by omega)
      · rw [hn]
        cases b with
        | false => exact parse_pos_f s k c u wq p z w hk (by omega) hu hwq (by omega) (by omega) hkc hzd hw hc had nv hv hnb (by omega)
        | true => exact parse_pos_t s k c u wq p z w hk (by omega) hu hwq (by omega) (by omega) hkc hzd hw hc had nv hv hnb (hbt rfl) hpd (by omega)
  obtain ⟨q, hq⟩ : ∃ q, cnt noDot (unsg s.data.toList) = q := ⟨_, rfl⟩
  unfold parseL formL
  rw [hq] at hqle ⊢
  rw [← hud] at hqle hq ⊢
  by_cases hlt : q < u.size
  · have c1 : (u.extract 0 q).data.toList = u.data.toList.take q := by rw [Lib.extract_data]; simp
    have c2 : (u.extract (q + 1) u.size).data.toList = u.data.toList.drop (q + 1) := Lib.extract_to_end u (q + 1)
    have s1 : (u.extract 0 q).size ≤ 900 := by simp; omega
    have s2 : (u.extract (q + 1) u.size).size = u.size - (q + 1) := by simp
    have hcut := fun W : World => cut_yes u q W (by omega) hq hlt
    generalize hwq : u.extract 0 q = wq at *
    generalize hpp : u.extract (q + 1) u.size = p at *
    have hpl : p.data.toList.length = p.size := by simp
    rw [← c1, ← c2]
    have hlu : u.data.toList.length = u.size := by simp
    cases hw : wholeB wq.data.toList with
    | false =>
      rw [if_neg (by simp)]
      exact parse_bad_t s k u wq p w hk (by omega) hu (by omega) (by omega) hcut hw
    | true =>
      by_cases h0 : p.size = 0
      · rw [if_neg (fun h => (h.2 (by omega)).1 (List.length_eq_zero_iff.1 (by omega)))]
        exact parse_empty s k u wq p w hk (by omega) hu (by omega) (by omega) hcut hw h0
      · by_cases hkp : k < p.size
        · rw [if_neg (fun h => by have := (h.2 (by omega)).2.1; omega)]
          exact parse_long s k u wq p w hk (by omega) hu (by omega) (by omega) hcut hw hkp
        · cases hd : adB p.data.toList with
          | false =>
            rw [if_neg (fun h => by have := (h.2 (by omega)).2.2; cases this)]
            exact parse_nodig s k u wq p w hk (by omega) hu (by omega) (by omega) hcut hw (by omega) (by omega) hd
          | true =>
            rw [if_pos ⟨rfl, fun _ => ⟨fun h => by rw [h] at hpl; simp at hpl; omega, by omega, rfl⟩⟩]
            exact stage wq p true hcut s1 (by omega) hw (fun h => by cases h) (fun _ => by omega) (by omega) hd
  · have hqe : q = u.size := by
      have : u.data.toList.length = u.size := by simp
      omega
    have c1 : u.data.toList.take q = u.data.toList := List.take_of_length_le (by simp; omega)
    have c2 : u.data.toList.drop (q + 1) = (⟨#[]⟩ : ByteArray).data.toList := List.drop_eq_nil_of_le (by simp; omega)
    have hlu : u.data.toList.length = u.size := by simp
    have hcut := fun W : World => cut_no u W (by omega) (by rw [hq, hqe])
    rw [c1, c2]
    cases hw : wholeB u.data.toList with
    | false =>
      rw [if_neg (by simp)]
      exact parse_bad_f s k u u ⟨#[]⟩ w hk (by omega) hu (by omega) (Nat.zero_le _) hcut hw
    | true =>
      rw [if_pos ⟨rfl, fun h => by omega⟩]
      exact stage u ⟨#[]⟩ false hcut (by omega) (Nat.zero_le _) hw (fun _ => rfl) (fun h => by cases h) (Nat.zero_le _) rfl
end Go.Proofs.YthdafpbmmfelpaaGreatDoor.Dec
