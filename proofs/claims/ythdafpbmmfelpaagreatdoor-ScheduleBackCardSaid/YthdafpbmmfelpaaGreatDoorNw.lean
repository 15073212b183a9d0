/- The words of a line: numbers, as plain functions on lists of bytes, and the program's and the reference's readers of them. -/
import Derived.Test.YthdafpbmmfelpaaGreatDoorDPar2
namespace Go.Proofs.YthdafpbmmfelpaaGreatDoor
open Go.ChangeShapes Go.WideShapes Go.ChangeAt Go.RowKit Dec
set_option linter.unusedVariables false
set_option linter.unusedSimpArgs false

/-- The number behind m with these digits. -/
def dnum (m : Nat) (l : List UInt8) : Nat := l.foldl (fun m c => 10 * m + dv c) m
theorem dv_le {c : UInt8} (h : dgB (c.toNat : Int) = true) : dv c ≤ 9 := by have := dgB_iff.1 h; unfold dv; omega
theorem ad_cons {c : UInt8} {r : List UInt8} (h : adB (c :: r) = true) : dgB (c.toNat : Int) = true ∧ adB r = true := by
  have hall := (cnt_all_iff dgB _).1 (adB_iff.1 h)
  exact ⟨hall c (by simp), by rw [adB_iff, cnt_all_iff]; intro x hx; exact hall x (by simp [hx])⟩
theorem dnum_lt : ∀ (l : List UInt8) (m k : Nat), adB l = true → m < 10 ^ k → dnum m l < 10 ^ (k + l.length)
  | [], m, k, _, h => h
  | c :: r, m, k, h, hm => by
    obtain ⟨h1, h2⟩ := ad_cons h
    have := dv_le h1
    have e : 10 ^ (k + 1) = 10 * 10 ^ k := by rw [Nat.pow_succ, Nat.mul_comm]
    have ih := dnum_lt r (10 * m + dv c) (k + 1) h2 (by omega)
    rw [List.length_cons, show k + (r.length + 1) = k + 1 + r.length by omega]
    exact ih
theorem val_dnum : ∀ (l : List UInt8) (m k : Nat), adB l = true → m < 10 ^ k → k + l.length ≤ 10 → valL m l = some (dnum m l)
  | [], m, k, _, _, _ => rfl
  | c :: r, m, k, h, hm, hk => by
    obtain ⟨h1, h2⟩ := ad_cons h
    have hd := dv_le h1
    rw [List.length_cons] at hk
    have h10 : 10 ^ k ≤ 10 ^ 10 := Nat.pow_le_pow_right (by decide) (by omega)
    have h11 : (10 : Nat) ^ 10 = 10000000000 := by decide
    have e : 10 ^ (k + 1) = 10 * 10 ^ k := by rw [Nat.pow_succ, Nat.mul_comm]
    rw [valL, if_neg (by omega)]
    exact val_dnum r (10 * m + dv c) (k + 1) h2 (by omega) (by omega)
/-- A word that is a number: at most ten digits, no superfluous zero. -/
def numW (l : List UInt8) : Bool := wholeB l && decide (l.length ≤ 10)
theorem noDot_all {l : List UInt8} (h : adB l = true) : cnt noDot l = l.length := by
  have h1 := dig_le_dot l
  have h2 := cnt_le noDot l
  have h3 := adB_iff.1 h
  omega
theorem neg_whole {l : List UInt8} (h : wholeB l = true) : negB l = false := by
  cases l with
  | nil => rfl
  | cons c r =>
    have h1 := dgB_iff.1 (ad_cons (whole_ad h)).1
    unfold negB
    simp; omega
theorem unsg_id {l : List UInt8} (h : negB l = false) : unsg l = l := by
  cases l with
  | nil => rfl
  | cons c r =>
    unfold negB at h
    show (if (c.toNat : Int) = 45 then r else c :: r) = _
    rw [if_neg (by simpa using h)]
theorem form_zero (l : List UInt8) : formL l 0 = if wholeB l = true then some (l, []) else none := by
  unfold formL
  by_cases hw : wholeB l = true
  · have e := noDot_all (whole_ad hw)
    rw [e, List.take_of_length_le (Nat.le_refl _), if_pos ⟨hw, fun h => absurd h (Nat.lt_irrefl _)⟩, if_pos hw, List.drop_eq_nil_of_le (by omega)]
  · rw [if_neg hw, if_neg]
    rintro ⟨h1, h2⟩
    have hle := cnt_le noDot l
    rcases Nat.lt_or_ge (cnt noDot l) l.length with h | h
    · obtain ⟨h3, h4, -⟩ := h2 h
      exact h3 (List.eq_nil_of_length_eq_zero (by omega))
    · rw [List.take_of_length_le h] at h1
      exact hw h1
/-- What the program's Parse says of a word of at most ten bytes that does not begin with a minus sign. -/
theorem parse_zero {l : List UInt8} (hn : negB l = false) (hl : l.length ≤ 10) : parseL l 0 = if wholeB l = true then ((dnum 0 l : Int), 0) else (0, 7) := by
  unfold parseL
  rw [unsg_id hn, form_zero]
  by_cases hw : wholeB l = true
  · rw [if_pos hw, if_pos hw]
    have e : l ++ [] ++ padL 0 [] = l := by simp [padL]
    simp only [e]
    rw [val_dnum l 0 0 (whole_ad hw) (by decide) (by omega)]
    simp [hn]
  · rw [if_neg hw, if_neg hw]
/-- What it says of the others is of no weight: the minus sign is looked at behind it. -/
theorem whole_neg {l : List UInt8} (h : negB l = true) : wholeB l = false := by
  cases hw : wholeB l
  · rfl
  · rw [neg_whole hw] at h; cases h
theorem dnum_snoc (m : Nat) (l : List UInt8) (c : UInt8) : dnum m (l ++ [c]) = 10 * dnum m l + dv c := by
  unfold dnum
  rw [List.foldl_append]; rfl
end Go.Proofs.YthdafpbmmfelpaaGreatDoor
