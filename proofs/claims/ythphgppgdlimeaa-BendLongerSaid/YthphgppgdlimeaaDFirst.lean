/- What a text begins with, as plain functions on lists of bytes: the kind of a token, and its size. Nothing of the program. -/
import Derived.Test.YthphgppgdlimeaaDPure
namespace Go.Proofs.Ythphgppgdlimeaa.Dec

/-- The size of the number that a list begins with. -/
def numL (l : List UInt8) : Nat :=
  match l.drop (cnt dgB l) with
  | [] => cnt dgB l
  | b :: r => if (b.toNat : Int) = 46 ∧ cnt dgB r ≠ 0 then cnt dgB l + 1 + cnt dgB r else cnt dgB l

def nextEq : List UInt8 → Bool
  | [] => false
  | b :: _ => (b.toNat : Int) == 61

inductive Cls | blank | hash | nl | dig | cmp | sym | let_ | bad
  deriving DecidableEq

def cls (c : Int) : Cls :=
  if c = 32 ∨ c = 9 then .blank else if c = 35 then .hash else if c = 10 then .nl else if 48 ≤ c ∧ c ≤ 57 then .dig
  else if c = 62 ∨ c = 60 ∨ c = 58 then .cmp
  else if c = 45 ∨ c = 43 ∨ c = 44 ∨ c = 59 ∨ c = 47 ∨ c = 61 ∨ c = 40 ∨ c = 41 ∨ c = 42 then .sym
  else if (97 ≤ c ∧ c ≤ 122) ∨ (65 ≤ c ∧ c ≤ 90) then .let_ else .bad

/-- The kind of what a list begins with, and its size. -/
def firstL : List UInt8 → Int × Nat
  | [] => (0, 0)
  | c :: r =>
    match cls (c.toNat : Int) with
    | .blank => (0, 1)
    | .hash => (0, cnt noNl (c :: r))
    | .nl => (4, 1)
    | .dig => (2, numL (c :: r))
    | .cmp => (3, if nextEq r = true then 2 else 1)
    | .sym => (3, 1)
    | .let_ => if 20 < cnt wdB (c :: r) then (-1, 0) else (1, cnt wdB (c :: r))
    | .bad => (-1, 0)

theorem cls_dig {c : Int} (h1 : 48 ≤ c) (h2 : c ≤ 57) : cls c = .dig := by
  unfold cls; rw [if_neg (by omega), if_neg (by omega), if_neg (by omega), if_pos ⟨h1, h2⟩]
theorem cls_let {c : Int} (h : (97 ≤ c ∧ c ≤ 122) ∨ (65 ≤ c ∧ c ≤ 90)) : cls c = .let_ := by
  unfold cls; rw [if_neg (by omega), if_neg (by omega), if_neg (by omega), if_neg (by omega), if_neg (by omega), if_neg (by omega), if_pos h]

/-- All classes of a byte, with the tests of the text decided. -/
theorem cls_cases (c : Int) :
    c = 32 ∨ c = 9 ∨ c = 35 ∨ c = 10 ∨ (48 ≤ c ∧ c ≤ 57) ∨ c = 62 ∨ c = 60 ∨ c = 58 ∨ c = 45 ∨ c = 43 ∨ c = 44 ∨ c = 59 ∨ c = 47 ∨ c = 61 ∨ c = 40 ∨ c = 41 ∨ c = 42 ∨
    ((97 ≤ c ∧ c ≤ 122) ∨ (65 ≤ c ∧ c ≤ 90)) ∨
    (cls c = .bad ∧ ltB c = false ∧ dgB c = false ∧ (c == 32) = false ∧ (c == 9) = false ∧ (c == 35) = false ∧ (c == 10) = false ∧ (c == 48) = false ∧ (c == 49) = false ∧ (c == 50) = false ∧ (c == 51) = false ∧ (c == 52) = false ∧ (c == 53) = false ∧ (c == 54) = false ∧ (c == 55) = false ∧ (c == 56) = false ∧ (c == 57) = false ∧
      (c == 62) = false ∧ (c == 60) = false ∧ (c == 58) = false ∧ (c == 45) = false ∧ (c == 43) = false ∧ (c == 44) = false ∧ (c == 59) = false ∧ (c == 47) = false ∧ (c == 61) = false ∧ (c == 40) = false ∧ (c == 41) = false ∧ (c == 42) = false) := by
  by_cases h1 : c = 32; · exact .inl h1
  by_cases h2 : c = 9; · exact .inr (.inl h2)
  by_cases h3 : c = 35; · exact .inr (.inr (.inl h3))
  by_cases h4 : c = 10; · exact .inr (.inr (.inr (.inl h4)))
  by_cases h5 : 48 ≤ c ∧ c ≤ 57; · exact .inr (.inr (.inr (.inr (.inl h5))))
  refine .inr (.inr (.inr (.inr (.inr ?_))))
  by_cases h6 : c = 62; · exact .inl h6
  by_cases h7 : c = 60; · exact .inr (.inl h7)
  by_cases h8 : c = 58; · exact .inr (.inr (.inl h8))
  refine .inr (.inr (.inr ?_))
  by_cases a1 : c = 45; · exact .inl a1
  by_cases a2 : c = 43; · exact .inr (.inl a2)
  by_cases a3 : c = 44; · exact .inr (.inr (.inl a3))
  by_cases a4 : c = 59; · exact .inr (.inr (.inr (.inl a4)))
  refine .inr (.inr (.inr (.inr ?_)))
  by_cases a5 : c = 47; · exact .inl a5
  by_cases a6 : c = 61; · exact .inr (.inl a6)
  by_cases a7 : c = 40; · exact .inr (.inr (.inl a7))
  by_cases a8 : c = 41; · exact .inr (.inr (.inr (.inl a8)))
  by_cases a9 : c = 42; · exact .inr (.inr (.inr (.inr (.inl a9))))
  refine .inr (.inr (.inr (.inr (.inr ?_))))
  by_cases hl : (97 ≤ c ∧ c ≤ 122) ∨ (65 ≤ c ∧ c ≤ 90); · exact .inl hl
  refine .inr ⟨?_, ltB_no.2 hl, dgB_no.2 h5, ?_⟩
  · unfold cls; simp [*]
  · refine ⟨?_, ?_, ?_, ?_, ?_, ?_, ?_, ?_, ?_, ?_, ?_, ?_, ?_, ?_, ?_, ?_, ?_, ?_, ?_, ?_, ?_, ?_, ?_, ?_, ?_, ?_⟩ <;> (rw [beq_eq_false_iff_ne]; first | assumption | (intro e; apply h5; omega))

theorem cnt_drop (p : Int → Bool) (s : ByteArray) (k : Nat) : scan p s k = k + cnt p (s.data.toList.drop k) := rfl

theorem cnt_cons (p : Int → Bool) (c : UInt8) (r : List UInt8) (h : p (c.toNat : Int) = true) : cnt p (c :: r) = cnt p r + 1 := by rw [cnt, if_pos h]

/-- The number at place k of a string, by its scans. -/
theorem numL_end (s : ByteArray) (k : Nat) (h : s.size ≤ scan dgB s k) : k + numL (s.data.toList.drop k) = scan dgB s k := by
  unfold numL
  have e : (s.data.toList.drop k).drop (cnt dgB (s.data.toList.drop k)) = [] := by
    rw [List.drop_drop]; apply List.drop_eq_nil_of_le
    have := h; rw [cnt_drop] at this; simpa using this
  rw [e]; rfl

theorem numL_plain (s : ByteArray) (k : Nat) (h : scan dgB s k < s.size) (hc : ((s[scan dgB s k]).toNat : Int) ≠ 46 ∨ s.size ≤ scan dgB s k + 1 ∨ (scan dgB s (scan dgB s k + 1) = scan dgB s k + 1)) : k + numL (s.data.toList.drop k) = scan dgB s k := by
  unfold numL
  rw [List.drop_drop, ← cnt_drop, drop_at s _ h]
  by_cases hb : ((s[scan dgB s k]).toNat : Int) = 46
  · dsimp only
    rw [if_neg]
    · rfl
    · rintro ⟨_, hz⟩
      apply hz
      rcases hc with hc | hc | hc
      · exact absurd hb hc
      · rw [List.drop_eq_nil_of_le (by simpa using hc)]; rfl
      · rw [cnt_drop dgB s (scan dgB s k + 1)] at hc; omega
  · dsimp only; rw [if_neg (by rintro ⟨h1, _⟩; exact hb h1)]; rfl

theorem numL_point (s : ByteArray) (k : Nat) (h : scan dgB s k < s.size) (hb : ((s[scan dgB s k]).toNat : Int) = 46) (hc : scan dgB s (scan dgB s k + 1) ≠ scan dgB s k + 1) : k + numL (s.data.toList.drop k) = scan dgB s (scan dgB s k + 1) := by
  unfold numL
  rw [List.drop_drop, ← cnt_drop, drop_at s _ h]
  have e := cnt_drop dgB s (scan dgB s k + 1)
  dsimp only
  rw [if_pos ⟨hb, by omega⟩]
  have e0 := cnt_drop dgB s k
  show k + (cnt dgB (s.data.toList.drop k) + 1 + _) = _
  omega

theorem numL_end' (s : ByteArray) (k d : Nat) (hd : scan dgB s k = d) (h : s.size ≤ d) : k + numL (s.data.toList.drop k) = d := by
  subst hd; exact numL_end s k h
theorem numL_plain' (s : ByteArray) (k d : Nat) (hd : scan dgB s k = d) (h : d < s.size) (hc : ((s[d]).toNat : Int) ≠ 46 ∨ s.size ≤ d + 1 ∨ (scan dgB s (d + 1) = d + 1)) : k + numL (s.data.toList.drop k) = d := by
  subst hd; exact numL_plain s k h hc
theorem numL_point' (s : ByteArray) (k d q : Nat) (hd : scan dgB s k = d) (h : d < s.size) (hb : ((s[d]).toNat : Int) = 46) (hq : scan dgB s (d + 1) = q) (hc : q ≠ d + 1) : k + numL (s.data.toList.drop k) = q := by
  subst hd; subst hq; exact numL_point s k h hb hc
theorem drop_zero' {α : Type} (l : List α) : l.drop 0 = l := rfl
end Go.Proofs.Ythphgppgdlimeaa.Dec
