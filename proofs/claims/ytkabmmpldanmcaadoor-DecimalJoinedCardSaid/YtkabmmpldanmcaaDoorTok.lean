/- The tokens of a text, as a plain function on lists of bytes, and its laws. Nothing of the program. -/
import Derived.Test.YtkabmmpldanmcaaDoorFirst
namespace Go.Proofs.YtkabmmpldanmcaaDoor

structure Tok where
  kind : Int
  text : List UInt8
  line : Nat
  col : Nat
  deriving DecidableEq

theorem numL_le (l : List UInt8) : cnt dgB l ≤ numL l ∧ numL l ≤ l.length := by
  have h1 := cnt_le dgB l
  unfold numL
  split
  · exact ⟨Nat.le_refl _, h1⟩
  · rename_i b r hb
    have h2 := cnt_le dgB r
    have h3 := congrArg List.length hb
    simp at h3
    split <;> omega

def firstC (k : Cls) (c : UInt8) (r : List UInt8) : Int × Nat :=
  match k with
  | .blank => (0, 1)
  | .hash => (0, cnt noNl (c :: r))
  | .nl => (4, 1)
  | .dig => (2, numL (c :: r))
  | .cmp => (3, if nextEq r = true then 2 else 1)
  | .sym => (3, 1)
  | .let_ => if 20 < cnt wdB (c :: r) then (-1, 0) else (1, cnt wdB (c :: r))
  | .bad => (-1, 0)

theorem firstL_ok (c : UInt8) (r : List UInt8) : ((firstL (c :: r)).1 = -1 ∨ (firstL (c :: r)).1 = 0 ∨ (firstL (c :: r)).1 = 1 ∨ (firstL (c :: r)).1 = 2 ∨ (firstL (c :: r)).1 = 3 ∨ (firstL (c :: r)).1 = 4) ∧ ((firstL (c :: r)).1 = 4 → (firstL (c :: r)).2 = 1) ∧
    ((firstL (c :: r)).1 ≠ -1 → 1 ≤ (firstL (c :: r)).2 ∧ (firstL (c :: r)).2 ≤ (c :: r).length) := by
  have hn := numL_le (c :: r)
  have hw := cnt_le wdB (c :: r)
  have hc := cnt_le noNl (c :: r)
  have e : firstL (c :: r) = firstC (cls (c.toNat : Int)) c r := rfl
  rw [e]
  cases hk : cls (c.toNat : Int) <;> simp only [firstC]
  · simp
  · have h1 : c.toNat = 35 := by
      unfold cls at hk; repeat' split at hk
      all_goals first | omega | contradiction
    have h2 : cnt noNl (c :: r) = cnt noNl r + 1 := cnt_cons _ _ _ (by rw [h1]; rfl)
    exact ⟨by simp, by simp, fun _ => ⟨by omega, hc⟩⟩
  · simp
  · have h1 : 48 ≤ (c.toNat : Int) ∧ (c.toNat : Int) ≤ 57 := by
      unfold cls at hk; repeat' split at hk
      all_goals first | assumption | contradiction
    have h2 : cnt dgB (c :: r) = cnt dgB r + 1 := cnt_cons _ _ _ (dgB_iff.2 h1)
    exact ⟨by simp, by simp, fun _ => ⟨by omega, hn.2⟩⟩
  · by_cases hq : nextEq r = true
    · have : r ≠ [] := by intro e; subst e; cases hq
      have h2 : 0 < r.length := List.length_pos_iff.2 this
      simp [hq]; omega
    · simp [hq]
  · simp
  · have h1 : (97 ≤ (c.toNat : Int) ∧ (c.toNat : Int) ≤ 122) ∨ (65 ≤ (c.toNat : Int) ∧ (c.toNat : Int) ≤ 90) := by
      unfold cls at hk; repeat' split at hk
      all_goals first | assumption | contradiction
    have h2 : cnt wdB (c :: r) = cnt wdB r + 1 := cnt_cons _ _ _ (by unfold wdB; rw [ltB_iff.2 h1]; rfl)
    by_cases h20 : 20 < cnt wdB (c :: r)
    · simp [h20]
    · rw [if_neg h20]; refine ⟨by simp, by simp, fun _ => ⟨by omega, hw⟩⟩
  · simp

/-- What the tokens of a text are: a position of an error, or a list. -/
inductive Res | bad (line col : Nat) | good (l : List Tok)

def Res.put (t : Tok) : Res → Res
  | .bad a b => .bad a b
  | .good l => .good (t :: l)
def Res.pre (p : List Tok) : Res → Res
  | .bad a b => .bad a b
  | .good l => .good (p ++ l)

theorem Res.pre_nil (r : Res) : r.pre [] = r := by cases r <;> rfl
theorem Res.pre_put (p : List Tok) (t : Tok) (r : Res) : (r.put t).pre p = r.pre (p ++ [t]) := by cases r <;> simp [Res.pre, Res.put]

def toks : Nat → List UInt8 → Nat → Nat → Res
  | 0, _, ln, co => .good [⟨5, [], ln, co⟩]
  | _ + 1, [], ln, co => .good [⟨5, [], ln, co⟩]
  | f + 1, c :: r, ln, co =>
    if (firstL (c :: r)).1 = -1 then .bad ln co
    else if (firstL (c :: r)).1 = 0 then toks f ((c :: r).drop (firstL (c :: r)).2) ln (co + (firstL (c :: r)).2)
    else if (firstL (c :: r)).1 = 4 then (toks f ((c :: r).drop (firstL (c :: r)).2) (ln + 1) 1).put ⟨4, [], ln, co⟩
    else (toks f ((c :: r).drop (firstL (c :: r)).2) ln (co + (firstL (c :: r)).2)).put ⟨(firstL (c :: r)).1, (c :: r).take (firstL (c :: r)).2, ln, co⟩

theorem toks_fuel : ∀ (f g : Nat) (l : List UInt8) (ln co : Nat), l.length ≤ f → l.length ≤ g → toks f l ln co = toks g l ln co := by
  intro f
  induction f with
  | zero =>
    intro g l ln co hf hg
    have : l = [] := List.length_eq_zero_iff.1 (by omega)
    subst this
    cases g <;> rfl
  | succ f ih =>
    intro g l ln co hf hg
    cases l with
    | nil => cases g <;> rfl
    | cons c r =>
      cases g with
      | zero => simp at hg
      | succ g =>
        obtain ⟨h1, h2, h3⟩ := firstL_ok c r
        by_cases hb : (firstL (c :: r)).1 = -1
        · rw [toks, toks, if_pos hb, if_pos hb]
        · have h4 := h3 hb
          have hd : ((c :: r).drop (firstL (c :: r)).2).length ≤ f := by simp at *; omega
          have hd' : ((c :: r).drop (firstL (c :: r)).2).length ≤ g := by simp at *; omega
          rw [toks, toks, if_neg hb, if_neg hb, ih g _ ln (co + (firstL (c :: r)).2) hd hd', ih g _ (ln + 1) 1 hd hd']

/-- The tokens of a text whose first byte has this position. -/
def T (l : List UInt8) (ln co : Nat) : Res := toks l.length l ln co

theorem T_nil (ln co : Nat) : T [] ln co = .good [⟨5, [], ln, co⟩] := rfl

theorem T_step {l : List UInt8} (hl : 0 < l.length) (ln co : Nat) : T l ln co =
    if (firstL l).1 = -1 then .bad ln co
    else if (firstL l).1 = 0 then T (l.drop (firstL l).2) ln (co + (firstL l).2)
    else if (firstL l).1 = 4 then (T (l.drop (firstL l).2) (ln + 1) 1).put ⟨4, [], ln, co⟩
    else (T (l.drop (firstL l).2) ln (co + (firstL l).2)).put ⟨(firstL l).1, l.take (firstL l).2, ln, co⟩ := by
  cases l with
  | nil => simp at hl
  | cons c r =>
    obtain ⟨h1, h2, h3⟩ := firstL_ok c r
    by_cases hb : (firstL (c :: r)).1 = -1
    · unfold T; rw [List.length_cons, toks, if_pos hb, if_pos hb]
    · have h4 := h3 hb
      have hd : ((c :: r).drop (firstL (c :: r)).2).length ≤ r.length := by simp at *; omega
      have e1 := fun a b => toks_fuel r.length ((c :: r).drop (firstL (c :: r)).2).length ((c :: r).drop (firstL (c :: r)).2) a b hd (Nat.le_refl _)
      unfold T
      rw [List.length_cons, toks, if_neg hb, if_neg hb, e1, e1]

theorem firstL_len {l : List UInt8} (hl : 0 < l.length) : ((firstL l).1 = -1 ∨ (firstL l).1 = 0 ∨ (firstL l).1 = 1 ∨ (firstL l).1 = 2 ∨ (firstL l).1 = 3 ∨ (firstL l).1 = 4) ∧ ((firstL l).1 = 4 → (firstL l).2 = 1) ∧ ((firstL l).1 ≠ -1 → 1 ≤ (firstL l).2 ∧ (firstL l).2 ≤ l.length) := by
  cases l with
  | nil => simp at hl
  | cons c r => exact firstL_ok c r
end Go.Proofs.YtkabmmpldanmcaaDoor
