/- Labels of nodes: the least node that is joined to a node. -/
import Derived.Test.YtampfciacjifgaaPs
namespace Go.Proofs.Ytampfciacjifgaa
set_option linter.unusedVariables false
set_option linter.unusedSimpArgs false

/-- Nodes that are joined by edges. -/
inductive Cn (E : Nat → Nat → Prop) : Nat → Nat → Prop
  | refl (a : Nat) : Cn E a a
  | tail {a b c : Nat} : Cn E a b → (E b c ∨ E c b) → Cn E a c
theorem Cn.trans {E : Nat → Nat → Prop} {a b c : Nat} (h : Cn E a b) (k : Cn E b c) : Cn E a c := by
  induction k with
  | refl => exact h
  | tail _ e ih => exact .tail ih e
theorem Cn.one {E : Nat → Nat → Prop} {a b : Nat} (h : E a b) : Cn E a b := .tail (.refl a) (.inl h)
theorem Cn.eno {E : Nat → Nat → Prop} {a b : Nat} (h : E b a) : Cn E a b := .tail (.refl a) (.inr h)
theorem Cn.symm {E : Nat → Nat → Prop} {a b : Nat} (h : Cn E a b) : Cn E b a := by
  induction h with
  | refl => exact .refl _
  | tail _ e ih =>
    rcases e with e | e
    · exact (Cn.eno e).trans ih
    · exact (Cn.one e).trans ih
theorem Cn.mono {E F : Nat → Nat → Prop} (h : ∀ a b, E a b → F a b) {a b : Nat} (k : Cn E a b) : Cn F a b := by
  induction k with
  | refl => exact .refl _
  | tail _ e ih => exact .tail ih (e.imp (h _ _) (h _ _))
structure Lab (E : Nat → Nat → Prop) (R : Nat → Nat) : Prop where
  e : ∀ a b, E a b → R a = R b
  c : ∀ j, Cn E j (R j)
  l : ∀ j, R j ≤ j
theorem Lab.const {E : Nat → Nat → Prop} {R : Nat → Nat} (h : Lab E R) {a b : Nat} (k : Cn E a b) : R a = R b := by
  induction k with
  | refl => rfl
  | tail _ e ih =>
    rcases e with e | e
    · rw [ih, h.e _ _ e]
    · rw [ih, h.e _ _ e]
theorem Lab.uniq {E : Nat → Nat → Prop} {R L : Nat → Nat} (h : Lab E R) (k : Lab E L) (j : Nat) : R j = L j := by
  have a := k.const (h.c j)
  have b := h.const (k.c j)
  have c := k.l (R j)
  have d := h.l (L j)
  omega
theorem Lab.join {E : Nat → Nat → Prop} {R : Nat → Nat} (h : Lab E R) (x y : Nat) : Lab (fun a b => E a b ∨ (a = x ∧ b = y)) (joinR R x y) := by
  have up : ∀ {a b}, Cn E a b → Cn (fun a b => E a b ∨ (a = x ∧ b = y)) a b := fun k => k.mono fun _ _ => .inl
  have idm : ∀ j, R (R j) = R j := fun j => (h.const (h.c j)).symm
  refine ⟨fun a b k => ?_, fun j => ?_, fun j => ?_⟩
  · rcases k with k | ⟨rfl, rfl⟩
    · unfold joinR; rw [h.e a b k]
    · unfold joinR; split <;> split <;> omega
  · have xy : Cn (fun a b => E a b ∨ (a = x ∧ b = y)) (R x) (R y) := (up (h.c x)).symm.trans ((Cn.one (.inr ⟨rfl, rfl⟩)).trans (up (h.c y)))
    unfold joinR
    split
    · rename_i e
      refine (up (h.c j)).trans ?_
      rw [e]
      rcases Nat.le_total (R x) (R y) with k | k
      · rw [Nat.max_eq_right k, Nat.min_eq_left k]; exact xy.symm
      · rw [Nat.max_eq_left k, Nat.min_eq_right k]; exact xy
    · exact up (h.c j)
  · unfold joinR
    have := h.l j
    split <;> omega
/-- The first edges, but one. -/
def ed (l : List (Nat × Nat)) (most : Nat) (but : Int) (a b : Nat) : Prop := ∃ i, i < most ∧ (i : Int) ≠ but ∧ l[i]? = some (a, b)
theorem Lab.same {E F : Nat → Nat → Prop} {R : Nat → Nat} (h : Lab E R) (e : ∀ a b, E a b ↔ F a b) : Lab F R :=
  ⟨fun a b k => h.e a b ((e a b).2 k), fun j => (h.c j).mono fun a b => (e a b).1, h.l⟩
theorem pre_lab (l : List (Nat × Nat)) : ∀ k, k ≤ l.length → Lab (ed l k (-1)) (pre l k)
  | 0, _ => ⟨fun a b ⟨i, h, _⟩ => absurd h (Nat.not_lt_zero i), fun j => .refl _, fun j => Nat.le_refl _⟩
  | k + 1, hk => by
    rw [pre_next hk]
    refine ((pre_lab l k (by omega)).join l[k].1 l[k].2).same fun a b => ⟨?_, ?_⟩
    · rintro (⟨i, h1, h2, h3⟩ | ⟨rfl, rfl⟩)
      · exact ⟨i, by omega, h2, h3⟩
      · exact ⟨k, by omega, by omega, List.getElem?_eq_getElem hk⟩
    · rintro ⟨i, h1, h2, h3⟩
      by_cases e : i = k
      · subst e
        rw [List.getElem?_eq_getElem hk] at h3
        simp only [Option.some.injEq] at h3
        exact .inr ⟨by rw [h3], by rw [h3]⟩
      · exact .inl ⟨i, by omega, h2, h3⟩

/-- A list of labels. -/
def lf (xs : List Nat) (j : Nat) : Nat := xs.getD j j
theorem lf_at {xs : List Nat} {j : Nat} (h : j < xs.length) : lf xs j = xs[j] := by simp [lf, h]
theorem lf_set {xs : List Nat} {i v : Nat} (h : i < xs.length) (j : Nat) : lf (xs.set i v) j = if j = i then v else lf xs j := by
  by_cases e : j = i
  · subst e; simp [lf, h]
  · rw [if_neg e]; simp [lf, List.getElem?_set, Ne.symm e]
/-- What the search for labels keeps. -/
structure Ls (E : Nat → Nat → Prop) (n : Nat) (xs : List Nat) : Prop where
  n : xs.length = n
  c : ∀ j, Cn E j (lf xs j)
  l : ∀ j, lf xs j ≤ j
theorem Ls.start (E : Nat → Nat → Prop) (n : Nat) : Ls E n (List.range n) := by
  have : ∀ j, lf (List.range n) j = j := fun j => by
    unfold lf
    rw [List.getD_eq_getElem?_getD]
    rcases Nat.lt_or_ge j n with h | h
    · rw [List.getElem?_range h]; rfl
    · rw [List.getElem?_eq_none (by simpa using h)]; rfl
  exact ⟨by simp, fun j => by rw [this]; exact .refl _, fun j => by rw [this]; exact Nat.le_refl _⟩
theorem sum_set : ∀ (xs : List Nat) (i v : Nat) (h : i < xs.length), v < xs[i] → (xs.set i v).sum < xs.sum
  | x :: xs, 0, v, _, h => by simp at h ⊢; omega
  | x :: xs, i + 1, v, h, k => by
    have := sum_set xs i v (by simpa using h) (by simpa using k)
    simp; omega
theorem Ls.put {E : Nat → Nat → Prop} {n : Nat} {xs : List Nat} (h : Ls E n xs) {a b : Nat} (ha : a < n) (hb : b < n) (e : E a b ∨ E b a) (lt : xs[a]'(by rw [h.n]; exact ha) < xs[b]'(by rw [h.n]; exact hb)) :
    Ls E n (xs.set b (xs[a]'(by rw [h.n]; exact ha))) ∧ (xs.set b (xs[a]'(by rw [h.n]; exact ha))).sum < xs.sum := by
  have hn := h.n
  have ea := lf_at (xs := xs) (j := a) (by omega)
  have eb := lf_at (xs := xs) (j := b) (by omega)
  refine ⟨⟨by simp [hn], fun j => ?_, fun j => ?_⟩, sum_set _ _ _ _ lt⟩
  · rw [lf_set (by omega)]
    split
    · subst_vars
      rw [← ea]
      have k : Cn E j a := by
        rcases e with e | e
        · exact .eno e
        · exact .one e
      exact k.trans (h.c a)
    · exact h.c j
  · rw [lf_set (by omega)]
    split
    · subst_vars
      have := h.l j
      omega
    · exact h.l j
theorem Ls.done {E : Nat → Nat → Prop} {n : Nat} {xs : List Nat} (h : Ls E n xs) (k : ∀ a b, E a b → lf xs a = lf xs b) : Lab E (lf xs) := ⟨k, h.c, h.l⟩
theorem lf_list {n : Nat} {xs : List Nat} {R : Nat → Nat} (hn : xs.length = n) (h : ∀ j, lf xs j = R j) : xs = (List.range n).map R := by
  apply List.ext_getElem
  · simp [hn]
  · intro i h1 h2
    rw [← lf_at h1, h]; simp
end Go.Proofs.Ytampfciacjifgaa
