/- Joined by some of the edges; bridges. -/
import Derived.Test.YtampfciacjifgaaBr0
import Derived.Test.YtampfciacjifgaaDst
namespace Go.Proofs.Ytampfciacjifgaa
set_option linter.unusedVariables false
set_option linter.unusedSimpArgs false

theorem nx_is {l : List (Nat × Nat)} {i v : Nat} {x : Nat × Nat} (h : l[i]? = some x) : nx l i v = oth x v := by unfold nx; rw [h]
/-- Edge j ends at v. -/
def Ic (l : List (Nat × Nat)) (j v : Nat) : Prop := ∃ x, l[j]? = some x ∧ (x.1 = v ∨ x.2 = v)
def Ok (l : List (Nat × Nat)) (n : Nat) : Prop := ∀ x ∈ l, x.1 < n ∧ x.2 < n ∧ x.1 ≠ x.2
theorem ic_adj {l : List (Nat × Nat)} {j v : Nat} : j ∈ adj l (List.range l.length) v ↔ Ic l j v := by
  constructor
  · intro h; exact (adj_mem h).2
  · rintro ⟨x, hx, hv⟩
    refine List.mem_filter.2 ⟨List.mem_range.2 (List.getElem?_eq_some_iff.1 hx).1, ?_⟩
    unfold inc; rw [hx]; simpa using hv
theorem ic_nx {l : List (Nat × Nat)} {n j v : Nat} (hl : Ok l n) (h : Ic l j v) : Ic l j (nx l j v) ∧ nx l j (nx l j v) = v ∧ nx l j v ≠ v ∧ nx l j v < n := by
  obtain ⟨x, hx, hv⟩ := h
  have hm := hl x (List.mem_of_getElem? hx)
  have k := oth_inv hv hm.2.2
  rw [nx_is hx]
  refine ⟨⟨x, hx, k.2⟩, by rw [nx_is hx]; exact k.1, ?_, ?_⟩
  · unfold oth; split <;> omega
  · unfold oth; split <;> omega
theorem ic_two {l : List (Nat × Nat)} {n j u v : Nat} (hl : Ok l n) (h : Ic l j u) (k : Ic l j v) : u = v ∨ u = nx l j v := by
  obtain ⟨x, hx, hu⟩ := h
  obtain ⟨y, hy, hv⟩ := k
  rw [hx] at hy; cases hy
  rw [nx_is hx]
  unfold oth
  split <;> omega
theorem ic_lt {l : List (Nat × Nat)} {n j v : Nat} (hl : Ok l n) (h : Ic l j v) : v < n := by
  obtain ⟨x, hx, hv⟩ := h
  have hm := hl x (List.mem_of_getElem? hx)
  omega
/-- Joined by edges of which P tells so. -/
inductive Ce (l : List (Nat × Nat)) (P : Nat → Prop) : Nat → Nat → Prop
  | refl (a : Nat) : Ce l P a a
  | tail {a b : Nat} (j : Nat) : Ce l P a b → P j → Ic l j b → Ce l P a (nx l j b)
theorem Ce.mono {l : List (Nat × Nat)} {P Q : Nat → Prop} {a b : Nat} (h : Ce l P a b) (k : ∀ j, P j → Q j) : Ce l Q a b := by
  induction h with
  | refl => exact .refl _
  | tail j _ hp hi ih => exact .tail j ih (k j hp) hi
theorem Ce.trans {l : List (Nat × Nat)} {P : Nat → Prop} {a b c : Nat} (h : Ce l P a b) (k : Ce l P b c) : Ce l P a c := by
  induction k with
  | refl => exact h
  | tail j _ hp hi ih => exact .tail j ih hp hi
theorem Ce.one {l : List (Nat × Nat)} {P : Nat → Prop} {a j : Nat} (hp : P j) (hi : Ic l j a) : Ce l P a (nx l j a) := .tail j (.refl a) hp hi
theorem Ce.symm {l : List (Nat × Nat)} {n : Nat} (hl : Ok l n) {P : Nat → Prop} {a b : Nat} (h : Ce l P a b) : Ce l P b a := by
  induction h with
  | refl => exact .refl _
  | @tail b j _ hp hi ih =>
    have k := ic_nx hl hi
    have := Ce.one (P := P) hp k.1
    rw [k.2.1] at this
    exact this.trans ih
theorem ce_cn {l : List (Nat × Nat)} {i a b : Nat} (h : Ce l (fun j => j ≠ i) a b) : Cn (ed l l.length i) a b := by
  induction h with
  | refl => exact .refl _
  | @tail b j _ hp hi ih =>
    obtain ⟨x, hx, hv⟩ := hi
    have hj := (List.getElem?_eq_some_iff.1 hx).1
    refine .tail ih ?_
    rw [nx_is hx]
    unfold oth
    by_cases e : x.1 = b
    · rw [if_pos e]; exact .inl ⟨j, hj, by omega, by rw [hx, ← e]⟩
    · rw [if_neg e]; exact .inr ⟨j, hj, by omega, by rw [hx, ← hv.resolve_left e]⟩
theorem cn_ce {l : List (Nat × Nat)} {n : Nat} (hl : Ok l n) {i a b : Nat} (h : Cn (ed l l.length i) a b) : Ce l (fun j => j ≠ i) a b := by
  induction h with
  | refl => exact .refl _
  | @tail b c _ e ih =>
    rcases e with ⟨j, hj, hn, hx⟩ | ⟨j, hj, hn, hx⟩
    · have hi : Ic l j b := ⟨_, hx, .inl rfl⟩
      have e : nx l j b = c := by rw [nx_is hx]; simp [oth]
      have := ih.tail j (by omega) hi
      rwa [e] at this
    · have hi : Ic l j b := ⟨_, hx, .inr rfl⟩
      have hm := hl _ (List.mem_of_getElem? hx)
      have e : nx l j b = c := by
        rw [nx_is hx]; unfold oth
        have : ¬ c = b := hm.2.2
        simp [this]
      have := ih.tail j (by omega) hi
      rwa [e] at this
/-- Edge i is a bridge: its ends are not joined by the others. -/
def Brd (l : List (Nat × Nat)) (i : Nat) : Prop := ∀ v, Ic l i v → ¬ Ce l (fun j => j ≠ i) v (nx l i v)
theorem not_brd {l : List (Nat × Nat)} {i v : Nat} (hi : Ic l i v) (h : Ce l (fun j => j ≠ i) v (nx l i v)) : ¬ Brd l i := fun k => k v hi h
theorem is_brd {l : List (Nat × Nat)} {n i v : Nat} (hl : Ok l n) (hi : Ic l i v) (h : ¬ Ce l (fun j => j ≠ i) v (nx l i v)) : Brd l i := by
  intro u hu k
  rcases ic_two hl hu hi with e | e
  · rw [e] at k; exact h k
  · have x := ic_nx hl hi
    rw [e, x.2.1] at k
    exact h (k.symm hl)
end Go.Proofs.Ytampfciacjifgaa
