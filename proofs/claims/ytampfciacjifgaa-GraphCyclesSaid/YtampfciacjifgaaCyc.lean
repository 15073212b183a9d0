/- Cycles. -/
import Derived.Test.YtampfciacjifgaaClo
namespace Go.Proofs.Ytampfciacjifgaa
open Go.ChangeShapes Go.WideShapes Go.ChangeAt Go.RowKit
set_option linter.unusedVariables false
set_option linter.unusedSimpArgs false

theorem inF_mem {l : List (Nat × Nat)} {k i : Nat} : i ∈ inF l k ↔ i < k ∧ joins l i = true := by simp [inF]
theorem outF_mem {l : List (Nat × Nat)} {k i : Nat} : i ∈ outF l k ↔ i < k ∧ joins l i = false := by simp [outF]
theorem ro_const {E : Nat → Nat → Prop} {ro : Nat → Nat} (h : ∀ a b, E a b → ro a = ro b) {a b : Nat} (k : Cn E a b) : ro a = ro b := by
  induction k with
  | refl => rfl
  | tail _ e ih =>
    rcases e with e | e
    · rw [ih, h _ _ e]
    · rw [ih, h _ _ e]
/-- Both ends of each edge lie in one tree of the forest. -/
theorem ro_edge {l : List (Nat × Nat)} {n : Nat} {f : Nat → Int} {ro : Nat → Nat} (hl : ∀ x ∈ l, x.1 < n ∧ x.2 < n ∧ x.1 ≠ x.2) (h : Fo (nbr l n (adj l (inF l l.length))) n n f ro) : ∀ i (hi : i < l.length), ro l[i].1 = ro l[i].2 := by
  intro i
  induction i using Nat.strongRecOn with
  | _ i ih =>
    intro hi
    have hx := hl _ (List.getElem_mem hi)
    have e0 : l[i]? = some l[i] := List.getElem?_eq_getElem hi
    cases hj : joins l i
    · have hp := joins_at hi
      rw [hj] at hp
      have hp2 : pre l i l[i].1 = pre l i l[i].2 := by simpa using hp.symm
      have L := pre_lab l i (Nat.le_of_lt hi)
      have c : Cn (ed l i (-1)) l[i].1 l[i].2 := (L.c _).trans (by rw [hp2]; exact (L.c _).symm)
      exact ro_const (fun a b ⟨j, hj1, _, hj2⟩ => by
        have hjl : j < l.length := (List.getElem?_eq_some_iff.1 hj2).1
        have e := (List.getElem?_eq_some_iff.1 hj2).2
        have := ih j hj1 hjl
        rw [e] at this; exact this) c
    · have hin : i ∈ inF l l.length := inF_mem.2 ⟨hi, hj⟩
      have him : i ∈ adj l (inF l l.length) l[i].1 := List.mem_filter.2 ⟨hin, by unfold inc; rw [e0]; simp⟩
      have nb : nbr l n (adj l (inF l l.length)) l[i].1 l[i].2 := ⟨hx.1, i, him, l[i], e0, if_pos rfl⟩
      exact (h.rn _ (h.all _ hx.1) _ nb).symm
/-- The cycle of edge i. -/
def cyc (l : List (Nat × Nat)) (f : Nat → Int) (i : Nat) : List Nat :=
  let u := (l.getD i (0, 0)).2
  let v := (l.getD i (0, 0)).1
  i :: ((wk l (adj l (inF l l.length)) f (f u + f v).toNat u v).1 ++ (wk l (adj l (inF l l.length)) f (f u + f v).toNat u v).2.reverse)
theorem wk_ne {l : List (Nat × Nat)} {n : Nat} {xs : List Nat} {f : Nat → Int} {ro : Nat → Nat} (hl : ∀ x ∈ l, x.1 < n ∧ x.2 < n ∧ x.1 ≠ x.2) (h : Fo (nbr l n (adj l xs)) n n f ro) {u v : Nat} (hu : u < n) (hv : v < n) (ne : u ≠ v) (hr : ro u = ro v) :
    0 < ((wk l (adj l xs) f (f u + f v).toNat u v).1 ++ (wk l (adj l xs) f (f u + f v).toNat u v).2.reverse).length := by
  have u0 := h.all u hu
  have v0 := h.all v hv
  have hz : ¬ (f u = 0 ∧ f v = 0) := fun ⟨a, b⟩ => ne (by rw [← h.rz u a, ← h.rz v b]; exact hr)
  obtain ⟨k, hk⟩ : ∃ k, (f u + f v).toNat = k + 1 := ⟨(f u + f v).toNat - 1, by omega⟩
  rw [hk, wk, if_neg ne]
  by_cases c : f v ≤ f u
  · rw [if_pos c]
    obtain ⟨-, i0, x, -, -, -, hf, -⟩ := h.near hl hu (by omega)
    rw [hf]; simp
  · rw [if_neg c]
    obtain ⟨-, i0, x, -, -, -, hf, -⟩ := h.near hl hv (by omega)
    rw [hf]
    simp only [List.length_append, List.length_reverse, List.length_cons]
    omega
theorem wk_len (l : List (Nat × Nat)) (A : Nat → List Nat) (f : Nat → Int) : ∀ k u v, (wk l A f k u v).1.length + (wk l A f k u v).2.length ≤ k
  | 0, _, _ => by simp [wk]
  | k + 1, u, v => by
    rw [wk]
    split
    · simp
    · split
      · split
        · have := wk_len l A f k (nx l ‹_› u) v
          simp; omega
        · simp
      · split
        · have := wk_len l A f k u (nx l ‹_› v)
          simp; omega
        · simp
end Go.Proofs.Ytampfciacjifgaa
