/- Merge: the reference's way of counting is the program's. -/
import Derived.Test.YthdafpbmmfelpaaGreatDoorMg
namespace Go.Proofs.YthdafpbmmfelpaaGreatDoor
open Go.ChangeShapes Go.WideShapes Go.ChangeAt Go.RowKit
set_option linter.unusedVariables false
set_option linter.unusedSimpArgs false

/-- What the loops keep of the list merged so far; r: what is still to come. -/
structure Kpm (a m r : List Bar) : Prop where
  l1 : a.length ≤ m.length
  ct : ∀ c ∈ r, ∀ (h : fnd c.mark a < a.length), ∃ h2 : fnd c.mark a < m.length, m[fnd c.mark a].count = a[fnd c.mark a].count
theorem Kpm.start (a b : List Bar) : Kpm a a b := ⟨Nat.le_refl _, fun c _ h => ⟨h, rfl⟩⟩
theorem Kpm.new {a m r : List Bar} {c x : Bar} (h : Kpm a m (c :: r)) : Kpm a (m ++ [x]) r :=
  ⟨by have := h.l1; simp; omega, fun y hy hf => by
    obtain ⟨h2, e⟩ := h.ct y (by simp [hy]) hf
    exact ⟨by simp; omega, by rw [List.getElem_append_left h2]; exact e⟩⟩
theorem Kpm.old {a m r : List Bar} {c x : Bar} (h : Kpm a m (c :: r)) (hd : ∀ y ∈ r, y.mark ≠ c.mark) (hf : fnd c.mark a < a.length) : Kpm a (m.set (fnd c.mark a) x) r :=
  ⟨by have := h.l1; simp; omega, fun y hy hfy => by
    obtain ⟨h2, e⟩ := h.ct y (by simp [hy]) hfy
    have hne : fnd c.mark a ≠ fnd y.mark a := fun e2 => by
      have h1 := eqN_iff.1 (fnd_at hf)
      have h3 := eqN_iff.1 (fnd_at hfy)
      refine hd y hy ?_
      rw [← h1, ← h3]
      congr 2
      exact e2.symm
    exact ⟨by simp; omega, by rw [List.getElem_set_ne hne]; exact e⟩⟩
theorem valid_marks {l : List Bar} (h : validL l = true) {k : Nat} (hk : k < l.length) : ∀ y ∈ l.drop (k + 1), y.mark ≠ l[k].mark := by
  intro y hy e
  obtain ⟨i, hi, rfl⟩ := List.mem_iff_getElem.1 hy
  have hi' : k + 1 + i < l.length := by simp at hi; omega
  rw [List.getElem_drop] at e
  unfold validL at h
  simp only [Bool.and_eq_true, decide_eq_true_eq, List.all_eq_true, List.mem_range] at h
  have h2 := h.2 (k + 1 + i) hi'
  rw [okAt_eq hi'] at h2
  simp only [Bool.and_eq_true, decide_eq_true_eq] at h2
  have h3 := h2.2
  unfold fndV at h3
  split at h3
  · omega
  · rename_i hn
    have hlen : (l.take (k + 1 + i)).length = k + 1 + i := by simp; omega
    have hle := fnd_le l[k + 1 + i].mark (l.take (k + 1 + i))
    have := fnd_lt (m := l[k + 1 + i].mark) (l := l.take (k + 1 + i)) (k := k) (by omega) (by omega)
    rw [List.getElem_take, eqN_iff.2 e.symm] at this
    cases this
theorem any_set {m : List Bar} {i : Nat} {y : Bar} (h : i < m.length) (hs : bigB m[i] = false) : (m.set i y).any bigB = (m.any bigB || bigB y) := by
  rw [Bool.eq_iff_iff, Bool.or_eq_true, List.any_eq_true, List.any_eq_true]
  constructor
  · rintro ⟨x, hx, hb⟩
    rcases List.mem_or_eq_of_mem_set hx with h1 | rfl
    · exact .inl ⟨x, h1, hb⟩
    · exact .inr hb
  · rintro (⟨x, hx, hb⟩ | hb)
    · obtain ⟨j, hj, rfl⟩ := List.mem_iff_getElem.1 hx
      have hne : i ≠ j := fun e => by subst e; rw [hs] at hb; cases hb
      exact ⟨_, List.mem_iff_getElem.2 ⟨j, by simpa using hj, List.getElem_set_ne hne _⟩, hb⟩
    · exact ⟨y, List.mem_iff_getElem.2 ⟨i, by simpa using h, List.getElem_set_self _⟩, hb⟩
theorem mrg_nrm_len {l m : List Bar} (h : l.map nrm = m.map nrm) : l.length = m.length := by simpa using congrArg List.length h
end Go.Proofs.YthdafpbmmfelpaaGreatDoor
