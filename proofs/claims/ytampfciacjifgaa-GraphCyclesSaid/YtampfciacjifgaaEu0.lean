/- Forests: how many edges they have; their own forest is all of them. -/
import Derived.Test.YtampfciacjifgaaDst
import Derived.Test.YtampfciacjifgaaCyc
namespace Go.Proofs.Ytampfciacjifgaa
set_option linter.unusedVariables false
set_option linter.unusedSimpArgs false

theorem in_out (l : List (Nat × Nat)) : ∀ k, (inF l k).length + (outF l k).length = k
  | 0 => rfl
  | k + 1 => by
    have := in_out l k
    rw [inF_next, outF_next, List.length_append, List.length_append]
    split <;> simp <;> omega
theorem joinR_same {R : Nat → Nat} {x y : Nat} (h : R x = R y) : joinR R x y = R := by
  funext j; unfold joinR
  rw [h, Nat.max_self, Nat.min_self]
  split <;> simp_all
theorem filter_erase (n a : Nat) (ha : a < n) (f g : Nat → Bool) (hg : ∀ j, g j = (f j && decide (j ≠ a))) (hfa : f a = true) : ((List.range n).filter g).length + 1 = ((List.range n).filter f).length := by
  induction n with
  | zero => omega
  | succ n ih =>
    rw [range_next, range_next, List.length_append, List.length_append]
    by_cases e : a = n
    · subst e
      have : (List.range a).filter g = (List.range a).filter f := List.filter_congr fun j hj => by
        have := List.mem_range.1 hj
        rw [hg, decide_eq_true (show j ≠ a by omega), Bool.and_true]
      rw [this, if_pos hfa, hg a, hfa]
      simp
    · have := ih (by omega)
      rw [hg n, decide_eq_true (show n ≠ a by omega), Bool.and_true]
      omega
/-- To join two sets takes one of their first nodes away. -/
theorem roots_join {R : Nat → Nat} {n x y : Nat} (le : ∀ j, R j ≤ j) (id : ∀ j, R (R j) = R j) (hx : x < n) (hy : y < n) (h : R x ≠ R y) : (roots (joinR R x y) n).length + 1 = (roots R n).length := by
  unfold roots
  have m1 : max (R x) (R y) < n := by have := le x; have := le y; omega
  refine filter_erase n (max (R x) (R y)) m1 _ _ (fun j => ?_) ?_
  · unfold joinR
    by_cases e : j = max (R x) (R y)
    · have e2 : R j = max (R x) (R y) := by
        rw [e]; rcases Nat.le_total (R x) (R y) with k | k
        · rw [Nat.max_eq_right k, id]
        · rw [Nat.max_eq_left k, id]
      rw [if_pos e2, decide_eq_false (by simpa using e), Bool.and_false]
      have : ¬ (min (R x) (R y) = j) := by omega
      simpa using this
    · rw [decide_eq_true (by simpa using e), Bool.and_true]
      by_cases e2 : R j = max (R x) (R y)
      · rw [if_pos e2]
        have h1 : ¬ (R j = j) := by omega
        have h2 : ¬ (min (R x) (R y) = j) := by
          intro h3
          have : R j = j := by
            rw [← h3]; rcases Nat.le_total (R x) (R y) with k | k
            · rw [Nat.min_eq_left k, id]
            · rw [Nat.min_eq_right k, id]
          exact h1 this
        have h1b : (R j == j) = false := by simpa using h1
        have h2b : (min (R x) (R y) == j) = false := by simpa using h2
        rw [h1b, h2b]
      · rw [if_neg e2]
  · have : R (max (R x) (R y)) = max (R x) (R y) := by
      rcases Nat.le_total (R x) (R y) with k | k
      · rw [Nat.max_eq_right k, id]
      · rw [Nat.max_eq_left k, id]
    simpa using this
theorem pre_le (l : List (Nat × Nat)) (k : Nat) (hk : k ≤ l.length) (j : Nat) : pre l k j ≤ j := (pre_lab l k hk).l j
theorem pre_id (l : List (Nat × Nat)) (k : Nat) (hk : k ≤ l.length) (j : Nat) : pre l k (pre l k j) = pre l k j := ((pre_lab l k hk).const ((pre_lab l k hk).c j)).symm
/-- Edges of the forest and parts are together as many as the nodes. -/
theorem in_roots {l : List (Nat × Nat)} {n : Nat} (hl : ∀ x ∈ l, x.1 < n ∧ x.2 < n ∧ x.1 ≠ x.2) : ∀ k, k ≤ l.length → (inF l k).length + (roots (pre l k) n).length = n
  | 0, _ => by
    have : roots (pre l 0) n = List.range n := List.filter_eq_self.2 fun j _ => by simp [pre]
    rw [this]; simp [inF]
  | k + 1, hk => by
    have ih := in_roots hl k (by omega)
    have hm := hl _ (List.getElem_mem (show k < l.length by omega))
    rw [inF_next, List.length_append, pre_next (by omega)]
    cases hj : joins l k
    · have e : pre l k l[k].1 = pre l k l[k].2 := by
        have := joins_at (l := l) (i := k) (by omega)
        rw [hj] at this; simpa using this.symm
      rw [joinR_same e]
      simpa using ih
    · have e : pre l k l[k].1 ≠ pre l k l[k].2 := by
        have := joins_at (l := l) (i := k) (by omega)
        rw [hj] at this; simpa using this.symm
      have := roots_join (pre_le l k (by omega)) (pre_id l k (by omega)) hm.1 hm.2.1 e
      simp; omega

/-- The edges of the forest, as a graph. -/
def ff (l : List (Nat × Nat)) (k : Nat) : List (Nat × Nat) := (inF l k).map fun i => l.getD i (0, 0)
theorem ff_len (l : List (Nat × Nat)) (k : Nat) : (ff l k).length = (inF l k).length := by simp [ff]
theorem ff_yes {l : List (Nat × Nat)} {k : Nat} (hk : k < l.length) (h : joins l k = true) : ff l (k + 1) = ff l k ++ [l[k]] := by
  unfold ff; rw [inF_next, h, if_pos rfl, List.map_append]; simp [hk]
theorem ff_no {l : List (Nat × Nat)} {k : Nat} (h : joins l k = false) : ff l (k + 1) = ff l k := by
  unfold ff; rw [inF_next, h]; simp
theorem pre_app (l m : List (Nat × Nat)) : ∀ k, k ≤ l.length → pre (l ++ m) k = pre l k
  | 0, _ => rfl
  | k + 1, hk => by
    rw [pre_next (show k < l.length by omega), pre_next (show k < (l ++ m).length by simp; omega), pre_app l m k (by omega)]
    rw [List.getElem_append_left (show k < l.length by omega)]
theorem joins_app (l m : List (Nat × Nat)) {k : Nat} (hk : k < l.length) : joins (l ++ m) k = joins l k := by
  rw [joins_at hk, joins_at (show k < (l ++ m).length by simp; omega), pre_app l m k (by omega)]
  rw [List.getElem_append_left (show k < l.length by omega)]
theorem ff_pre (l : List (Nat × Nat)) : ∀ k, k ≤ l.length → pre (ff l k) (ff l k).length = pre l k ∧ ∀ i, i < (ff l k).length → joins (ff l k) i = true
  | 0, _ => ⟨rfl, fun i hi => by simp [ff, inF] at hi⟩
  | k + 1, hk => by
    obtain ⟨h1, h2⟩ := ff_pre l k (by omega)
    cases hj : joins l k
    · rw [ff_no hj]
      have e : pre l k l[k].1 = pre l k l[k].2 := by
        have := joins_at (l := l) (i := k) (by omega)
        rw [hj] at this; simpa using this.symm
      refine ⟨?_, h2⟩
      rw [h1, pre_next (by omega), joinR_same e]
    · have e : pre l k l[k].1 ≠ pre l k l[k].2 := by
        have := joins_at (l := l) (i := k) (by omega)
        rw [hj] at this; simpa using this.symm
      rw [ff_yes (by omega) hj]
      refine ⟨?_, fun i hi => ?_⟩
      · rw [List.length_append, List.length_singleton, pre_next (show (ff l k).length < (ff l k ++ [l[k]]).length by simp), pre_app _ _ _ (Nat.le_refl _), h1, pre_next (show k < l.length by omega)]
        simp
      · rcases Nat.lt_or_ge i (ff l k).length with a | a
        · rw [joins_app _ _ a]; exact h2 i a
        · have : i = (ff l k).length := by simp at hi; omega
          subst this
          rw [joins_at (show (ff l k).length < (ff l k ++ [l[k]]).length by simp), pre_app _ _ _ (Nat.le_refl _), h1]
          simpa using e
theorem ff_out (l : List (Nat × Nat)) {k : Nat} (hk : k ≤ l.length) : outF (ff l k) (ff l k).length = [] := List.filter_eq_nil_iff.2 fun i hi => by
  rw [(ff_pre l k hk).2 i (List.mem_range.1 hi)]; simp
end Go.Proofs.Ytampfciacjifgaa
