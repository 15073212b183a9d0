/- The parts of a graph, as lists. -/
namespace Go.Proofs.Ytampfciacjifgaa
set_option linter.unusedVariables false
set_option linter.unusedSimpArgs false
def roots (R : Nat → Nat) (k : Nat) : List Nat := (List.range k).filter fun r => R r == r
def partsL (R : Nat → Nat) (k : Nat) : List (List Nat) := (roots R k).map fun r => (List.range k).filter fun j => R j == r
theorem partsL_len (R : Nat → Nat) (k : Nat) : (partsL R k).length = (roots R k).length := by simp [partsL]
theorem roots_le (R : Nat → Nat) (k : Nat) : (roots R k).length ≤ k := Nat.le_trans (List.length_filter_le _ _) (by simp)
theorem roots_mem {R : Nat → Nat} {k r : Nat} (h : r ∈ roots R k) : r < k ∧ R r = r := by simpa [roots] using h
theorem roots_next (R : Nat → Nat) (k : Nat) : roots R (k + 1) = roots R k ++ if R k = k then [k] else [] := by
  unfold roots; rw [List.range_succ, List.filter_append]; simp [List.filter]; split <;> simp_all
theorem range_next (f : Nat → Bool) (k : Nat) : (List.range (k + 1)).filter f = (List.range k).filter f ++ if f k then [k] else [] := by
  rw [List.range_succ, List.filter_append]; simp [List.filter]; split <;> simp_all
theorem partsL_new {R : Nat → Nat} (le : ∀ j, R j ≤ j) {k : Nat} (h : R k = k) : partsL R (k + 1) = partsL R k ++ [[k]] := by
  unfold partsL
  rw [roots_next, if_pos h, List.map_append]
  congr 1
  · refine List.map_congr_left fun r hr => ?_
    have := roots_mem hr
    rw [range_next, if_neg (by simp; omega), List.append_nil]
  · simp only [List.map_cons, List.map_nil, List.cons.injEq, and_true]
    rw [range_next, if_pos (by simp [h])]
    have : (List.range k).filter (fun j => R j == k) = [] := List.filter_eq_nil_iff.2 fun j hj => by
      have := le j
      have := List.mem_range.1 hj
      simp; omega
    rw [this]; rfl
theorem roots_mid {R : Nat → Nat} {k r : Nat} (h : r < k) (hr : R r = r) : ∃ C, roots R k = roots R r ++ r :: C ∧ ∀ x ∈ C, r < x := by
  obtain ⟨m, rfl⟩ : ∃ m, k = (r + 1) + m := ⟨k - (r + 1), by omega⟩
  refine ⟨((List.range m).map fun i => (r + 1) + i).filter fun x => R x == x, ?_, ?_⟩
  · unfold roots
    rw [List.range_add, List.filter_append, List.range_succ, List.filter_append]
    simp [List.filter, hr]
  · intro x hx
    have := (List.mem_filter.1 hx).1
    obtain ⟨i, -, rfl⟩ := List.mem_map.1 this
    omega
theorem map_mid {α β : Type} (A C : List α) (r : α) (f f' : α → β) (hA : ∀ x ∈ A, f' x = f x) (hC : ∀ x ∈ C, f' x = f x) : (A ++ r :: C).map f' = ((A ++ r :: C).map f).set A.length (f' r) := by
  rw [List.map_append, List.map_append, List.map_cons, List.map_cons, List.map_congr_left hA, List.map_congr_left hC, List.set_append_right _ _ (by simp)]
  simp
theorem partsL_old {R : Nat → Nat} (le : ∀ j, R j ≤ j) (id : ∀ j, R (R j) = R j) {k : Nat} (h : R k ≠ k) :
    (roots R (R k)).length < (partsL R k).length ∧ ∃ xs, (partsL R k)[(roots R (R k)).length]? = some xs ∧ xs.length ≤ k ∧ partsL R (k + 1) = (partsL R k).set (roots R (R k)).length (xs ++ [k]) := by
  have lt : R k < k := by have := le k; omega
  obtain ⟨C, hC, hlt⟩ := roots_mid lt (id k)
  have e : ∀ r ∈ roots R k, r ≠ R k → (List.range (k + 1)).filter (fun j => R j == r) = (List.range k).filter fun j => R j == r := fun r _ hr => by
    rw [range_next, if_neg (by simpa using Ne.symm hr), List.append_nil]
  have e2 : (List.range (k + 1)).filter (fun j => R j == R k) = (List.range k).filter (fun j => R j == R k) ++ [k] := by
    rw [range_next, if_pos (by simp)]
  refine ⟨by rw [partsL_len, hC]; simp, (List.range k).filter fun j => R j == R k, ?_, Nat.le_trans (List.length_filter_le _ _) (by simp), ?_⟩
  · unfold partsL; rw [hC]; simp
  · unfold partsL
    rw [roots_next, if_neg h, List.append_nil, hC, map_mid _ _ _ (fun r => (List.range k).filter fun j => R j == r) (fun r => (List.range (k + 1)).filter fun j => R j == r), e2]
    · intro x hx
      have := roots_mem hx
      exact e x (by rw [hC]; simp [hx]) (by omega)
    · intro x hx
      have := hlt x hx
      exact e x (by rw [hC]; simp [hx]) (by omega)
end Go.Proofs.Ytampfciacjifgaa
