/- Lists that ascend (pure): what Sums returns. -/
import Derived.Test.YtepcokgpepcccaaDoorPrt
namespace Go.Proofs.YtepcokgpepcccaaDoor
set_option linter.unusedVariables false
set_option linter.unusedSimpArgs false
abbrev Asc (xs : List Int) : Prop := xs.Pairwise (· < ·)
theorem asc_eq : ∀ {xs ys : List Int}, Asc xs → Asc ys → (∀ x, x ∈ xs ↔ x ∈ ys) → xs = ys
  | [], [], _, _, _ => rfl
  | [], y :: ys, _, _, h => by have := (h y).2 (List.mem_cons_self ..); simp at this
  | x :: xs, [], _, _, h => by have := (h x).1 (List.mem_cons_self ..); simp at this
  | x :: xs, y :: ys, h1, h2, h => by
    rw [Asc, List.pairwise_cons] at h1 h2
    have a := (h x).1 (List.mem_cons_self ..)
    have b := (h y).2 (List.mem_cons_self ..)
    have e : x = y := by
      rcases List.mem_cons.1 a with a | a
      · exact a
      · rcases List.mem_cons.1 b with b | b
        · exact b.symm
        · have := h1.1 y b
          have := h2.1 x a
          omega
    subst e
    rw [asc_eq h1.2 h2.2 fun z => ?_]
    constructor
    · intro hz
      rcases List.mem_cons.1 ((h z).1 (List.mem_cons_of_mem _ hz)) with k | k
      · have := h1.1 z hz; omega
      · exact k
    · intro hz
      rcases List.mem_cons.1 ((h z).2 (List.mem_cons_of_mem _ hz)) with k | k
      · have := h2.1 z hz; omega
      · exact k
theorem compact_up (d : Array Int) (hs : ∀ i j, i < j → j < d.size → d[i]! ≤ d[j]!) : ∀ m, m ≤ d.size → Asc (Lib.compactUpTo d m) ∧ (∀ x, x ∈ Lib.compactUpTo d m ↔ ∃ j, j < m ∧ d[j]! = x)
  | 0, _ => ⟨by simp [Lib.compactUpTo, Asc], fun x => by simp [Lib.compactUpTo]⟩
  | m + 1, hm => by
    obtain ⟨a, b⟩ := compact_up d hs m (by omega)
    rw [Lib.compactUpTo_succ]
    cases k : Lib.keeps d m
    · simp only [Bool.false_eq_true, if_false, List.append_nil]
      refine ⟨a, fun x => ?_⟩
      rw [b]
      have hk : m ≠ 0 ∧ d[m]! = d[m - 1]! := by
        unfold Lib.keeps at k
        rw [decide_eq_false_iff_not] at k
        constructor
        · exact fun e => k (.inl e)
        · exact Classical.byContradiction fun e => k (.inr e)
      constructor
      · rintro ⟨j, h1, h2⟩; exact ⟨j, by omega, h2⟩
      · rintro ⟨j, h1, h2⟩
        by_cases e : j = m
        · subst e; exact ⟨j - 1, by omega, by rw [← hk.2]; exact h2⟩
        · exact ⟨j, by omega, h2⟩
    · simp only [if_true]
      have hk : m = 0 ∨ d[m]! ≠ d[m - 1]! := of_decide_eq_true k
      refine ⟨List.pairwise_append.2 ⟨a, by simp, ?_⟩, fun x => ?_⟩
      · intro x hx y hy
        rw [List.mem_singleton] at hy
        subst hy
        obtain ⟨j, h1, rfl⟩ := (b x).1 hx
        have h2 := hs j m h1 (by omega)
        rcases hk with rfl | hk
        · omega
        · have h3 := hs (m - 1) m (by omega) (by omega)
          by_cases e : j = m - 1
          · subst e; omega
          · have := hs j (m - 1) (by omega) (by omega); omega
      · rw [List.mem_append, b, List.mem_singleton]
        constructor
        · rintro (⟨j, h1, h2⟩ | rfl)
          · exact ⟨j, by omega, h2⟩
          · exact ⟨m, by omega, rfl⟩
        · rintro ⟨j, h1, h2⟩
          by_cases e : j = m
          · subst e; exact .inr h2.symm
          · exact .inl ⟨j, by omega, h2⟩
theorem sorted_pair (zs : List Int) : (zs.mergeSort fun x y => decide (x ≤ y)).Pairwise (· ≤ ·) := by
  have h := List.pairwise_mergeSort (le := fun x y : Int => decide (x ≤ y)) (fun a b c h1 h2 => by simp only [decide_eq_true_eq] at *; omega) (fun a b => by simp only [Bool.or_eq_true, decide_eq_true_eq]; omega) zs
  exact h.imp fun h => of_decide_eq_true h
theorem smz_asc (zs : List Int) : Asc (smz zs) ∧ ∀ x, x ∈ smz zs ↔ x ∈ sums zs := by
  have hp := sorted_pair (sums zs)
  obtain ⟨T, hT⟩ : ∃ T, T = (sums zs).mergeSort fun x y => decide (x ≤ y) := ⟨_, rfl⟩
  have hm : ∀ x, x ∈ T ↔ x ∈ sums zs := fun x => by rw [hT, List.mem_mergeSort]
  rw [smz]
  rw [← hT] at hp ⊢
  have := compact_up T.toArray (fun i j h1 h2 => by
    have h2' : j < T.length := by simpa using h2
    have := List.pairwise_iff_getElem.1 hp i j (by omega) h2' h1
    simpa [getElem!_pos, h2', show i < T.length by omega] using this) T.length (by simp)
  refine ⟨this.1, fun x => ?_⟩
  rw [← hm]
  show x ∈ Lib.compactUpTo T.toArray T.length ↔ _
  rw [this.2, List.mem_iff_getElem]
  constructor
  · rintro ⟨j, h1, h2⟩
    exact ⟨j, h1, by simpa [getElem!_pos, h1] using h2⟩
  · rintro ⟨j, h1, h2⟩
    exact ⟨j, h1, by simpa [getElem!_pos, h1] using h2⟩
theorem sums_mem (zs : List Int) (x : Int) : x ∈ sums zs ↔ ∃ s, s < 2 ^ zs.length ∧ SF zs s = x := by
  rw [sums, smo_sm, List.mem_map]
  constructor
  · rintro ⟨s, h1, h2⟩; exact ⟨s, List.mem_range.1 h1, h2⟩
  · rintro ⟨s, h1, h2⟩; exact ⟨s, List.mem_range.2 h1, h2⟩
theorem smz_mem (zs : List Int) (x : Int) : x ∈ smz zs ↔ ∃ s, s < 2 ^ zs.length ∧ SF zs s = x := by rw [(smz_asc zs).2, sums_mem]
end Go.Proofs.YtepcokgpepcccaaDoor
