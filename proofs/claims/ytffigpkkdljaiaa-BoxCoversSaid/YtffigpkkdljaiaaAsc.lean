/- Lists that ascend (pure): what Sums returns. -/
import Derived.Test.YtffigpkkdljaiaaCt
namespace Go.Proofs.Ytffigpkkdljaiaa
set_option linter.unusedVariables false
set_option linter.unusedSimpArgs false
abbrev Asc (xs : List Int) : Prop := xs.Pairwise (· < ·)
theorem asc_eq : ∀ {xs ys : List Int}, Asc xs → Asc ys → (∀ x, x ∈ xs ↔ x ∈ ys) → xs = ys
  | [], [], _, _, _ => rfl
  | [], y :: ys, _, _, h => by have := (h y).2 (List.mem_cons_self ..); simp at this
  | x :: xs, [], _, _, h => by have := (h x).1 (List.mem_cons_self ..); simp at this
  | x :: xs, y :: ys, h1, h2, h => by
    rw [Asc, List.pairwise_cons] at h1 h2
    have a := (h x).1 (List.mem_cons_self ..)
    have b := (h y).2 (List.mem_cons_self ..)
    have e : x = y := by
      rcases List.mem_cons.1 a with a | a
      · exact a
      · rcases List.mem_cons.1 b with b | b
        · exact b.symm
        · have := h1.1 y b
          have := h2.1 x a
          omega
    subst e
    rw [asc_eq h1.2 h2.2 fun z => ?_]
    constructor
    · intro hz
      rcases List.mem_cons.1 ((h z).1 (List.mem_cons_of_mem _ hz)) with k | k
      · have := h1.1 z hz; omega
      · exact k
    · intro hz
      rcases List.mem_cons.1 ((h z).2 (List.mem_cons_of_mem _ hz)) with k | k
      · have := h2.1 z hz; omega
      · exact k
theorem compact_up (d : Array Int) (hs : ∀ i j, i < j → j < d.size → d[i]! ≤ d[j]!) : ∀ m, m ≤ d.size → Asc (Lib.compactUpTo d m) ∧ (∀ x, x ∈ Lib.compactUpTo d m ↔ ∃ j, j < m ∧ d[j]! = x)
  | 0, _ => ⟨by simp [Lib.compactUpTo, Asc], fun x => by simp [Lib.compactUpTo]⟩
  | m + 1, hm => by
    obtain ⟨a, b⟩ := compact_up d hs m (by omega)
    rw [Lib.compactUpTo_succ]
    cases k : Lib.keeps d m
    · simp only [Bool.false_eq_true, if_false, List.append_nil]
      refine ⟨a, fun x => ?_⟩
      rw [b]
      have hk : m ≠ 0 ∧ d[m]! = d[m - 1]! := by
        unfold Lib.keeps at k
        rw [decide_eq_false_iff_not] at k
        constructor
        · exact fun e => k (.inl e)
        · exact Classical.byContradiction fun e => k (.inr e)
      constructor
      · rintro ⟨j, h1, h2⟩; exact ⟨j, by omega, h2⟩
      · rintro ⟨j, h1, h2⟩
        by_cases e : j = m
        · subst e; exact ⟨j - 1, by omega, by rw [← hk.2]; exact h2⟩
        · exact ⟨j, by omega, h2⟩
    · simp only [if_true]
      have hk : m = 0 ∨ d[m]! ≠ d[m - 1]! := of_decide_eq_true k
      refine ⟨List.pairwise_append.2 ⟨a, by simp, ?_⟩, fun x => ?_⟩
      · intro x hx y hy
        rw [List.mem_singleton] at hy
        subst hy
        obtain ⟨j, h1, rfl⟩ := (b x).1 hx
        have h2 := hs j m h1 (by omega)
        rcases hk with rfl | hk
        · omega
        · have h3 := hs (m - 1) m (by omega) (by omega)
          by_cases e : j = m - 1
          · subst e; omega
          · have := hs j (m - 1) (by omega) (by omega); omega
      · rw [List.mem_append, b, List.mem_singleton]
        constructor
        · rintro (⟨j, h1, h2⟩ | rfl)
          · exact ⟨j, by omega, h2⟩
          · exact ⟨m, by omega, rfl⟩
        · rintro ⟨j, h1, h2⟩
          by_cases e : j = m
          · subst e; exact .inr h2.symm
          · exact .inl ⟨j, by omega, h2⟩
theorem sorted_pair (zs : List Int) : (zs.mergeSort fun x y => decide (x ≤ y)).Pairwise (· ≤ ·) := by
  have h := List.pairwise_mergeSort (le := fun x y : Int => decide (x ≤ y)) (fun a b c h1 h2 => by simp only [decide_eq_true_eq] at *; omega) (fun a b => by simp only [Bool.or_eq_true, decide_eq_true_eq]; omega) zs
  exact h.imp fun h => of_decide_eq_true h
theorem srt_asc (zs : List Int) : Asc (srt zs) ∧ ∀ x, x ∈ srt zs ↔ x ∈ zs := by
  have hp := sorted_pair zs
  obtain ⟨T, hT⟩ : ∃ T, T = zs.mergeSort fun x y => decide (x ≤ y) := ⟨_, rfl⟩
  have hm : ∀ x, x ∈ T ↔ x ∈ zs := fun x => by rw [hT, List.mem_mergeSort]
  rw [srt]
  rw [← hT] at hp ⊢
  have := compact_up T.toArray (fun i j h1 h2 => by
    have h2' : j < T.length := by simpa using h2
    have := List.pairwise_iff_getElem.1 hp i j (by omega) h2' h1
    simpa [getElem!_pos, h2', show i < T.length by omega] using this) T.length (by simp)
  refine ⟨this.1, fun x => ?_⟩
  rw [← hm]
  show x ∈ Lib.compactUpTo T.toArray T.length ↔ _
  rw [this.2, List.mem_iff_getElem]
  constructor
  · rintro ⟨j, h1, h2⟩
    exact ⟨j, h1, by simpa [getElem!_pos, h1] using h2⟩
  · rintro ⟨j, h1, h2⟩
    exact ⟨j, h1, by simpa [getElem!_pos, h1] using h2⟩
theorem prs_cons (a b : Int) (l : List Int) : prs (a :: b :: l) = (a, b) :: prs (b :: l) := by
  unfold prs
  simp [List.range_succ_eq_map]
theorem prs_cover {t : Int} : ∀ (l : List Int) (a : Int), 2 * a ≤ t → (∃ y ∈ l, t ≤ 2 * y) → ∃ p ∈ prs (a :: l), 2 * p.1 ≤ t ∧ t ≤ 2 * p.2
  | [], _, _, ⟨y, hy, _⟩ => by simp at hy
  | b :: l, a, h, ⟨y, hy, k⟩ => by
    rw [prs_cons]
    by_cases c : t ≤ 2 * b
    · exact ⟨(a, b), List.mem_cons_self .., h, c⟩
    · rcases List.mem_cons.1 hy with rfl | hy
      · exact absurd k c
      · obtain ⟨p, hp, e⟩ := prs_cover l b (by omega) ⟨y, hy, k⟩
        exact ⟨p, List.mem_cons_of_mem _ hp, e⟩
theorem prs_apart : ∀ (l : List Int), Asc l → ∀ p ∈ prs l, (p.1 ∈ l ∧ p.2 ∈ l) ∧ p.1 < p.2 ∧ ∀ z ∈ l, z ≤ p.1 ∨ p.2 ≤ z
  | [], _, p, hp => by simp [prs] at hp
  | [a], _, p, hp => by simp [prs] at hp
  | a :: b :: l, h, p, hp => by
    rw [Asc, List.pairwise_cons] at h
    rw [prs_cons] at hp
    have hb := List.pairwise_cons.1 h.2
    rcases List.mem_cons.1 hp with rfl | hp
    · refine ⟨⟨by simp, by simp⟩, h.1 b (by simp), fun z hz => ?_⟩
      rcases List.mem_cons.1 hz with rfl | hz
      · exact .inl (Int.le_refl _)
      · rcases List.mem_cons.1 hz with rfl | hz
        · exact .inr (Int.le_refl _)
        · exact .inr (by have := hb.1 z hz; simp only; omega)
    · obtain ⟨⟨k1, k2⟩, k3, k4⟩ := prs_apart (b :: l) h.2 p hp
      refine ⟨⟨List.mem_cons_of_mem _ k1, List.mem_cons_of_mem _ k2⟩, k3, fun z hz => ?_⟩
      rcases List.mem_cons.1 hz with rfl | hz
      · exact .inl (by have := h.1 p.1 k1; omega)
      · exact k4 z hz
theorem ends_mem (lo hi : Int) (os : List S2) (z : Int) : z ∈ ends lo hi os ↔ (z = lo ∨ z = hi) ∨ ∃ o ∈ os, (z = o.1 ∨ z = o.2) ∧ lo < z ∧ z < hi := by
  simp only [ends, List.mem_append, List.mem_cons, List.not_mem_nil, or_false, List.mem_flatMap, eo, List.mem_filter, ine, Bool.and_eq_true, decide_eq_true_eq]
/-- Each doubled whole number of a side lies in a part. -/
theorem cut_cover {lo hi t : Int} (os : List S2) (h : lo ≤ hi) (h1 : 2 * lo ≤ t) (h2 : t ≤ 2 * hi) : ∃ p ∈ cutS lo hi os, 2 * p.1 ≤ t ∧ t ≤ 2 * p.2 := by
  unfold cutS
  split
  · exact ⟨(lo, hi), by simp, h1, h2⟩
  · rename_i hne
    obtain ⟨ha, hm⟩ := srt_asc (ends lo hi os)
    generalize srt (ends lo hi os) = L at *
    have hlo : lo ∈ L := (hm lo).2 ((ends_mem ..).2 (.inl (.inl rfl)))
    have hhi : hi ∈ L := (hm hi).2 ((ends_mem ..).2 (.inl (.inr rfl)))
    have hall : ∀ z ∈ L, lo ≤ z := fun z hz => by
      rcases (ends_mem ..).1 ((hm z).1 hz) with (rfl | rfl) | ⟨o, -, -, h3, -⟩
      · omega
      · omega
      · omega
    match L, hlo, hhi, ha with
    | a :: l, hlo, hhi, ha =>
      rw [Asc, List.pairwise_cons] at ha
      have e : a = lo := by
        rcases List.mem_cons.1 hlo with e | e
        · exact e.symm
        · have := ha.1 lo e; have := hall a (List.mem_cons_self ..); omega
      subst e
      exact prs_cover l a h1 ⟨hi, by
        rcases List.mem_cons.1 hhi with e | e
        · exact absurd e.symm hne
        · exact e, h2⟩
/-- Each part of a side holds a doubled whole number, such that who contains it contains the part. -/
theorem cut_inner {lo hi : Int} (os : List S2) (h : lo ≤ hi) {p : S2} (hp : p ∈ cutS lo hi os) : ∃ t, 2 * lo ≤ t ∧ t ≤ 2 * hi ∧ ∀ o ∈ os, 2 * o.1 ≤ t → t ≤ 2 * o.2 → cn o p = true := by
  have cni : ∀ o : S2, cn o p = true ↔ o.1 ≤ p.1 ∧ p.2 ≤ o.2 := fun o => by unfold cn conS; simp
  unfold cutS at hp
  split at hp
  · rename_i he
    rw [List.mem_singleton] at hp
    subst hp
    exact ⟨2 * lo, by omega, by omega, fun o _ k1 k2 => by rw [cni]; simp only; omega⟩
  · obtain ⟨ha, hm⟩ := srt_asc (ends lo hi os)
    obtain ⟨⟨k1, k2⟩, k3, k4⟩ := prs_apart _ ha p hp
    have rng : ∀ z, z ∈ srt (ends lo hi os) → lo ≤ z ∧ z ≤ hi := fun z hz => by
      rcases (ends_mem ..).1 ((hm z).1 hz) with (rfl | rfl) | ⟨o, -, -, h3, h4⟩
      · omega
      · omega
      · omega
    have r1 := rng _ k1
    have r2 := rng _ k2
    refine ⟨2 * p.1 + 1, by omega, by omega, fun o ho m1 m2 => ?_⟩
    rw [cni]
    refine ⟨by omega, ?_⟩
    by_cases c : o.2 < hi
    · have := k4 o.2 ((hm _).2 ((ends_mem ..).2 (.inr ⟨o, ho, .inr rfl, by omega, c⟩)))
      omega
    · omega
end Go.Proofs.Ytffigpkkdljaiaa
