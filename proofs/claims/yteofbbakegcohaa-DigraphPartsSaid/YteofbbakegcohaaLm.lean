/- Longest paths: which rest is taken. -/
import Derived.Test.YteofbbakegcohaaLawO
namespace Go.Proofs.Yteofbbakegcohaa
open Go.ChangeShapes Go.WideShapes Go.ChangeAt Go.RowKit
set_option linter.unusedVariables false
set_option linter.unusedSimpArgs false


theorem srt_sorted (xs : List Nat) : (srt xs).Pairwise (· ≤ ·) := by
  unfold srt
  have h := List.pairwise_mergeSort (le := fun x y : Nat => decide (x ≤ y)) (fun a b c h1 h2 => by simp at *; omega) (fun a b => by simp; omega) xs
  exact h.imp (fun h => by simpa using h)
/-- The rest that is taken is the first one of the best. -/
theorem stepL_first (W S : Nat → Int) (v : Nat) : ∀ (xs pre : List Nat) (cur : Int × Option Nat), xs.Pairwise (· ≤ ·) → (∀ x ∈ pre, ∀ y ∈ xs, x ≤ y) → (∀ u, cur.2 = some u → cur.1 = W v + S u ∧ (∀ y ∈ pre, W v + S y = cur.1 → u ≤ y) ∧ u ∈ pre) → (∀ y ∈ pre, W v + S y ≤ cur.1) →
    ∀ u, (xs.foldl (stepL W S v) cur).2 = some u → ∀ y, y ∈ pre ∨ y ∈ xs → W v + S y = (xs.foldl (stepL W S v) cur).1 → u ≤ y
  | [], pre, cur, _, _, hc, _, u, hu, y, hy, he => by
    rcases hy with hy | hy
    · exact (hc u hu).2.1 y hy he
    · cases hy
  | a :: t, pre, cur, hp, hx, hc, hm, u, hu, y, hy, he => by
    rw [List.foldl_cons] at hu he
    rw [List.pairwise_cons] at hp
    have hpre : ∀ x ∈ pre ++ [a], ∀ y ∈ t, x ≤ y := fun x hx' y hy => by
      rcases List.mem_append.1 hx' with h | h
      · exact hx x h y (by simp [hy])
      · rw [List.mem_singleton.1 h]; exact hp.1 y hy
    have hy' : y ∈ pre ++ [a] ∨ y ∈ t := by
      rcases hy with hy | hy
      · exact .inl (by simp [hy])
      · rcases List.mem_cons.1 hy with h | h
        · exact .inl (by simp [h])
        · exact .inr h
    by_cases h : cur.1 < W v + S a
    · have e : stepL W S v cur a = (W v + S a, some a) := by unfold stepL; rw [if_pos h]
      rw [e] at hu he
      refine stepL_first W S v t (pre ++ [a]) _ hp.2 hpre (fun u hu => ?_) (fun y hy => ?_) u hu y hy' he
      · simp only [Option.some.injEq] at hu
        subst hu
        refine ⟨rfl, fun y hy hye => ?_, by simp⟩
        rcases List.mem_append.1 hy with h2 | h2
        · have := hm y h2; simp only at hye; omega
        · rw [List.mem_singleton.1 h2]; exact Nat.le_refl _
      · rcases List.mem_append.1 hy with h2 | h2
        · have := hm y h2; simp only; omega
        · rw [List.mem_singleton.1 h2]; exact Int.le_refl _
    · have e : stepL W S v cur a = cur := by unfold stepL; rw [if_neg h]
      rw [e] at hu he
      refine stepL_first W S v t (pre ++ [a]) _ hp.2 hpre (fun u hu => ?_) (fun y hy => ?_) u hu y hy' he
      · obtain ⟨h1, h2, h3⟩ := hc u hu
        refine ⟨h1, fun y hy hye => ?_, by simp [h3]⟩
        rcases List.mem_append.1 hy with h4 | h4
        · exact h2 y h4 hye
        · rw [List.mem_singleton.1 h4]; exact hx u h3 a (by simp)
      · rcases List.mem_append.1 hy with h2 | h2
        · exact hm y h2
        · rw [List.mem_singleton.1 h2]; omega
/-- What the longest sum is: the weight, and the greatest of the rests if it is positive. -/
theorem lgS_more {A : Nat → List Nat} {n : Nat} {rk : Nat → Nat} (W : Nat → Int) (hA : ∀ v, v < n → ∀ u ∈ A v, u < n) (hr : Rnk A n rk) {v : Nat} (hv : v < n) {m : Int} (h0 : 0 ≤ m) (h1 : ∀ u ∈ A v, lgS A W n u ≤ m) (h2 : m = 0 ∨ ∃ u ∈ A v, m = lgS A W n u) : lgS A W n v = W v + m := by
  obtain ⟨k1, k2, k3⟩ := stepL_fold W (lgS A W n) v (A v) (W v, none) (fun u hu => by cases hu)
  have e := lg_rec W hA hr hv
  have es : lgS A W n v = ((A v).foldl (stepL W (lgS A W n) v) (W v, none)).1 := by
    show (lg A W n v).1 = _
    rw [e]
  rw [es]
  simp only at k1
  have up : ((A v).foldl (stepL W (lgS A W n) v) (W v, none)).1 ≤ W v + m := by
    rcases k3 with k3 | ⟨u, hu, k3, -⟩
    · rw [k3]; simp only; omega
    · rw [k3]; have := h1 u hu; simp only; omega
  have lo : W v + m ≤ ((A v).foldl (stepL W (lgS A W n) v) (W v, none)).1 := by
    rcases h2 with h2 | ⟨u, hu, h2⟩
    · rw [h2]; omega
    · rw [h2]; exact k2 u hu
  omega
theorem lgN_least {l : List (Nat × Nat)} {n : Nat} {rk : Nat → Nat} (W : Nat → Int) (hA : ∀ v, v < n → ∀ u ∈ adj l v, u < n) (hr : Rnk (adj l) n rk) {v : Nat} (hv : v < n) {u : Nat} (h : lgN (adj l) W n v = some u) {y : Nat} (hy : y ∈ adj l v) (he : lgS (adj l) W n y = lgS (adj l) W n u) : u ≤ y := by
  have e := lg_rec W hA hr hv
  have hm := lgN_mem W hA hr hv h
  have eN : lgN (adj l) W n v = ((adj l v).foldl (stepL W (lgS (adj l) W n) v) (W v, none)).2 := by
    show (lg (adj l) W n v).2 = _
    rw [e]
  have eS : lgS (adj l) W n v = ((adj l v).foldl (stepL W (lgS (adj l) W n) v) (W v, none)).1 := by
    show (lg (adj l) W n v).1 = _
    rw [e]
  rw [eN] at h
  have sorted : (adj l v).Pairwise (· ≤ ·) := srt_sorted _
  refine stepL_first W (lgS (adj l) W n) v (adj l v) [] (W v, none) sorted (fun x hx => by cases hx) (fun u hu => by cases hu) (fun y hy => by cases hy) u h y (.inr hy) ?_
  rw [← eS, hm.2.1, he]
theorem lgN_none {A : Nat → List Nat} {n : Nat} {rk : Nat → Nat} (W : Nat → Int) (hA : ∀ v, v < n → ∀ u ∈ A v, u < n) (hr : Rnk A n rk) {v : Nat} (hv : v < n) (h : lgN A W n v = none) : lgS A W n v = W v := by
  obtain ⟨k1, k2, k3⟩ := stepL_fold W (lgS A W n) v (A v) (W v, none) (fun u hu => by cases hu)
  have e := lg_rec W hA hr hv
  unfold lgN at h
  rw [e] at h
  show (lg A W n v).1 = _
  rw [e]
  rcases k3 with k3 | ⟨u, hu, k3, -⟩
  · rw [k3]
  · rw [k3] at h; cases h
/-- The most that the first k edges add to a path from v. -/
def mor (l : List (Nat × Nat)) (S : Nat → Int) (v : Nat) : Nat → Int
  | 0 => 0
  | k + 1 => match l[k]? with
    | some e => if e.1 = v ∧ mor l S v k < S e.2 then S e.2 else mor l S v k
    | none => mor l S v k
theorem mor_next {l : List (Nat × Nat)} {k : Nat} (hk : k < l.length) (S : Nat → Int) (v : Nat) : mor l S v (k + 1) = if l[k].1 = v ∧ mor l S v k < S l[k].2 then S l[k].2 else mor l S v k := by
  rw [mor, List.getElem?_eq_getElem hk]
theorem mor_ok (l : List (Nat × Nat)) (S : Nat → Int) (v : Nat) : ∀ k, k ≤ l.length → 0 ≤ mor l S v k ∧ (∀ e ∈ l.take k, e.1 = v → S e.2 ≤ mor l S v k) ∧ (mor l S v k = 0 ∨ ∃ e ∈ l.take k, e.1 = v ∧ mor l S v k = S e.2)
  | 0, _ => ⟨Int.le_refl _, fun e he => by simp at he, .inl rfl⟩
  | k + 1, h => by
    have hk : k < l.length := by omega
    obtain ⟨h1, h2, h3⟩ := mor_ok l S v k (by omega)
    rw [mor_next hk, List.take_succ_eq_append_getElem hk]
    by_cases hc : l[k].1 = v ∧ mor l S v k < S l[k].2
    · rw [if_pos hc]
      refine ⟨by omega, fun e he hev => ?_, .inr ⟨l[k], List.mem_append.2 (.inr (List.mem_singleton.2 rfl)), hc.1, rfl⟩⟩
      rcases List.mem_append.1 he with h | h
      · have := h2 e h hev; omega
      · rw [List.mem_singleton.1 h]; exact Int.le_refl _
    · rw [if_neg hc]
      refine ⟨h1, fun e he hev => ?_, ?_⟩
      · rcases List.mem_append.1 he with h | h
        · exact h2 e h hev
        · rw [List.mem_singleton.1 h] at hev ⊢
          have : ¬ mor l S v k < S l[k].2 := fun k => hc ⟨hev, k⟩
          omega
      · rcases h3 with h3 | ⟨e, he, h3⟩
        · exact .inl h3
        · exact .inr ⟨e, List.mem_append.2 (.inl he), h3⟩
theorem lgS_mor {l : List (Nat × Nat)} {n : Nat} {rk : Nat → Nat} (W : Nat → Int) (hA : ∀ v, v < n → ∀ u ∈ adj l v, u < n) (hr : Rnk (adj l) n rk) {v : Nat} (hv : v < n) : lgS (adj l) W n v = W v + mor l (lgS (adj l) W n) v l.length := by
  obtain ⟨h1, h2, h3⟩ := mor_ok l (lgS (adj l) W n) v l.length (Nat.le_refl _)
  rw [List.take_length] at h2 h3
  refine lgS_more W hA hr hv h1 (fun u hu => h2 (v, u) ((mem_adj l v u).1 hu) rfl) ?_
  rcases h3 with h3 | ⟨e, he, h4, h5⟩
  · exact .inl h3
  · exact .inr ⟨e.2, (mem_adj l v e.2).2 (by rw [← h4]; exact he), h5⟩
/-- The least of the nodes from i on that a choice allows. -/
def lst (P : Nat → Bool) (n dflt : Nat) : Nat → Nat
  | 0 => dflt
  | k + 1 => if P (n - (k + 1)) = true then n - (k + 1) else lst P n dflt k
end Go.Proofs.Yteofbbakegcohaa
