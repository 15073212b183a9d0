/- Pure, of no program: lists of classes that are sorted inside and by their heads are one list; a longest sum is that of the turned graph. -/
import Init
namespace Go.Proofs.Yteofbbakegcohaa
set_option linter.unusedVariables false

/-- Two sorted lists without doubles that have the same elements are one. -/
theorem sorted_ext {α : Type} (r : α → α → Prop) (hirr : ∀ a, ¬ r a a) (htr : ∀ a b, r a b → ¬ r b a) : ∀ (l m : List α), l.Pairwise r → m.Pairwise r → (∀ x, x ∈ l ↔ x ∈ m) → l = m
  | [], [], _, _, _ => rfl
  | [], b :: m, _, _, h => by have := (h b).2 (by simp); simp at this
  | a :: l, [], _, _, h => by have := (h a).1 (by simp); simp at this
  | a :: l, b :: m, hl, hm, h => by
    obtain ⟨l1, l2⟩ := List.pairwise_cons.1 hl
    obtain ⟨m1, m2⟩ := List.pairwise_cons.1 hm
    have e : a = b := by
      rcases List.mem_cons.1 ((h a).1 (by simp)) with h1 | h1
      · exact h1
      · rcases List.mem_cons.1 ((h b).2 (by simp)) with h2 | h2
        · exact h2.symm
        · exact absurd (m1 a h1) (htr _ _ (l1 b h2))
    subst e
    rw [sorted_ext r hirr htr l m l2 m2 fun x => ?_]
    constructor
    · intro hx
      rcases List.mem_cons.1 ((h x).1 (List.mem_cons_of_mem _ hx)) with h1 | h1
      · subst h1; exact absurd (l1 x hx) (hirr x)
      · exact h1
    · intro hx
      rcases List.mem_cons.1 ((h x).2 (List.mem_cons_of_mem _ hx)) with h1 | h1
      · subst h1; exact absurd (m1 x hx) (hirr x)
      · exact h1
theorem nodup_lt {p : List Nat} (h : p.Nodup) (hs : p.Pairwise (· ≤ ·)) : p.Pairwise (· < ·) := by
  have := h.and hs
  exact this.imp fun {a b} k => by have h1 := k.1; have h2 := k.2; omega
/-- Classes, sorted inside and by their heads, are one list. -/
theorem classes_uniq (n : Nat) (Sm : Nat → Nat → Prop) (hd : List Nat → Nat) (hhd : ∀ p, p ≠ [] → hd p ∈ p) (ls ms : List (List Nat))
    (a1 : ∀ p ∈ ls, p.Nodup ∧ p.Pairwise (· ≤ ·) ∧ p ≠ [] ∧ ∀ x ∈ p, ∀ y, y ∈ p ↔ Sm x y) (a2 : ∀ x, x < n → ∃ p ∈ ls, x ∈ p) (a3 : ls.Pairwise (fun p q => ∀ x ∈ p, x ∉ q)) (a4 : ∀ p ∈ ls, ∀ x ∈ p, x < n) (a5 : ls.Pairwise (fun a b => hd a ≤ hd b))
    (b1 : ∀ p ∈ ms, p.Nodup ∧ p.Pairwise (· ≤ ·) ∧ p ≠ [] ∧ ∀ x ∈ p, ∀ y, y ∈ p ↔ Sm x y) (b2 : ∀ x, x < n → ∃ p ∈ ms, x ∈ p) (b3 : ms.Pairwise (fun p q => ∀ x ∈ p, x ∉ q)) (b4 : ∀ p ∈ ms, ∀ x ∈ p, x < n) (b5 : ms.Pairwise (fun a b => hd a ≤ hd b)) : ls = ms := by
  have sub : ∀ (ls ms : List (List Nat)), (∀ p ∈ ls, p.Nodup ∧ p.Pairwise (· ≤ ·) ∧ p ≠ [] ∧ ∀ x ∈ p, ∀ y, y ∈ p ↔ Sm x y) → (∀ p ∈ ls, ∀ x ∈ p, x < n) → (∀ p ∈ ms, p.Nodup ∧ p.Pairwise (· ≤ ·) ∧ p ≠ [] ∧ ∀ x ∈ p, ∀ y, y ∈ p ↔ Sm x y) → (∀ x, x < n → ∃ p ∈ ms, x ∈ p) → ∀ p ∈ ls, p ∈ ms := by
    intro ls ms a1 a4 b1 b2 p hp
    obtain ⟨nd, sd, ne, mem⟩ := a1 p hp
    have hx := hhd p ne
    obtain ⟨q, hq, hxq⟩ := b2 _ (a4 p hp _ hx)
    obtain ⟨nd', sd', ne', mem'⟩ := b1 q hq
    have e : p = q := sorted_ext (· < ·) (fun a h => Nat.lt_irrefl a h) (fun a b h k => by omega) p q (nodup_lt nd sd) (nodup_lt nd' sd') fun y => (mem _ hx y).trans (mem' _ hxq y).symm
    rw [e]; exact hq
  have strict : ∀ (ls : List (List Nat)), (∀ p ∈ ls, p.Nodup ∧ p.Pairwise (· ≤ ·) ∧ p ≠ [] ∧ ∀ x ∈ p, ∀ y, y ∈ p ↔ Sm x y) → ls.Pairwise (fun p q => ∀ x ∈ p, x ∉ q) → ls.Pairwise (fun a b => hd a ≤ hd b) → ls.Pairwise (fun a b => hd a < hd b) := by
    intro ls a1 a3 a5
    refine (a3.and a5).imp_of_mem fun {p q} hp hq h => ?_
    rcases Nat.lt_or_ge (hd p) (hd q) with k | k
    · exact k
    · have e : hd p = hd q := by have := h.2; omega
      exact absurd (by rw [e]; exact hhd q (a1 q hq).2.2.1) (h.1 (hd p) (hhd p (a1 p hp).2.2.1))
  exact sorted_ext (fun a b => hd a < hd b) (fun a h => Nat.lt_irrefl _ h) (fun a b h k => by omega) ls ms (strict ls a1 a3 a5) (strict ms b1 b3 b5) fun p => ⟨sub ls ms a1 a4 b1 b2 p, sub ms ls b1 b4 a1 a2 p⟩

/-- A way from a node to a node, with the sum of its weights. -/
inductive Wlk (A : Nat → List Nat) (W : Nat → Int) : Nat → Nat → Int → Prop
  | one (v : Nat) : Wlk A W v v (W v)
  | step {v u b : Nat} {s : Int} : u ∈ A v → Wlk A W u b s → Wlk A W v b (W v + s)
theorem Wlk.snoc {A : Nat → List Nat} {W : Nat → Int} {a b c : Nat} {s : Int} (h : Wlk A W a b s) (hc : c ∈ A b) : Wlk A W a c (s + W c) := by
  induction h with
  | one v => exact .step hc (.one c)
  | step hu _ ih => rw [Int.add_assoc]; exact .step hu (ih hc)
theorem Wlk.turn {A A' : Nat → List Nat} {W : Nat → Int} (hAA : ∀ v u, u ∈ A v → v ∈ A' u) {a b : Nat} {s : Int} (h : Wlk A W a b s) : Wlk A' W b a s := by
  induction h with
  | one v => exact .one v
  | step hu _ ih => rw [Int.add_comm]; exact ih.snoc (hAA _ _ hu)
theorem Wlk.lt {A : Nat → List Nat} {W : Nat → Int} {n a b : Nat} {s : Int} (hA : ∀ v, v < n → ∀ u ∈ A v, u < n) (h : Wlk A W a b s) : a < n → b < n := by
  induction h with
  | one v => exact id
  | step hu _ ih => exact fun ha => ih (hA _ ha _ hu)
theorem Wlk.le {A : Nat → List Nat} {W S : Nat → Int} {n : Nat} (hA : ∀ v, v < n → ∀ u ∈ A v, u < n) (h1 : ∀ v, v < n → W v ≤ S v) (h2 : ∀ v, v < n → ∀ u ∈ A v, W v + S u ≤ S v) {a b : Nat} {s : Int} (h : Wlk A W a b s) : a < n → s ≤ S a := by
  induction h with
  | one v => exact h1 v
  | step hu _ ih =>
    intro ha
    have k1 := ih (hA _ ha _ hu)
    have k2 := h2 _ ha _ hu
    omega
theorem Wlk.ex {A : Nat → List Nat} {W S : Nat → Int} {n : Nat} {rk : Nat → Nat} (hA : ∀ v, v < n → ∀ u ∈ A v, u < n) (hr : ∀ v, v < n → ∀ u ∈ A v, rk u < rk v) (h3 : ∀ v, v < n → S v = W v ∨ ∃ u ∈ A v, S v = W v + S u) : ∀ (k v : Nat), rk v ≤ k → v < n → ∃ b, Wlk A W v b (S v)
  | k, v, hk, hv => by
    rcases h3 v hv with e | ⟨u, hu, e⟩
    · exact ⟨v, by rw [e]; exact .one v⟩
    · have hlt := hr v hv u hu
      cases k with
      | zero => omega
      | succ k =>
        obtain ⟨b, hb⟩ := Wlk.ex hA hr h3 k u (by omega) (hA v hv u hu)
        exact ⟨b, by rw [e]; exact .step hu hb⟩
/-- A longest sum from a node is at most one of the turned graph. -/
theorem longest_turned {A A' : Nat → List Nat} {W S S' : Nat → Int} {n : Nat} {rk : Nat → Nat} (hAA : ∀ v u, u ∈ A v → v ∈ A' u) (hA : ∀ v, v < n → ∀ u ∈ A v, u < n) (hA' : ∀ v, v < n → ∀ u ∈ A' v, u < n) (hr : ∀ v, v < n → ∀ u ∈ A v, rk u < rk v)
    (h3 : ∀ v, v < n → S v = W v ∨ ∃ u ∈ A v, S v = W v + S u) (h1 : ∀ v, v < n → W v ≤ S' v) (h2 : ∀ v, v < n → ∀ u ∈ A' v, W v + S' u ≤ S' v) {v : Nat} (hv : v < n) : ∃ b, b < n ∧ S v ≤ S' b := by
  obtain ⟨b, hb⟩ := Wlk.ex hA hr h3 (rk v) v (Nat.le_refl _) hv
  have hbn := hb.lt hA hv
  exact ⟨b, hbn, (hb.turn hAA).le hA' h1 h2 hbn⟩
end Go.Proofs.Yteofbbakegcohaa
