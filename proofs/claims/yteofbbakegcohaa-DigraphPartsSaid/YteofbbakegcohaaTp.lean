/- The graph with all edges turned round, pure: its parts, loops, and longest sums. -/
import Derived.Test.YteofbbakegcohaaTu
import Derived.Test.YteofbbakegcohaaEk
import Derived.Test.YteofbbakegcohaaLawL
namespace Go.Proofs.Yteofbbakegcohaa
open Go.ChangeShapes Go.WideShapes Go.ChangeAt Go.RowKit
set_option linter.unusedVariables false
set_option linter.unusedSimpArgs false

def trnZ (l : List (Int × Int)) : List (Int × Int) := l.map fun x => (x.2, x.1)
def trnN (l : List (Nat × Nat)) : List (Nat × Nat) := l.map fun x => (x.2, x.1)
theorem trn_cast (l : List (Nat × Nat)) : trnZ (cast2 l) = cast2 (trnN l) := by simp [trnZ, trnN, cast2]
theorem trnZ_len (l : List (Int × Int)) : (trnZ l).length = l.length := by simp [trnZ]
theorem vG_trn (n : Int) (l : List (Int × Int)) : vG n (trnZ l) = vG n l := by
  unfold vG
  rw [trnZ_len]
  congr 1
  unfold trnZ
  rw [List.all_map]
  congr 1
  funext x
  simp only [Function.comp, okE]
  exact Bool.and_comm _ _
theorem mem_trn (l : List (Nat × Nat)) (v u : Nat) : u ∈ adj (trnN l) v ↔ v ∈ adj l u := by
  rw [mem_adj, mem_adj]
  unfold trnN
  simp only [List.mem_map, Prod.mk.injEq]
  constructor
  · rintro ⟨x, hx, rfl, rfl⟩; exact hx
  · exact fun h => ⟨_, h, rfl, rfl⟩
theorem rch_turn {A A' : Nat → List Nat} (h : ∀ v u, u ∈ A v → v ∈ A' u) {a b : Nat} (r : Rch A a b) : Rch A' b a := by
  induction r with
  | refl v => exact .refl v
  | step hu _ ih => exact ih.trans (.step (h _ _ hu) (.refl _))
theorem sam_trn (l : List (Nat × Nat)) (a b : Nat) : Sam (adj (trnN l)) a b ↔ Sam (adj l) a b := by
  have h1 : ∀ v u, u ∈ adj l v → v ∈ adj (trnN l) u := fun v u h => (mem_trn l u v).2 h
  have h2 : ∀ v u, u ∈ adj (trnN l) v → v ∈ adj l u := fun v u h => (mem_trn l v u).1 h
  exact ⟨fun ⟨r, s⟩ => ⟨rch_turn h2 s, rch_turn h2 r⟩, fun ⟨r, s⟩ => ⟨rch_turn h1 s, rch_turn h1 r⟩⟩
theorem adj_lt {l : List (Nat × Nat)} {n : Nat} (h : ∀ x ∈ l, x.1 < n ∧ x.2 < n) : ∀ v, v < n → ∀ u ∈ adj l v, u < n := fun v _ u hu => (h _ ((mem_adj l v u).1 hu)).2
theorem adj_lt' {l : List (Nat × Nat)} {n : Nat} (h : ∀ x ∈ l, x.1 < n ∧ x.2 < n) : ∀ v, v < n → ∀ u ∈ adj (trnN l) v, u < n := fun v _ u hu => (h _ ((mem_adj l u v).1 ((mem_trn l v u).1 hu))).1
theorem cls_len {n : Nat} {A : Nat → List Nat} {ls : List (List Nat)} (hc : Cls n A ls) (hlt : ∀ q ∈ ls, ∀ x ∈ q, x < n) : ls.length ≤ n := by
  have h := nodup_le n (ls.map hd) ?_ ?_
  · rwa [List.length_map] at h
  · rw [List.Nodup, List.pairwise_map]
    exact hc.p3.imp_of_mem fun {p q} hp hq h e => h (hd p) (hd_mem (hc.p1 p hp).2.2.1) (by rw [e]; exact hd_mem (hc.p1 q hq).2.2.1)
  · intro x hx
    obtain ⟨p, hp, rfl⟩ := List.mem_map.1 hx
    exact hlt p hp _ (hd_mem (hc.p1 p hp).2.2.1)
/-- The parts are the same lists. -/
theorem parts_trn {l : List (Nat × Nat)} {n : Nat} (h : ∀ x ∈ l, x.1 < n ∧ x.2 < n) {ls ms : List (List Nat)} (h1 : Pso n (adj l) ls) (h2 : Pso n (adj (trnN l)) ms) : ls = ms := by
  obtain ⟨c1, k1⟩ := pso_cls (adj_lt h) h1
  obtain ⟨c2, k2⟩ := pso_cls (adj_lt' h) h2
  refine classes_uniq n (Sam (adj l)) hd (fun p hp => hd_mem hp) ls ms c1.p1 c1.p2 c1.p3 k1 h1.2 (fun p hp => ?_) c2.p2 c2.p3 k2 h2.2
  obtain ⟨a, b, c, d⟩ := c2.p1 p hp
  exact ⟨a, b, c, fun x hx y => (d x hx y).trans (sam_trn l x y)⟩
theorem pso_ex (n : Nat) (A : Nat → List Nat) : Pso n A ((tall n A n).prt.mergeSort fun a b => decide (hd a ≤ hd b)) :=
  ⟨List.mergeSort_perm _ _, (List.pairwise_mergeSort (le := fun a b => decide (hd a ≤ hd b)) (fun a b c h1 h2 => by simp at *; omega) (fun a b => by simp; omega) _).imp fun h => by simpa using h⟩
/-- There is an order in both or in none. -/
theorem order_trn {l : List (Nat × Nat)} {n : Nat} (h : ∀ x ∈ l, x.1 < n ∧ x.2 < n) : ordr (adj (trnN l)) n n [] = none ↔ ordr (adj l) n n [] = none := by
  obtain ⟨ls, hp⟩ : ∃ ls, Pso n (adj l) ls := ⟨_, pso_ex n (adj l)⟩
  obtain ⟨ms, hq⟩ : ∃ ms, Pso n (adj (trnN l)) ms := ⟨_, pso_ex n (adj (trnN l))⟩
  have e := parts_trn h hp hq
  subst e
  obtain ⟨c1, k1⟩ := pso_cls (adj_lt h) hp
  obtain ⟨c2, k2⟩ := pso_cls (adj_lt' h) hq
  have f1 := ordr_find (adj_lt h) c1 k1
  have f2 := ordr_find (adj_lt' h) c2 k2
  have same : ∀ q, lpy (adj (trnN l)) q = lpy (adj l) q := fun q => by
    unfold lpy
    congr 1
    rw [Bool.eq_iff_iff, List.contains_iff_mem, List.contains_iff_mem]
    exact mem_trn l _ _
  have fe : lpy (adj (trnN l)) = lpy (adj l) := funext same
  rw [fe] at f2
  constructor
  · intro hn
    obtain ⟨q, hq, -⟩ := f2.2 hn
    cases ho : ordr (adj l) n n [] with
    | none => rfl
    | some E => rw [f1.1 E ho] at hq; cases hq
  · intro hn
    obtain ⟨q, hq, -⟩ := f1.2 hn
    cases ho : ordr (adj (trnN l)) n n [] with
    | none => rfl
    | some E => rw [f2.1 E ho] at hq; cases hq
theorem lgE_trn {l : List (Nat × Nat)} {n : Nat} (h : ∀ x ∈ l, x.1 < n ∧ x.2 < n) (ws : List Int) : lgE (trnN l) n ws = lgE l n ws := by
  unfold lgE
  simp only [order_trn h]
theorem amx_max (S : Nat → Int) : ∀ k v, v < k → S v ≤ S (amx S k)
  | k + 1, v, h => by
    unfold amx
    split
    · rename_i hc
      rcases Nat.lt_or_ge v k with h1 | h1
      · have := amx_max S k v h1; omega
      · rw [show v = k by omega]; exact Int.le_refl _
    · rename_i hc
      rcases Nat.lt_or_ge v k with h1 | h1
      · exact amx_max S k v h1
      · rw [show v = k by omega]; omega
theorem lg_facts {A : Nat → List Nat} {n : Nat} {rk : Nat → Nat} (W : Nat → Int) (hA : ∀ v, v < n → ∀ u ∈ A v, u < n) (hr : Rnk A n rk) {v : Nat} (hv : v < n) :
    (lgS A W n v = W v ∨ ∃ u ∈ A v, lgS A W n v = W v + lgS A W n u) ∧ W v ≤ lgS A W n v ∧ ∀ u ∈ A v, W v + lgS A W n u ≤ lgS A W n v := by
  have e := lg_rec W hA hr hv
  have f := stepL_fold W (lgS A W n) v (A v) (W v, none) (fun u h => by cases h)
  rw [← e] at f
  obtain ⟨f1, f2, f3⟩ := f
  refine ⟨?_, f1, f2⟩
  rcases f3 with k | ⟨u, hu, k, -⟩
  · left; unfold lgS; rw [k]
  · right; exact ⟨u, hu, by conv => lhs; unfold lgS; rw [k]⟩
theorem longest_trn {l : List (Nat × Nat)} {n : Nat} (h : ∀ x ∈ l, x.1 < n ∧ x.2 < n) (W : Nat → Int) {E : List Nat} (ho : ordr (adj l) n n [] = some E) (hn : 0 < n) :
    lgS (adj (trnN l)) W n (amx (lgS (adj (trnN l)) W n) n) = lgS (adj l) W n (amx (lgS (adj l) W n) n) := by
  obtain ⟨E', ho'⟩ : ∃ E', ordr (adj (trnN l)) n n [] = some E' := by
    cases hc : ordr (adj (trnN l)) n n [] with
    | none => rw [(order_trn h).1 hc] at ho; cases ho
    | some E' => exact ⟨E', rfl⟩
  have r1 := ordr_rank (adj_lt h) ho
  have r2 := ordr_rank (adj_lt' h) ho'
  have g1 := fun v (hv : v < n) => lg_facts W (adj_lt h) r1 hv
  have g2 := fun v (hv : v < n) => lg_facts W (adj_lt' h) r2 hv
  have a1 := amx_lt (lgS (adj l) W n) n hn
  have a2 := amx_lt (lgS (adj (trnN l)) W n) n hn
  obtain ⟨b, hb, k1⟩ := longest_turned (fun v u hu => (mem_trn l u v).2 hu) (adj_lt h) (adj_lt' h) r1.1 (fun v hv => (g1 v hv).1) (fun v hv => (g2 v hv).2.1) (fun v hv => (g2 v hv).2.2) a1
  obtain ⟨c, hc, k2⟩ := longest_turned (fun v u hu => (mem_trn l v u).1 hu) (adj_lt' h) (adj_lt h) r2.1 (fun v hv => (g2 v hv).1) (fun v hv => (g1 v hv).2.1) (fun v hv => (g1 v hv).2.2) a2
  have m1 := amx_max (lgS (adj (trnN l)) W n) n b hb
  have m2 := amx_max (lgS (adj l) W n) n c hc
  omega
theorem lgA_trn {l : List (Nat × Nat)} {n : Nat} (h : ∀ x ∈ l, x.1 < n ∧ x.2 < n) (ws : List Int) (he : lgE l n ws = 0) : (lgA (trnN l) n ws).1 = (lgA l n ws).1 := by
  rw [lgA_1, lgA_1]
  by_cases hn : n = 0
  · rw [if_pos hn, if_pos hn]
  · rw [if_neg hn, if_neg hn]
    have ho : ∃ E, ordr (adj l) n n [] = some E := by
      cases hc : ordr (adj l) n n [] with
      | none =>
        exfalso
        unfold lgE at he
        rw [hc] at he
        split at he
        · cases he
        · split at he
          · cases he
          · simp at he
      | some E => exact ⟨E, rfl⟩
    obtain ⟨E, ho⟩ := ho
    exact longest_trn h _ ho (by omega)
end Go.Proofs.Yteofbbakegcohaa
