/- DigraphEither: facts. -/
import Derived.Test.YteofbbakegcohaaEj
namespace Go.Proofs.Yteofbbakegcohaa
open Go.ChangeShapes Go.WideShapes Go.ChangeAt Go.RowKit
set_option linter.unusedVariables false
set_option linter.unusedSimpArgs false


theorem ixo_at {E : List Nat} (nd : E.Nodup) {i : Nat} (hi : i < E.length) : ixo (toZ E) ((E[i] : Nat) : Int) = (i : Int) := by
  refine findIdx_some (k := i) (by rw [toZ_len]; exact hi) (fun j hj hlt e => ?_) (by simp [toZ])
  rw [toZ_len] at hj
  have e' : ((E[j] : Nat) : Int) = ((E[i] : Nat) : Int) := by simpa [toZ] using e
  exact List.pairwise_iff_getElem.1 nd j i (by omega) hi hlt (by omega)
/-- An order that is found is right. -/
theorem order_code {l : List (Nat × Nat)} {n : Nat} {E : List Nat} (hl : ∀ x ∈ l, x.1 < n ∧ x.2 < n) (h : ordr (adj l) n n [] = some E) : codeN n (toZ E) = 0 ∧ chB (cast2 l) (toZ E) = true := by
  obtain ⟨nd, hlen, lt, all⟩ := ordr_nodup h
  constructor
  · unfold codeN
    have h1 : ¬ ((toZ E).length : Int) ≠ (n : Int) := by rw [toZ_len, hlen]; simp
    have h2 : ¬ (toZ E).any (outN n) = true := by
      rw [List.any_eq_true]
      rintro ⟨x, hx, ho⟩
      unfold toZ at hx
      obtain ⟨a, ha, rfl⟩ := List.mem_map.1 hx
      have := lt a ha
      unfold outN wi at ho
      rw [decide_eq_true (by omega), decide_eq_true (by omega)] at ho
      simp at ho
    rw [if_neg h1, if_neg h2, if_pos ((nodup_toZ E).2 nd)]
  · unfold chB
    rw [List.all_eq_true]
    intro e he
    unfold cast2 at he
    obtain ⟨x, hx, rfl⟩ := List.mem_map.1 he
    have hx1 := all x.1 (hl x hx).1
    obtain ⟨j, hj, ej⟩ := List.getElem_of_mem hx1
    have hm := later hl h hj (u := x.2) ((mem_adj l _ _).2 (by rw [ej]; exact hx))
    obtain ⟨i, hi, ei⟩ := List.getElem_of_mem hm
    rw [List.length_drop] at hi
    rw [List.getElem_drop] at ei
    have i1 := ixo_at nd hj
    have i2 := ixo_at nd (i := j + 1 + i) (by omega)
    rw [ej] at i1
    rw [ei] at i2
    simp only
    rw [i1, i2]
    exact decide_eq_true (by omega)
/-- What the law asks of a loop. -/
structure Lgd (A : Nat → List Nat) (n : Nat) (L : List Nat) : Prop where
  ne : 0 < L.length
  nd : L.Nodup
  lt : ∀ x ∈ L, x < n
  cir : ∀ k (h : k < L.length) (h2 : (k + 1) % L.length < L.length), L[(k + 1) % L.length] ∈ A L[k]
  sam : ∀ x ∈ L, ∀ y ∈ L, Sam A x y
theorem lgd_of {A : Nat → List Nat} {n first u : Nat} (hA : ∀ v, v < n → ∀ u ∈ A v, u < n) (hf : first < n) (hu : u ∈ A first) (hr : Rch A u first) : Lgd A n (lpl A n first) := by
  obtain ⟨h1, h2, h3⟩ := lpl_all hA hf hu hr
  have h4 : (lpl A n first)[0]? = some first := rfl
  generalize lpl A n first = L at h1 h2 h3 h4 ⊢
  obtain ⟨h0, e0⟩ := List.getElem?_eq_some_iff.1 h4
  refine ⟨h0, h1, fun x hx => (h2 x hx).1, fun k hk hk2 => ?_, fun x hx y hy => ?_⟩
  · have := h3.at k hk
    by_cases e : k + 1 < L.length
    · have e1 : L[(k + 1) % L.length] = L.getD (k + 1) first := by
        rw [List.getD_eq_getElem?_getD, List.getElem?_eq_getElem e, Option.getD_some]
        congr 1
        exact Nat.mod_eq_of_lt e
      rw [e1]; exact this
    · have ek : k + 1 = L.length := by omega
      have e1 : L[(k + 1) % L.length] = L.getD (k + 1) first := by
        rw [List.getD_eq_getElem?_getD, List.getElem?_eq_none (by omega), Option.getD_none]
        rw [← e0]
        congr 1
        rw [ek]; exact Nat.mod_self _
      rw [e1]; exact this
  · have a := (h2 x hx).2
    have b := (h2 y hy).2
    exact ⟨a.2.trans b.1, b.2.trans a.1⟩
theorem lgd_len {A : Nat → List Nat} {n : Nat} {L : List Nat} (h : Lgd A n L) : L.length ≤ n := nodup_le n L h.nd h.lt
theorem pso_cls {n : Nat} {A : Nat → List Nat} {ls : List (List Nat)} (hA : ∀ v, v < n → ∀ u ∈ A v, u < n) (h : Pso n A ls) : Cls n A ls ∧ (∀ q ∈ ls, ∀ x ∈ q, x < n) :=
  ⟨(tall_cls hA).perm h.1, fun q hq => tall_in hA n (Nat.le_refl _) q (h.1.mem_iff.1 hq)⟩
theorem lgd_wth {A : Nat → List Nat} {n : Nat} {L : List Nat} {ls : List (List Nat)} (h : Lgd A n L) (hc : Cls n A ls) : ls.any (wth L) = true := by
  have h0 := h.ne
  obtain ⟨q, hq, hm⟩ := hc.p2 L[0] (h.lt _ (List.getElem_mem h.ne))
  rw [List.any_eq_true]
  refine ⟨q, hq, ?_⟩
  unfold wth
  rw [Bool.not_eq_true', List.any_eq_false]
  intro x hx
  have := ((hc.p1 q hq).2.2.2 _ hm x).2 (h.sam _ (List.getElem_mem h.ne) _ hx)
  rw [List.contains_iff_mem.2 this]; simp
theorem lh_all {l : List (Nat × Nat)} {n : Nat} (hA : ∀ v, v < n → ∀ u ∈ adj l v, u < n) : ∀ ls, Pso n (adj l) ls → ∀ q ∈ ls, lpy (adj l) q = true → (Lh (adj l) n (hd q) (dst (adj l) n (hd q))) ∧ Lgd (adj l) n (lpl (adj l) n (hd q)) := fun ls hp q hq hy => by
  obtain ⟨hc, hlt⟩ := pso_cls hA hp
  obtain ⟨u, hu, hr⟩ := lpy_back hc hq hy
  have hf := hlt q hq _ (hd_mem (hc.p1 q hq).2.2.1)
  exact ⟨lh_of hA hf hu hr, lgd_of hA hf hu hr⟩
theorem gr_adj {w : World} {p : Option Addr} {n : Nat} {l : List (Nat × Nat)} (h : Gr w p n l) : ∀ v, v < n → ∀ u ∈ adj l v, u < n := fun v _ u hu => (h.2.2.2 _ ((mem_adj l v u).1 hu)).2
theorem loop_some {p : Option Addr} {n : Nat} {l : List (Nat × Nat)} (cap : Nat) {w : World} (hG : Gr w p n l) (hE : ordr (adj l) n n [] = none) :
    Calls Try.prog 27 #[.int .i64 n, .slice p l.length cap] w fun e w' => ∃ v L, e = .returned (.tuple #[v, .int .i64 0]) ∧ Own w.heap.size w' v L ∧ Lgd (adj l) n L ∧ Below w.heap.size w w' :=
  (loop_ok p n l cap w hG fun ls h q hq hy => (lh_all (gr_adj hG) ls h q hq hy).1).mono fun e w' k => by
    obtain ⟨ls, hp, hb, h1, -⟩ := k
    obtain ⟨hc, hlt⟩ := pso_cls (gr_adj hG) hp
    obtain ⟨q, hf, hq, hy⟩ := (ordr_find (gr_adj hG) hc hlt).2 hE
    obtain ⟨v, e1, o⟩ := h1 q hf
    exact ⟨v, _, e1, o, (lh_all (gr_adj hG) ls hp q hq hy).2, hb⟩
theorem loop_none {p : Option Addr} {n : Nat} {l : List (Nat × Nat)} (cap : Nat) {w : World} (hG : Gr w p n l) {E : List Nat} (hE : ordr (adj l) n n [] = some E) :
    Calls Try.prog 27 #[.int .i64 n, .slice p l.length cap] w fun e w' => e = .returned (.tuple #[.slice none 0 0, .int .i64 12]) ∧ Below w.heap.size w w' :=
  (loop_ok p n l cap w hG fun ls h q hq hy => (lh_all (gr_adj hG) ls h q hq hy).1).mono fun e w' k => by
    obtain ⟨ls, hp, hb, -, h2⟩ := k
    obtain ⟨hc, hlt⟩ := pso_cls (gr_adj hG) hp
    exact ⟨h2 ((ordr_find (gr_adj hG) hc hlt).1 E hE), hb⟩
theorem tmod_next {k m : Nat} (h : k < m) : Int.tmod ((k : Int) + 1) (m : Int) = (((k + 1) % m : Nat) : Int) := by
  rw [show ((k : Int) + 1) = ((k + 1 : Nat) : Int) by omega, Int.ofNat_tmod]
theorem mem_cast2 {l : List (Nat × Nat)} {a b : Nat} (h : (a, b) ∈ l) : (cast2 l).contains ((a : Int), (b : Int)) = true := by
  rw [List.contains_iff_mem]
  exact List.mem_map.2 ⟨(a, b), h, rfl⟩
end Go.Proofs.Yteofbbakegcohaa
