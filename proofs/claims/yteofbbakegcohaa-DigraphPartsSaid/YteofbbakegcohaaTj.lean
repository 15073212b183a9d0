/- Digraphs, pure: distances, loops, and that there is an order exactly if there is no loop. -/
import Derived.Test.YteofbbakegcohaaTi
import Derived.Test.YteofbbakegcohaaLq
namespace Go.Proofs.Yteofbbakegcohaa
open Go.ChangeShapes Go.WideShapes Go.ChangeAt Go.RowKit
set_option linter.unusedVariables false
set_option linter.unusedSimpArgs false


/-- The distances: what holds while they are found. -/
structure Bd (A : Nat → List Nat) (n last : Nat) (f : Nat → Nat) (qs : List Nat) : Prop where
  l : f last = 0
  p : ∀ v, f v ≠ n → v = last ∨ ∃ u ∈ A v, f u + 1 = f v ∧ f u ≠ n
  c : ∀ x, f x ≠ n → x ∉ qs → ∀ v, v < n → x ∈ A v → f v ≠ n
theorem bst_bd {A : Nat → List Nat} {n last q v : Nat} {f : Nat → Nat} {t : List Nat} (h : Bd A n last f (q :: t)) (hb : Bq n f (q :: t)) (hv : v < n) :
    Bd A n last (bst A n q (f, t) v).1 (q :: (bst A n q (f, t) v).2) ∧ (q ∈ A v → (bst A n q (f, t) v).1 v ≠ n) ∧ ∀ u, f u ≠ n → (bst A n q (f, t) v).1 u = f u := by
  unfold bst
  by_cases hc : f v = n ∧ q ∈ A v
  · rw [if_pos hc]
    have hq := (hb.q q (by simp)).2
    have hb1 := hb.b q hq
    have hp := ust_pos hv hc.1
    have hn : f q + 1 ≠ n := by omega
    have old : ∀ u, f u ≠ n → upd f v (f q + 1) u = f u := fun u hu => upd_other (fun e => hu (by rw [e]; exact hc.1))
    simp only
    refine ⟨⟨?_, fun u hu => ?_, fun x hx hxq w hw hxw => ?_⟩, fun _ => by rw [upd_same]; exact hn, old⟩
    · rw [old last (by rw [h.l]; omega)]; exact h.l
    · by_cases e : u = v
      · subst e
        exact .inr ⟨q, hc.2, by rw [old q hq, upd_same], by rw [old q hq]; exact hq⟩
      · rw [upd_other e] at hu ⊢
        rcases h.p u hu with k | ⟨x, k1, k2, k3⟩
        · exact .inl k
        · exact .inr ⟨x, k1, by rw [old x k3]; exact k2, by rw [old x k3]; exact k3⟩
    · have hxv : x ≠ v := fun e => hxq (by subst e; simp)
      rw [upd_other hxv] at hx
      have := h.c x hx (fun m => hxq (by
        rcases List.mem_cons.1 m with m | m
        · simp [m]
        · simp [m])) w hw hxw
      rw [old w this]; exact this
  · rw [if_neg hc]
    exact ⟨h, fun k e => hc ⟨e, k⟩, fun u _ => rfl⟩
theorem bfold_bd {A : Nat → List Nat} {n last q : Nat} : ∀ (xs : List Nat) (f : Nat → Nat) (t : List Nat), (∀ x ∈ xs, x < n) → Bd A n last f (q :: t) → Bq n f (q :: t) →
    Bd A n last (xs.foldl (bst A n q) (f, t)).1 (q :: (xs.foldl (bst A n q) (f, t)).2) ∧ (∀ v ∈ xs, q ∈ A v → (xs.foldl (bst A n q) (f, t)).1 v ≠ n) ∧ ∀ u, f u ≠ n → (xs.foldl (bst A n q) (f, t)).1 u = f u
  | [], f, t, _, h, _ => ⟨h, (fun v hv => by cases hv), fun u _ => rfl⟩
  | x :: xs, f, t, hx, h, hb => by
    rw [List.foldl_cons]
    obtain ⟨b1, b2⟩ := bst_inv (A := A) hb (hx x (by simp))
    obtain ⟨h1, h2, h3⟩ := bst_bd h hb (hx x (by simp))
    obtain ⟨k1, k2, k3⟩ := bfold_bd xs (bst A n q (f, t) x).1 (bst A n q (f, t) x).2 (fun y hy => hx y (by simp [hy])) h1 b1
    refine ⟨k1, fun v hv hqv => ?_, fun u hu => ?_⟩
    · rcases List.mem_cons.1 hv with e | e
      · subst e
        have := h2 hqv
        exact fun e => this (by rw [← k3 v this]; exact e)
      · exact k2 v e hqv
    · have := h3 u hu
      exact (k3 u (by rw [this]; exact hu)).trans this
theorem bfs_bd {A : Nat → List Nat} {n last : Nat} : ∀ (k : Nat) (f : Nat → Nat) (qs : List Nat), Bd A n last f qs → Bq n f qs → ust n f + qs.length ≤ k → Bd A n last (bfs A n k f qs) [] ∧ Bq n (bfs A n k f qs) []
  | 0, f, qs, h, hb, hk => by
    have e : qs = [] := List.length_eq_zero_iff.1 (by omega)
    subst e; exact ⟨h, hb⟩
  | k + 1, f, [], h, hb, hk => ⟨h, hb⟩
  | k + 1, f, q :: t, h, hb, hk => by
    unfold bfs
    obtain ⟨b1, b2⟩ := bfold_inv (A := A) (List.range n) f t (fun x hx => List.mem_range.1 hx) hb
    obtain ⟨h1, h2, h3⟩ := bfold_bd (List.range n) f t (fun x hx => List.mem_range.1 hx) h hb
    refine bfs_bd k _ _ ⟨h1.l, h1.p, fun x hx hxq v hv hxv => ?_⟩ ⟨b1.b, fun x hx => b1.q x (by simp [hx])⟩ (by simp only [List.length_cons] at hk; omega)
    by_cases e : x = q
    · subst e; exact h2 v (List.mem_range.2 hv) hxv
    · exact h1.c x hx (fun m => (List.mem_cons.1 m).elim e hxq) v hv hxv
theorem dst_bd {A : Nat → List Nat} {n last : Nat} (hl : last < n) : Bd A n last (dst A n last) [] ∧ Bq n (dst A n last) [] := by
  obtain ⟨b1, b2⟩ := Bq.start hl
  refine bfs_bd n _ _ ⟨upd_same _ _ _, fun v hv => .inl ?_, fun x hx hxq => ?_⟩ b1 (by simp only [List.length_singleton]; omega)
  · by_cases e : v = last
    · exact e
    · rw [upd_other e] at hv; exact absurd rfl hv
  · exfalso
    by_cases e : x = last
    · exact hxq (by simp [e])
    · rw [upd_other e] at hx; exact absurd rfl hx
theorem bd_of_rch {A : Nat → List Nat} {n : Nat} (hA : ∀ v, v < n → ∀ u ∈ A v, u < n) {a b : Nat} (h : Rch A a b) (f : Nat → Nat) (hf : Bd A n b f []) (ha : a < n) : f a ≠ n := by
  induction h with
  | refl v => rw [hf.l]; omega
  | step hu _ ih => exact hf.c _ (ih hf (hA _ ha _ hu)) (by simp) _ ha hu
theorem rch_of_bd {A : Nat → List Nat} {n b : Nat} {f : Nat → Nat} (hf : Bd A n b f []) : ∀ (k v : Nat), f v ≤ k → f v ≠ n → Rch A v b
  | k, v, hk, h => by
    rcases hf.p v h with e | ⟨u, hu, e, h2⟩
    · subst e; exact .refl _
    · match k with
      | 0 => omega
      | k + 1 => exact .step hu (rch_of_bd hf k u (by omega) h2)
theorem mnf_le (d : Nat → Nat) : ∀ (t : List Nat) (x y : Nat), y ∈ x :: t → d (mnf d (x :: t)) ≤ d y
  | [], x, y, h => by simp at h; subst h; simp [mnf]
  | a :: t, x, y, h => by
    have e : mnf d (x :: a :: t) = mnf d ((if d a < d x then a else x) :: t) := by simp [mnf]
    rw [e]
    have k := mnf_le d t (if d a < d x then a else x)
    have k0 := k (if d a < d x then a else x) (by simp)
    rcases List.mem_cons.1 h with h | h
    · subst h
      by_cases c : d a < d y
      · rw [if_pos c] at k0 ⊢; omega
      · rw [if_neg c] at k0 ⊢; exact k0
    · rcases List.mem_cons.1 h with h | h
      · subst h
        by_cases c : d y < d x
        · rw [if_pos c] at k0 ⊢; exact k0
        · rw [if_neg c] at k0 ⊢; omega
      · exact k y (by simp [h])
theorem mnf_min (d : Nat → Nat) {xs : List Nat} {y : Nat} (h : y ∈ xs) : d (mnf d xs) ≤ d y := by
  cases xs with
  | nil => cases h
  | cons x t => exact mnf_le d t x y h
theorem mnf_mem (d : Nat → Nat) {xs : List Nat} (h : 0 < xs.length) : mnf d xs ∈ xs := by
  have := mnk_mem d xs xs.length h (Nat.le_refl _)
  rwa [mnk_end] at this
/-- From a node that comes back to itself a loop is found. -/
theorem lh_of {A : Nat → List Nat} {n first u : Nat} (hA : ∀ v, v < n → ∀ u ∈ A v, u < n) (hf : first < n) (hu : u ∈ A first) (hr : Rch A u first) : Lh A n first (dst A n first) := by
  obtain ⟨D, B⟩ := dst_bd (A := A) hf
  refine ⟨hf, List.length_pos_of_mem hu, ?_, fun v hv hne hd => ?_⟩
  · have h1 := bd_of_rch hA hr _ D (hA _ hf _ hu)
    have h2 := B.b u h1
    have := mnf_min (dst A n first) hu
    omega
  · rcases D.p v (by omega) with e | ⟨x, hx, e, h2⟩
    · exact absurd e hne
    · have := mnf_min (dst A n first) hx
      exact ⟨List.length_pos_of_mem hx, by omega⟩
/-- A walk round: each to the next, the last to z. -/
def Cir (A : Nat → List Nat) (z : Nat) : List Nat → Prop
  | [] => True
  | [x] => z ∈ A x
  | x :: y :: t => y ∈ A x ∧ Cir A z (y :: t)
theorem Cir.at {A : Nat → List Nat} {z : Nat} : ∀ {L : List Nat}, Cir A z L → ∀ i (h : i < L.length), L.getD (i + 1) z ∈ A L[i]
  | [], _, i, h => by simp at h
  | [x], h, 0, _ => by
    have h' : z ∈ A x := h
    simpa using h'
  | [x], h, i + 1, hi => by simp at hi
  | x :: y :: t, h, 0, _ => by simpa using h.1
  | x :: y :: t, h, i + 1, hi => by
    have := Cir.at h.2 i (by simp only [List.length_cons] at hi ⊢; omega)
    simpa using this
theorem lpw_in {A : Nat → List Nat} {n first : Nat} (hA : ∀ v, v < n → ∀ u ∈ A v, u < n) {d : Nat → Nat} (L : Lh A n first d) : ∀ (k v : Nat), v < n → d v < n →
    (∀ x ∈ lpw A d first k v, x < n ∧ d x < n ∧ d x ≤ d v ∧ x ≠ first ∧ Rch A v x) ∧ (lpw A d first k v).Nodup
  | 0, v, _, _ => ⟨(fun x hx => by cases hx), List.nodup_nil⟩
  | k + 1, v, hv, hd => by
    unfold lpw
    by_cases e : v = first
    · rw [if_pos e]; exact ⟨(fun x hx => by cases hx), List.nodup_nil⟩
    · rw [if_neg e]
      obtain ⟨h1, h2⟩ := L.v v hv e hd
      have hm := mnf_mem d h1
      obtain ⟨k1, k2⟩ := lpw_in hA L k (mnf d (A v)) (hA v hv _ hm) (by omega)
      refine ⟨fun x hx => ?_, List.nodup_cons.2 ⟨fun m => ?_, k2⟩⟩
      · rcases List.mem_cons.1 hx with hx | hx
        · subst hx; exact ⟨hv, hd, Nat.le_refl _, e, .refl _⟩
        · obtain ⟨a, b, c, f, g⟩ := k1 x hx
          exact ⟨a, b, by omega, f, .step hm g⟩
      · have := (k1 v m).2.2.1
        omega
theorem lpw_cir {A : Nat → List Nat} {n first : Nat} (hA : ∀ v, v < n → ∀ u ∈ A v, u < n) {d : Nat → Nat} (L : Lh A n first d) : ∀ (k v x : Nat), v < n → d v < n → v ∈ A x → (v = first ∨ d v < k) → Cir A first (x :: lpw A d first k v)
  | 0, v, x, hv, hd, hx, hk => by
    rcases hk with e | e
    · subst e; exact hx
    · omega
  | k + 1, v, x, hv, hd, hx, hk => by
    unfold lpw
    by_cases e : v = first
    · rw [if_pos e]; subst e; exact hx
    · rw [if_neg e]
      obtain ⟨h1, h2⟩ := L.v v hv e hd
      have hm := mnf_mem d h1
      exact ⟨hx, lpw_cir hA L k (mnf d (A v)) v (hA v hv _ hm) (by omega) hm (.inr (by rcases hk with h | h; exact absurd h e; omega))⟩
/-- What the loop is. -/
theorem lpl_all {A : Nat → List Nat} {n first u : Nat} (hA : ∀ v, v < n → ∀ u ∈ A v, u < n) (hf : first < n) (hu : u ∈ A first) (hr : Rch A u first) :
    (lpl A n first).Nodup ∧ (∀ x ∈ lpl A n first, x < n ∧ Sam A first x) ∧ Cir A first (lpl A n first) := by
  have L := lh_of hA hf hu hr
  obtain ⟨D, B⟩ := dst_bd (A := A) hf
  have hm := mnf_mem (dst A n first) L.a
  have hmn := hA _ hf _ hm
  obtain ⟨h1, h2⟩ := lpw_in hA L n (mnf (dst A n first) (A first)) hmn L.s
  refine ⟨List.nodup_cons.2 ⟨fun m => (h1 first m).2.2.2.1 rfl, h2⟩, fun x hx => ?_, lpw_cir hA L n _ first hmn L.s hm (.inr L.s)⟩
  rcases List.mem_cons.1 hx with e | e
  · subst e; exact ⟨hf, .refl _, .refl _⟩
  · obtain ⟨a, b, c, f, g⟩ := h1 x e
    exact ⟨a, .step hm g, rch_of_bd D _ x (Nat.le_refl _) (by omega)⟩
/-- A part with a loop has one through its first node. -/
theorem lpy_back {A : Nat → List Nat} {n : Nat} {ls : List (List Nat)} (hc : Cls n A ls) {q : List Nat} (hq : q ∈ ls) (h : lpy A q = true) : ∃ u ∈ A (hd q), Rch A u (hd q) := by
  obtain ⟨h1, h2, h3, h4⟩ := hc.p1 q hq
  unfold lpy at h
  rcases Bool.or_eq_true_iff.1 h with h | h
  · have hl := of_decide_eq_true h
    match q, hl, h1, h4 with
    | a :: b :: t, _, h1, h4 =>
      have hab : a ≠ b := by rw [List.nodup_cons] at h1; exact fun e => h1.1 (by simp [e])
      obtain ⟨r1, r2⟩ := (h4 a (by simp) b).1 (by simp)
      cases r1 with
      | refl => exact absurd rfl hab
      | step hu hr => exact ⟨_, hu, hr.trans r2⟩
  · exact ⟨hd q, by simpa using h, .refl _⟩
theorem rch_rank {A : Nat → List Nat} {n : Nat} {rk : Nat → Nat} (hA : ∀ v, v < n → ∀ u ∈ A v, u < n) (hr : Rnk A n rk) {a b : Nat} (h : Rch A a b) (ha : a < n) : rk b ≤ rk a := by
  induction h with
  | refl v => exact Nat.le_refl _
  | step hu _ ih => exact Nat.le_trans (ih (hA _ ha _ hu)) (Nat.le_of_lt (hr.1 _ ha _ hu))
theorem no_lpy {A : Nat → List Nat} {n : Nat} {ls : List (List Nat)} {rk : Nat → Nat} (hA : ∀ v, v < n → ∀ u ∈ A v, u < n) (hr : Rnk A n rk) (hc : Cls n A ls) (hlt : ∀ q ∈ ls, ∀ x ∈ q, x < n) : ∀ q ∈ ls, lpy A q = false := fun q hq => by
  cases e : lpy A q
  · rfl
  · obtain ⟨u, hu, h⟩ := lpy_back hc hq e
    have hx := hlt q hq _ (hd_mem (hc.p1 q hq).2.2.1)
    have k1 := hr.1 _ hx _ hu
    have k2 := rch_rank hA hr h (hA _ hx _ hu)
    omega
open Classical in
theorem rank_of {A : Nat → List Nat} {n : Nat} {ls : List (List Nat)} (hA : ∀ v, v < n → ∀ u ∈ A v, u < n) (hc : Cls n A ls) (h : ∀ q ∈ ls, lpy A q = false) : Rnk A n fun x => (List.range n).countP (fun y => decide (Rch A x y)) := by
  refine ⟨fun v hv u hu => ?_, fun v => Nat.le_trans List.countP_le_length (by simp)⟩
  have hnot : ¬ Rch A u v := fun k => by
    obtain ⟨q, hq, hvq⟩ := hc.p2 v hv
    obtain ⟨h1, h2, h3, h4⟩ := hc.p1 q hq
    have hqf := h q hq
    unfold lpy at hqf
    rw [Bool.or_eq_false_iff] at hqf
    have hl : ¬ 1 < q.length := of_decide_eq_false hqf.1
    have huq : u ∈ q := (h4 v hvq u).2 ⟨.edge hu, k⟩
    match q, h3, hl, hvq, huq, hqf.2 with
    | [a], _, _, hvq, huq, hf =>
      simp only [List.mem_singleton] at hvq huq
      subst hvq; subst huq
      simp [hd] at hf
      exact hf hu
    | a :: b :: t, _, hl, _, _, _ => simp at hl
  show List.countP _ _ < List.countP _ _
  have key : ∀ xs : List Nat, v ∈ xs → List.countP (fun y => decide (Rch A u y)) xs < List.countP (fun y => decide (Rch A v y)) xs := by
    intro xs hx
    obtain ⟨s, t, rfl⟩ := List.append_of_mem hx
    have mono : ∀ zs : List Nat, List.countP (fun y => decide (Rch A u y)) zs ≤ List.countP (fun y => decide (Rch A v y)) zs := fun zs => List.countP_mono_left fun x _ k => by
      have := of_decide_eq_true k
      exact decide_eq_true (.step hu this)
    have m1 := mono s
    have m2 := mono t
    rw [List.countP_append, List.countP_append, List.countP_cons_of_neg (by simpa using hnot), List.countP_cons_of_pos (by simpa using Rch.refl v)]
    omega
  exact key _ (List.mem_range.2 hv)
theorem ordr_of_rank {A : Nat → List Nat} {n : Nat} {rk : Nat → Nat} (hr : Rnk A n rk) : ∀ (k : Nat) (D : List Nat), D.length + k = n → ordr A n k D ≠ none
  | 0, D, _ => by simp [ordr]
  | k + 1, D, hl => by
    unfold ordr
    cases e : nxt A n D with
    | some x => exact ordr_of_rank hr k (D ++ [x]) (by simp; omega)
    | none =>
      exfalso
      have hno : ∀ x, x < n → fre A n D x = false := fun x hx => by
        have := List.find?_eq_none.1 e x (List.mem_range.2 hx)
        simpa using this
      have up : ∀ m x, x < n → x ∉ D → n ≤ rk x + m → False := by
        intro m
        induction m with
        | zero =>
          intro x hx hxD hm
          refine absurd ((fre_iff A n D x).2 ⟨hxD, fun v hv hvD hxv => ?_⟩) (by rw [hno x hx]; simp)
          have := hr.1 v hv x hxv
          have := hr.2 v
          omega
        | succ m ih =>
          intro x hx hxD hm
          refine absurd ((fre_iff A n D x).2 ⟨hxD, fun v hv hvD hxv => ?_⟩) (by rw [hno x hx]; simp)
          have := hr.1 v hv x hxv
          exact ih v hv hvD (by omega)
      have : ∃ x, x < n ∧ x ∉ D := by
        refine Classical.byContradiction fun hall => ?_
        have hsub : List.range n ⊆ D := fun x hx => Classical.byContradiction fun h => hall ⟨x, List.mem_range.1 hx, h⟩
        have := List.nodup_range.length_le_of_subset hsub
        simp at this
        omega
      obtain ⟨x, hx, hxD⟩ := this
      exact up n x hx hxD (by omega)
theorem ordr_find {n : Nat} {A : Nat → List Nat} {ls : List (List Nat)} (hA : ∀ v, v < n → ∀ u ∈ A v, u < n) (hc : Cls n A ls) (hlt : ∀ q ∈ ls, ∀ x ∈ q, x < n) :
    (∀ E, ordr A n n [] = some E → ls.find? (lpy A) = none) ∧ (ordr A n n [] = none → ∃ q, ls.find? (lpy A) = some q ∧ q ∈ ls ∧ lpy A q = true) := by
  constructor
  · intro E hE
    rw [List.find?_eq_none]
    intro q hq
    rw [no_lpy hA (ordr_rank hA hE) hc hlt q hq]; simp
  · intro hE
    cases e : ls.find? (lpy A) with
    | some q => exact ⟨q, rfl, List.mem_of_find?_eq_some e, List.find?_some e⟩
    | none =>
      have := List.find?_eq_none.1 e
      exact absurd hE (ordr_of_rank (rank_of hA hc fun q hq => by simpa using this q hq) n [] (by simp))
end Go.Proofs.Yteofbbakegcohaa
