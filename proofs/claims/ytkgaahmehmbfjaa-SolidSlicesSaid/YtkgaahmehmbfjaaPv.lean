/- Volumes and cross-sections as sums over whole numbers (pure). -/
import Derived.Test.YtkgaahmehmbfjaaSu
import Derived.Test.YtkgaahmehmbfjaaTj
import Derived.Test.YtkgaahmehmbfjaaZ6
namespace Go.Proofs.Ytkgaahmehmbfjaa
open Go.ChangeShapes Go.WideShapes Go.ChangeAt Go.RowKit
set_option linter.unusedVariables false
set_option linter.unusedSimpArgs false

def ibB (b : Bx) (x y z : Int) : Bool := (decide (b.a ≤ x) && decide (x < b.d)) && (decide (b.b ≤ y) && decide (y < b.e)) && (decide (b.c ≤ z) && decide (z < b.f))
/-- Whether the unit cube from (x, y, z) on is in the concrete. -/
def celB (l h : List Bx) (x y z : Int) : Bool := l.any (fun b => ibB b x y z) && !h.any (fun b => ibB b x y z)
def celI (l h : List Bx) (x y z : Int) : Int := if celB l h x y z = true then 1 else 0
/-- The cross-section at x, and the volume, counted. -/
def secF (l h : List Bx) (A B x : Int) : Int := tot A B fun y => tot A B fun z => celI l h x y z
def volF (l h : List Bx) (A B : Int) : Int := tot A B fun x => secF l h A B x
theorem mem_pls {l : List Bx} {b : Bx} (hb : b ∈ l) (ax : Nat) : (b.side ax).1 ∈ pls l ax ∧ (b.side ax).2 ∈ pls l ax := by
  rw [side_pk]
  exact ⟨List.mem_flatMap.2 ⟨b, hb, by simp⟩, List.mem_flatMap.2 ⟨b, hb, by simp⟩⟩
theorem mem_places {l h : List Bx} {b : Bx} (hb : b ∈ l ∨ b ∈ h) (ax : Nat) : (b.side ax).1 ∈ places l h ax ∧ (b.side ax).2 ∈ places l h ax := by
  have hm := (srt_asc (pls l ax ++ pls h ax)).2
  rcases hb with hb | hb
  · exact ⟨(hm _).2 (List.mem_append_left _ (mem_pls hb ax).1), (hm _).2 (List.mem_append_left _ (mem_pls hb ax).2)⟩
  · exact ⟨(hm _).2 (List.mem_append_right _ (mem_pls hb ax).1), (hm _).2 (List.mem_append_right _ (mem_pls hb ax).2)⟩
theorem cn_at {l h : List Bx} {b : Bx} (hb : b ∈ l ∨ b ∈ h) {ax : Nat} {s : Sx} (hs : s ∈ strs l h ax) {i : Int} (h1 : s.lo ≤ i) (h2 : i < s.hi) : cn (b.side ax) (s.lo, s.hi) = true ↔ (b.side ax).1 ≤ i ∧ i < (b.side ax).2 := by
  obtain ⟨p, hp, rfl⟩ := List.mem_map.1 hs
  obtain ⟨-, k3, k4⟩ := prs_apart _ (srt_asc (pls l ax ++ pls h ax)).1 p hp
  obtain ⟨m1, m2⟩ := mem_places hb ax
  have a1 := k4 _ m1
  have a2 := k4 _ m2
  simp only [sxOf] at h1 h2 ⊢
  unfold cn conS
  simp only [Bool.and_eq_true, decide_eq_true_eq]
  omega
theorem bm_bit {l h : List Bx} {ax : Nat} {s : Sx} (hs : s ∈ strs l h ax) (j : Nat) : (s.bm.testBit j = true ↔ ∃ q : j < l.length, cn (l[j].side ax) (s.lo, s.hi) = true) ∧ (s.hm.testBit j = true ↔ ∃ q : j < h.length, cn (h[j].side ax) (s.lo, s.hi) = true) := by
  obtain ⟨p, hp, rfl⟩ := List.mem_map.1 hs
  have e1 := hm_bit l ax p j
  have e2 := hm_bit h ax p j
  rw [show (sds l ax).length = l.length by simp [sds]] at e1
  rw [show (sds h ax).length = h.length by simp [sds]] at e2
  exact ⟨e1, e2⟩
theorem any_iff (m : List Bx) (x y z : Int) : m.any (fun b => ibB b x y z) = true ↔ ∃ j, ∃ q : j < m.length, ((m[j].side 0).1 ≤ x ∧ x < (m[j].side 0).2) ∧ ((m[j].side 1).1 ≤ y ∧ y < (m[j].side 1).2) ∧ ((m[j].side 2).1 ≤ z ∧ z < (m[j].side 2).2) := by
  rw [List.any_eq_true]
  constructor
  · rintro ⟨b, hb, h⟩
    obtain ⟨j, hj, rfl⟩ := List.mem_iff_getElem.1 hb
    simp only [ibB, Bool.and_eq_true, decide_eq_true_eq] at h
    exact ⟨j, hj, h.1.1, h.1.2, h.2⟩
  · rintro ⟨j, hj, h⟩
    refine ⟨m[j], List.getElem_mem hj, ?_⟩
    simp only [ibB, Bool.and_eq_true, decide_eq_true_eq]
    exact ⟨⟨h.1, h.2.1⟩, h.2.2⟩
/-- A piece is kept if the cubes in it are in the concrete. -/
theorem keep_cel {l h : List Bx} {s t u : Sx} (hs : s ∈ strs l h 0) (ht : t ∈ strs l h 1) (hu : u ∈ strs l h 2) {x y z : Int} (hx : s.lo ≤ x ∧ x < s.hi) (hy : t.lo ≤ y ∧ y < t.hi) (hz : u.lo ≤ z ∧ z < u.hi) : keepX s t u = celB l h x y z := by
  have e1 : ((s.bm &&& t.bm &&& u.bm) != 0) = l.any (fun b => ibB b x y z) := by
    rw [Bool.eq_iff_iff, and3, any_iff]
    constructor
    · rintro ⟨j, j1, j2, j3⟩
      obtain ⟨q, c1⟩ := (bm_bit hs j).1.1 j1
      obtain ⟨q2, c2⟩ := (bm_bit ht j).1.1 j2
      obtain ⟨q3, c3⟩ := (bm_bit hu j).1.1 j3
      have hb := Or.inl (b := l[j] ∈ h) (List.getElem_mem q)
      exact ⟨j, q, (cn_at hb hs hx.1 hx.2).1 c1, (cn_at hb ht hy.1 hy.2).1 c2, (cn_at hb hu hz.1 hz.2).1 c3⟩
    · rintro ⟨j, q, c1, c2, c3⟩
      have hb := Or.inl (b := l[j] ∈ h) (List.getElem_mem q)
      exact ⟨j, (bm_bit hs j).1.2 ⟨q, (cn_at hb hs hx.1 hx.2).2 c1⟩, (bm_bit ht j).1.2 ⟨q, (cn_at hb ht hy.1 hy.2).2 c2⟩, (bm_bit hu j).1.2 ⟨q, (cn_at hb hu hz.1 hz.2).2 c3⟩⟩
  have e2 : ((s.hm &&& t.hm &&& u.hm) != 0) = h.any (fun b => ibB b x y z) := by
    rw [Bool.eq_iff_iff, and3, any_iff]
    constructor
    · rintro ⟨j, j1, j2, j3⟩
      obtain ⟨q, c1⟩ := (bm_bit hs j).2.1 j1
      obtain ⟨q2, c2⟩ := (bm_bit ht j).2.1 j2
      obtain ⟨q3, c3⟩ := (bm_bit hu j).2.1 j3
      have hb := Or.inr (a := h[j] ∈ l) (List.getElem_mem q)
      exact ⟨j, q, (cn_at hb hs hx.1 hx.2).1 c1, (cn_at hb ht hy.1 hy.2).1 c2, (cn_at hb hu hz.1 hz.2).1 c3⟩
    · rintro ⟨j, q, c1, c2, c3⟩
      have hb := Or.inr (a := h[j] ∈ l) (List.getElem_mem q)
      exact ⟨j, (bm_bit hs j).2.2 ⟨q, (cn_at hb hs hx.1 hx.2).2 c1⟩, (bm_bit ht j).2.2 ⟨q, (cn_at hb ht hy.1 hy.2).2 c2⟩, (bm_bit hu j).2.2 ⟨q, (cn_at hb hu hz.1 hz.2).2 c3⟩⟩
  unfold keepX celB
  rw [e1, ← e2]
  simp only [bne, Bool.not_not]
theorem tot_prs (f : Int → Int) (g : S2 → Int) : ∀ (l : List Int) (a : Int), Asc (a :: l) → (∀ p ∈ prs (a :: l), ∀ i, p.1 ≤ i → i < p.2 → f i = g p) → a ≤ (a :: l).getLast (by simp) ∧ ((prs (a :: l)).map fun p => (p.2 - p.1) * g p).sum = tot a ((a :: l).getLast (by simp)) f
  | [], a, _, _ => ⟨Int.le_refl _, by simp [prs, tot, isum]⟩
  | b :: l, a, ha, h => by
    rw [Asc, List.pairwise_cons] at ha
    have hab := ha.1 b (by simp)
    obtain ⟨h1, h2⟩ := tot_prs f g l b ha.2 fun p hp => h p (by rw [prs_cons]; exact List.mem_cons_of_mem _ hp)
    have e : (a :: b :: l).getLast (by simp) = (b :: l).getLast (by simp) := List.getLast_cons (by simp)
    rw [e]
    refine ⟨by omega, ?_⟩
    rw [prs_cons, List.map_cons, List.sum_cons, h2, tot_join f (Int.le_of_lt hab) h1]
    congr 1
    rw [tot_congr (g := fun _ => g (a, b)) fun i h3 h4 => h (a, b) (by rw [prs_cons]; simp) i h3 h4, tot_const _ (Int.le_of_lt hab)]
/-- Sums over stretches are sums over whole numbers. -/
theorem tot_strs {l h : List Bx} (ax : Nat) (hl : 1 ≤ l.length) {A B : Int} (f : Int → Int) (g : Sx → Int) (hA : ∀ z ∈ places l h ax, A ≤ z ∧ z ≤ B) (hfg : ∀ s ∈ strs l h ax, ∀ i, s.lo ≤ i → i < s.hi → f i = g s)
    (h0 : ∀ i, (∀ b ∈ l, ¬ ((b.side ax).1 ≤ i ∧ i < (b.side ax).2)) → f i = 0) : ((strs l h ax).map fun s => (s.hi - s.lo) * g s).sum = tot A B f := by
  have hp := places_pos l h ax hl
  have ha := (srt_asc (pls l ax ++ pls h ax)).1
  have hmem := fun (b : Bx) (hb : b ∈ l) => mem_places (h := h) (.inl hb) ax
  have e : ((strs l h ax).map fun s => (s.hi - s.lo) * g s) = (prs (places l h ax)).map fun p => (p.2 - p.1) * g (sxOf l h ax p) := by
    unfold strs; rw [List.map_map]; rfl
  rw [e]
  have hfg' : ∀ p ∈ prs (places l h ax), ∀ i, p.1 ≤ i → i < p.2 → f i = g (sxOf l h ax p) := fun p hq i h1 h2 => hfg _ (List.mem_map.2 ⟨p, hq, rfl⟩) i h1 h2
  change Asc (places l h ax) at ha
  generalize places l h ax = L at *
  match L, hp with
  | a :: L, _ =>
    obtain ⟨k1, k2⟩ := tot_prs f (fun p => g (sxOf l h ax p)) L a ha hfg'
    rw [k2]
    have hlast : (a :: L).getLast (by simp) ∈ a :: L := List.getLast_mem _
    have hmin : ∀ z ∈ a :: L, a ≤ z := fun z hz => by
      rcases List.mem_cons.1 hz with rfl | hz
      · exact Int.le_refl _
      · exact Int.le_of_lt ((List.pairwise_cons.1 ha).1 z hz)
    have hmax : ∀ z ∈ a :: L, z ≤ (a :: L).getLast (by simp) := fun z hz => by
      have := List.pairwise_iff_getElem.1 ha
      obtain ⟨j, hj, rfl⟩ := List.mem_iff_getElem.1 hz
      rw [List.getLast_eq_getElem]
      rcases Nat.lt_or_ge j ((a :: L).length - 1) with q | q
      · exact Int.le_of_lt (this j _ hj (by simp) q)
      · have : j = (a :: L).length - 1 := by omega
        subst this
        exact Int.le_refl _
    refine (tot_supp (hA a (by simp)).1 k1 (hA _ hlast).2 fun i hi => h0 i fun b hb => ?_).symm
    have m1 := hmin _ (hmem b hb).1
    have m2 := hmax _ (hmem b hb).2
    omega
end Go.Proofs.Ytkgaahmehmbfjaa
