/- What covers says: each point of the box lies in one of the boxes (pure). -/
import Derived.Test.YtffigpkkdljaiaaAsc
import Derived.Test.YtffigpkkdljaiaaLm0
namespace Go.Proofs.Ytffigpkkdljaiaa
set_option linter.unusedVariables false
set_option linter.unusedSimpArgs false
/-- A point, its coordinates doubled, lies in a box. -/
def In3 (x : Bx) (s t u : Int) : Prop := (2 * x.a ≤ s ∧ s ≤ 2 * x.d) ∧ (2 * x.b ≤ t ∧ t ≤ 2 * x.e) ∧ (2 * x.c ≤ u ∧ u ≤ 2 * x.f)
theorem cn_in {o p : S2} {t : Int} (h : cn o p = true) (k1 : 2 * p.1 ≤ t) (k2 : t ≤ 2 * p.2) : 2 * o.1 ≤ t ∧ t ≤ 2 * o.2 := by
  unfold cn conS at h
  simp only [Bool.and_eq_true, decide_eq_true_eq] at h
  omega
theorem and3 (x y z : Nat) : ((x &&& y &&& z) != 0) = true ↔ ∃ j, x.testBit j = true ∧ y.testBit j = true ∧ z.testBit j = true := by
  rw [bne_iff_ne]
  constructor
  · intro h
    obtain ⟨j, hj⟩ := Nat.exists_testBit_of_ne_zero h
    rw [Nat.testBit_and, Nat.testBit_and] at hj
    simp only [Bool.and_eq_true] at hj
    exact ⟨j, hj.1.1, hj.1.2, hj.2⟩
  · rintro ⟨j, h1, h2, h3⟩ e
    have : (x &&& y &&& z).testBit j = true := by rw [Nat.testBit_and, Nat.testBit_and, h1, h2, h3]; rfl
    rw [e, Nat.zero_testBit] at this
    cases this
theorem hm_bit (l : List Bx) (i : Nat) (p : S2) (j : Nat) : (hmk (sds l i) p (sds l i).length).testBit j = true ↔ ∃ h : j < l.length, cn (l[j].side i) p = true := by
  rw [hmk_bit]
  have e : (sds l i).length = l.length := by simp [sds]
  rw [e]
  constructor
  · intro h
    simp only [Bool.and_eq_true, decide_eq_true_eq] at h
    refine ⟨h.1, ?_⟩
    have := h.2
    rwa [show (sds l i).getD j (0, 0) = l[j].side i by simp [sds, h.1]] at this
  · rintro ⟨h, k⟩
    simp only [Bool.and_eq_true, decide_eq_true_eq]
    refine ⟨h, ?_⟩
    rwa [show (sds l i).getD j (0, 0) = l[j].side i by simp [sds, h]]
theorem covB_iff (l : List Bx) (b : Bx) (hb : b.ok = true) : covB l b = true ↔ ∀ s t u, In3 b s t u → ∃ x ∈ l, In3 x s t u := by
  have hk := Bx.ok_i.1 hb
  have hcov : covB l b = true ↔ ∀ p ∈ cutS b.a b.d (sds l 0), ∀ q ∈ cutS b.b b.e (sds l 1), ∀ r ∈ cutS b.c b.f (sds l 2), ∃ x ∈ l, cn (x.side 0) p = true ∧ cn (x.side 1) q = true ∧ cn (x.side 2) r = true := by
    unfold covB cov3 hold
    simp only [List.all_map, List.all_eq_true, Function.comp, and3, hm_bit]
    constructor
    · intro h p hp q hq r hr
      obtain ⟨j, ⟨h1, k1⟩, ⟨h2, k2⟩, ⟨h3, k3⟩⟩ := h p hp q hq r hr
      exact ⟨l[j], List.getElem_mem h1, k1, k2, k3⟩
    · intro h p hp q hq r hr
      obtain ⟨x, hx, k1, k2, k3⟩ := h p hp q hq r hr
      obtain ⟨j, hj, rfl⟩ := List.mem_iff_getElem.1 hx
      exact ⟨j, ⟨hj, k1⟩, ⟨hj, k2⟩, ⟨hj, k3⟩⟩
  rw [hcov]
  constructor
  · intro h s t u hi
    obtain ⟨p, hp, p1, p2⟩ := cut_cover (sds l 0) hk.1.2.1 hi.1.1 hi.1.2
    obtain ⟨q, hq, q1, q2⟩ := cut_cover (sds l 1) hk.2.1.2.1 hi.2.1.1 hi.2.1.2
    obtain ⟨r, hr, r1, r2⟩ := cut_cover (sds l 2) hk.2.2.2.1 hi.2.2.1 hi.2.2.2
    obtain ⟨x, hx, k1, k2, k3⟩ := h p hp q hq r hr
    exact ⟨x, hx, cn_in k1 p1 p2, cn_in k2 q1 q2, cn_in k3 r1 r2⟩
  · intro h p hp q hq r hr
    obtain ⟨s, s1, s2, hs⟩ := cut_inner (sds l 0) hk.1.2.1 hp
    obtain ⟨t, t1, t2, ht⟩ := cut_inner (sds l 1) hk.2.1.2.1 hq
    obtain ⟨u, u1, u2, hu⟩ := cut_inner (sds l 2) hk.2.2.2.1 hr
    obtain ⟨x, hx, i1, i2, i3⟩ := h s t u ⟨⟨s1, s2⟩, ⟨t1, t2⟩, ⟨u1, u2⟩⟩
    exact ⟨x, hx, hs _ (List.mem_map.2 ⟨x, hx, rfl⟩) i1.1 i1.2, ht _ (List.mem_map.2 ⟨x, hx, rfl⟩) i2.1 i2.2, hu _ (List.mem_map.2 ⟨x, hx, rfl⟩) i3.1 i3.2⟩
def ptB (p q r : Int) : Bx := ⟨p, q, r, p, q, r⟩
def leftB (b : Bx) (p : Int) : Bx := ⟨b.a, b.b, b.c, p, b.e, b.f⟩
def rightB (b : Bx) (p : Int) : Bx := ⟨p, b.b, b.c, b.d, b.e, b.f⟩
theorem halves_ok {b : Bx} {p : Int} (hb : b.ok = true) (h : b.a ≤ p ∧ p ≤ b.d) : (leftB b p).ok = true ∧ (rightB b p).ok = true := by
  rw [Bx.ok_i] at *
  rw [Bx.ok_i]
  simp only [leftB, rightB]
  omega
theorem cov_halves (l : List Bx) {b : Bx} {p : Int} (hb : b.ok = true) (h : b.a ≤ p ∧ p ≤ b.d) : covB l b = (covB l (leftB b p) && covB l (rightB b p)) := by
  obtain ⟨h1, h2⟩ := halves_ok hb h
  rw [Bool.eq_iff_iff, Bool.and_eq_true, covB_iff l b hb, covB_iff l _ h1, covB_iff l _ h2]
  constructor
  · intro k
    refine ⟨fun s t u hi => k s t u ?_, fun s t u hi => k s t u ?_⟩
    · simp only [In3, leftB] at hi ⊢; omega
    · simp only [In3, rightB] at hi ⊢; omega
  · rintro ⟨k1, k2⟩ s t u hi
    by_cases c : s ≤ 2 * p
    · exact k1 s t u (by simp only [In3, leftB] at hi ⊢; omega)
    · exact k2 s t u (by simp only [In3, rightB] at hi ⊢; omega)
theorem cov_point (l : List Bx) {p q r : Int} (hp : (ptB p q r).ok = true) : covB l (ptB p q r) = l.any fun x => conB x (ptB p q r) := by
  rw [Bool.eq_iff_iff, covB_iff l _ hp, List.any_eq_true]
  constructor
  · intro h
    obtain ⟨x, hx, hi⟩ := h (2 * p) (2 * q) (2 * r) (by simp only [In3, ptB]; omega)
    exact ⟨x, hx, by rw [con_i]; simp only [In3, ptB] at hi ⊢; omega⟩
  · rintro ⟨x, hx, hc⟩ s t u hi
    rw [con_i] at hc
    exact ⟨x, hx, by simp only [In3, ptB] at hi hc ⊢; omega⟩
theorem cov_sub (l : List Bx) {b c : Bx} (hb : b.ok = true) (hc : c.ok = true) (h : conB b c = true) (k : covB l b = true) : covB l c = true := by
  rw [covB_iff l _ hc]
  rw [covB_iff l _ hb] at k
  rw [con_i] at h
  intro s t u hi
  exact k s t u (by simp only [In3] at hi ⊢; omega)
theorem cov_more (l m : List Bx) {b : Bx} (hb : b.ok = true) (h : ∀ x ∈ l, x ∈ m) (k : covB l b = true) : covB m b = true := by
  rw [covB_iff _ _ hb] at *
  intro s t u hi
  obtain ⟨x, hx, hi⟩ := k s t u hi
  exact ⟨x, h x hx, hi⟩
theorem cov_left (l : List Bx) {b : Bx} {p : Int} (hb : b.ok = true) (h : b.a ≤ p ∧ p ≤ b.d) (k : covB l (rightB b p) = true) : covB (l ++ [leftB b p]) b = true := by
  obtain ⟨h1, h2⟩ := halves_ok hb h
  rw [cov_halves _ hb h, Bool.and_eq_true]
  refine ⟨?_, cov_more l _ h2 (fun x hx => List.mem_append_left _ hx) k⟩
  rw [covB_iff _ _ h1]
  exact fun s t u hi => ⟨leftB b p, by simp, hi⟩
theorem cov_own {b : Bx} {p : Int} (hb : b.ok = true) (h : b.a ≤ p ∧ p ≤ b.d) : covB [b] (leftB b p) = true := by
  obtain ⟨h1, -⟩ := halves_ok hb h
  rw [covB_iff _ _ h1]
  exact fun s t u hi => ⟨b, by simp, by simp only [In3, leftB] at hi ⊢; omega⟩
end Go.Proofs.Ytffigpkkdljaiaa
