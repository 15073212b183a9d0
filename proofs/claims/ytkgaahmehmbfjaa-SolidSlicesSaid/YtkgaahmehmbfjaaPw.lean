/- The volume and the cross-sections are counted (pure). -/
import Derived.Test.YtkgaahmehmbfjaaPv
namespace Go.Proofs.Ytkgaahmehmbfjaa
open Go.ChangeShapes Go.WideShapes Go.ChangeAt Go.RowKit
set_option linter.unusedVariables false
set_option linter.unusedSimpArgs false

def kI (s t u : Sx) : Int := if keepX s t u = true then 1 else 0
theorem volL_nil : volL [] = 0 := rfl
theorem volZ (s t : Sx) (Z : List Sx) : volL (rowZ s t Z) = (s.hi - s.lo) * ((t.hi - t.lo) * (Z.map fun u => (u.hi - u.lo) * kI s t u).sum) := by
  unfold volL rowZ
  rw [sum_flatMap, ← sum_mul, ← sum_mul]
  refine sum_congr fun u hu => ?_
  unfold kI
  cases keepX s t u
  · simp
  · simp [bxX, volB, Int.mul_assoc]
theorem volY (s : Sx) (Y Z : List Sx) : volL (rowY s Y Z) = (s.hi - s.lo) * (Y.map fun t => (t.hi - t.lo) * (Z.map fun u => (u.hi - u.lo) * kI s t u).sum).sum := by
  have e : volL (rowY s Y Z) = (Y.map fun t => volL (rowZ s t Z)).sum := by unfold volL rowY; rw [sum_flatMap]
  rw [e, ← sum_mul]
  exact sum_congr fun t ht => volZ s t Z
theorem volX (X Y Z : List Sx) : volL (prtL X Y Z) = (X.map fun s => (s.hi - s.lo) * (Y.map fun t => (t.hi - t.lo) * (Z.map fun u => (u.hi - u.lo) * kI s t u).sum).sum).sum := by
  have e : volL (prtL X Y Z) = (X.map fun s => volL (rowY s Y Z)).sum := by unfold volL prtL; rw [sum_flatMap]
  rw [e]
  exact sum_congr fun s hs => volY s Y Z
theorem ite_sum {α : Type} (c : Prop) [Decidable c] (f : α → Int) (l : List α) : (l.map fun x => if c then f x else 0).sum = if c then (l.map f).sum else 0 := by
  by_cases h : c
  · simp only [if_pos h]
  · simp only [if_neg h]
    induction l with
    | nil => rfl
    | cons x l ih => rw [List.map_cons, List.sum_cons, ih]; rfl
theorem secX (X Y Z : List Sx) (x : Int) : secL (prtL X Y Z) x = (X.map fun s => if s.lo ≤ x ∧ x < s.hi then (Y.map fun t => (t.hi - t.lo) * (Z.map fun u => (u.hi - u.lo) * kI s t u).sum).sum else 0).sum := by
  have e : secL (prtL X Y Z) x = (X.map fun s => secL (rowY s Y Z) x).sum := by unfold secL prtL; rw [sum_flatMap]
  rw [e]
  refine sum_congr fun s hs => ?_
  have e : secL (rowY s Y Z) x = (Y.map fun t => secL (rowZ s t Z) x).sum := by unfold secL rowY; rw [sum_flatMap]
  rw [e, ← ite_sum]
  refine sum_congr fun t ht => ?_
  have e : secL (rowZ s t Z) x = (Z.map fun u => secL (if keepX s t u then [bxX s t u] else []) x).sum := by unfold secL rowZ; rw [sum_flatMap]
  rw [e, ← sum_mul, ← ite_sum]
  refine sum_congr fun u hu => ?_
  unfold kI secL
  cases keepX s t u
  · simp
  · simp [bxX, secB]
theorem cel_zero {l h : List Bx} {x y z : Int} (hz : (∀ b ∈ l, ¬ ((b.side 0).1 ≤ x ∧ x < (b.side 0).2)) ∨ (∀ b ∈ l, ¬ ((b.side 1).1 ≤ y ∧ y < (b.side 1).2)) ∨ (∀ b ∈ l, ¬ ((b.side 2).1 ≤ z ∧ z < (b.side 2).2))) : celI l h x y z = 0 := by
  unfold celI celB
  rw [if_neg]
  rw [Bool.and_eq_true, not_and]
  intro ha
  exfalso
  obtain ⟨b, hb, hi⟩ := List.any_eq_true.1 ha
  simp only [ibB, Bool.and_eq_true, decide_eq_true_eq] at hi
  rcases hz with hz | hz | hz
  · exact hz b hb hi.1.1
  · exact hz b hb hi.1.2
  · exact hz b hb hi.2
section
variable {l h : List Bx} {A B : Int} (hl : 1 ≤ l.length) (hA : ∀ ax, ∀ z ∈ places l h ax, A ≤ z ∧ z ≤ B)
include hl hA
theorem sumZ {s t : Sx} (hs : s ∈ strs l h 0) (ht : t ∈ strs l h 1) {x y : Int} (hx : s.lo ≤ x ∧ x < s.hi) (hy : t.lo ≤ y ∧ y < t.hi) : ((strs l h 2).map fun u => (u.hi - u.lo) * kI s t u).sum = tot A B fun z => celI l h x y z := by
  refine tot_strs 2 hl (fun z => celI l h x y z) (fun u => kI s t u) (hA 2) (fun u hu z h1 h2 => ?_) (fun z hz => cel_zero (.inr (.inr hz)))
  unfold celI kI
  rw [keep_cel hs ht hu hx hy ⟨h1, h2⟩]
theorem sumY {s : Sx} (hs : s ∈ strs l h 0) {x : Int} (hx : s.lo ≤ x ∧ x < s.hi) : ((strs l h 1).map fun t => (t.hi - t.lo) * ((strs l h 2).map fun u => (u.hi - u.lo) * kI s t u).sum).sum = secF l h A B x := by
  refine tot_strs 1 hl (fun y => tot A B fun z => celI l h x y z) (fun t => ((strs l h 2).map fun u => (u.hi - u.lo) * kI s t u).sum) (hA 1) (fun t ht y h1 h2 => ?_) (fun y hy => tot_none fun z _ _ => cel_zero (.inr (.inl hy)))
  exact (sumZ hl hA hs ht hx ⟨h1, h2⟩).symm
/-- The volume is counted. -/
theorem vol_sum : volL (parts l h) = volF l h A B := by
  unfold parts
  rw [volX]
  refine tot_strs 0 hl (fun x => secF l h A B x) (fun s => ((strs l h 1).map fun t => (t.hi - t.lo) * ((strs l h 2).map fun u => (u.hi - u.lo) * kI s t u).sum).sum) (hA 0) (fun s hs x h1 h2 => ?_) (fun x hx => tot_none fun y _ _ => tot_none fun z _ _ => cel_zero (.inl hx))
  exact (sumY hl hA hs ⟨h1, h2⟩).symm
omit hl hA in
theorem one_prs (x v : Int) : ∀ (m : List Int) (a : Int), Asc (a :: m) → a ≤ (a :: m).getLast (by simp) ∧ ((prs (a :: m)).map fun p => if p.1 ≤ x ∧ x < p.2 then v else 0).sum = if a ≤ x ∧ x < (a :: m).getLast (by simp) then v else 0
  | [], a, _ => ⟨Int.le_refl _, by rw [if_neg (by simp only [List.getLast_singleton]; omega)]; simp [prs]⟩
  | b :: m, a, ha => by
    rw [Asc, List.pairwise_cons] at ha
    have hab := ha.1 b (by simp)
    obtain ⟨h1, h2⟩ := one_prs x v m b ha.2
    have e : (a :: b :: m).getLast (by simp) = (b :: m).getLast (by simp) := List.getLast_cons (by simp)
    rw [e, prs_cons, List.map_cons, List.sum_cons, h2]
    refine ⟨by omega, ?_⟩
    generalize (b :: m).getLast (by simp) = z at *
    dsimp only
    by_cases c1 : a ≤ x ∧ x < b
    · rw [if_pos c1, if_neg (by omega), if_pos (by omega)]; omega
    · by_cases c2 : b ≤ x ∧ x < z
      · rw [if_neg c1, if_pos c2, if_pos (by omega)]; omega
      · rw [if_neg c1, if_neg c2, if_neg (by omega)]; omega
/-- A cross-section is counted. -/
theorem sec_sum (x : Int) : secL (parts l h) x = secF l h A B x := by
  unfold parts
  rw [secX]
  have hp := places_pos l h 0 hl
  have ha := (srt_asc (pls l 0 ++ pls h 0)).1
  have e : ((strs l h 0).map fun s => if s.lo ≤ x ∧ x < s.hi then ((strs l h 1).map fun t => (t.hi - t.lo) * ((strs l h 2).map fun u => (u.hi - u.lo) * kI s t u).sum).sum else 0).sum = ((prs (places l h 0)).map fun p => if p.1 ≤ x ∧ x < p.2 then secF l h A B x else 0).sum := by
    have e2 : ((prs (places l h 0)).map fun p => if p.1 ≤ x ∧ x < p.2 then secF l h A B x else 0) = (strs l h 0).map fun s => if s.lo ≤ x ∧ x < s.hi then secF l h A B x else 0 := by
      rw [show strs l h 0 = (prs (places l h 0)).map (sxOf l h 0) from rfl, List.map_map]; rfl
    rw [e2]
    refine sum_congr fun s hs => ?_
    by_cases hx : s.lo ≤ x ∧ x < s.hi
    · rw [if_pos hx, if_pos hx]; exact sumY hl hA hs hx
    · rw [if_neg hx, if_neg hx]
  rw [e]
  have hmem := fun (b : Bx) (hb : b ∈ l) => mem_places (h := h) (.inl hb) 0
  change Asc (places l h 0) at ha
  generalize places l h 0 = L at hp ha hmem ⊢
  match L, hp with
  | a :: L, _ =>
    obtain ⟨k1, k2⟩ := one_prs x (secF l h A B x) L a ha
    rw [k2]
    split
    · rfl
    · rename_i hno
      symm
      refine tot_none fun y _ _ => tot_none fun z _ _ => cel_zero (.inl fun b hb hi => hno ?_)
      have hmin : ∀ z ∈ a :: L, a ≤ z := fun z hz => by
        rcases List.mem_cons.1 hz with rfl | hz
        · exact Int.le_refl _
        · exact Int.le_of_lt ((List.pairwise_cons.1 ha).1 z hz)
      have hmax : ∀ z ∈ a :: L, z ≤ (a :: L).getLast (by simp) := fun z hz => by
        have := List.pairwise_iff_getElem.1 ha
        obtain ⟨j, hj, rfl⟩ := List.mem_iff_getElem.1 hz
        rw [List.getLast_eq_getElem]
        rcases Nat.lt_or_ge j ((a :: L).length - 1) with q | q
        · exact Int.le_of_lt (this j _ hj (by simp) q)
        · have : j = (a :: L).length - 1 := by omega
          subst this
          exact Int.le_refl _
      have m1 := hmin _ (hmem b hb).1
      have m2 := hmax _ (hmem b hb).2
      omega
end
end Go.Proofs.Ytkgaahmehmbfjaa
