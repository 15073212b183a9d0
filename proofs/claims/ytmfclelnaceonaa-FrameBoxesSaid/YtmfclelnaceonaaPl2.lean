/- The plan of a drawn region with two operations at its end that may come up in either order (as 'Clone' and the row of 'append(clone, x)'): both orders are gone through. -/
import Derived.Test.YtmfclelnaceonaaPl
namespace Go.Proofs.Ytmfclelnaceonaa
set_option linter.unusedVariables false
set_option linter.unusedSimpArgs false

section
variable {P : Program} {ops : Array Oper} {Q : Exit → Act → World → Prop} {md : Region.Mode} {S : World → Prop} {n : Nat}

/-- What is to be shown of a plan that ends in E. -/
def wpPlanE (P : Program) (ops : Array Oper) (Q : Exit → Act → World → Prop) (S : World → Prop) (E : Act → World → Prop) : List (Oper × Bool) → Act → World → Prop
  | [], a, w => E a w
  | (o, true) :: p, a, w => ∃ v, YieldsIf P ops S o v a ∧ wpPlanE P ops Q S E p (a.put o.dst v) w
  | (o, false) :: p, a, w => if Region.wanted o (yielded ops a.tmps) = true then Oper.wp P o a w (fun a' w' => S w' ∧ wpPlanE P ops Q S E p a' w') Q else S w ∧ wpPlanE P ops Q S E p (a.put o.dst undef) w

def planE (md : Region.Mode) (ops : Array Oper) (n : Nat) (B : Array Bool → Bool) : List (Nat × Bool) → Array Bool → Bool
  | [], listed => B listed
  | (i, true) :: p, listed => decide (i < n) && (Region.ready md ops listed).contains i && Region.free md ops listed i && planE md ops n B p (listed.setIfInBounds i true)
  | (i, false) :: p, listed => decide (i < n) && decide (Region.ready md ops listed = [i]) && planE md ops n B p (listed.setIfInBounds i true)

theorem wpAnyT_of_planE {l : List Oper} (B : Array Bool → Bool) (E : Act → World → Prop) (fe : Nat) (hsel : Region.noSelect l.toArray = true) (hQ : ∀ c (a : Act) d v w, Q (.panic c) (a.put d v) w → Q (.panic c) a w)
    (hs : Region.sinkB md l.toArray n = true) (hc : Region.chainB md l.toArray n = true) (hn : n < l.length)
    (hE : ∀ (listed : Array Bool) (a : Act) (w : World), HeadInv md l.toArray n listed → B listed = true → S w → E a w → wpAnyT P md l.toArray Q S n fe listed a w) :
    ∀ (p : List (Nat × Bool)) (listed : Array Bool) (a : Act) (w : World), HeadInv md l.toArray n listed → planE md l.toArray n B p listed = true → S w →
      wpPlanE P l.toArray Q S E (p.filterMap fun x => (l[x.1]?).map fun o => (o, x.2)) a w → wpAnyT P md l.toArray Q S n (p.length + fe) listed a w
  | [], listed, a, w, inv, hB, hS, h => by
    simpa using hE listed a w inv hB hS h
  | (i, true) :: p, listed, a, w, inv, hB, hS, h => by
    simp only [planE, Bool.and_eq_true, decide_eq_true_eq] at hB
    obtain ⟨⟨⟨hin, hr⟩, hf⟩, hB'⟩ := hB
    have hr' : i ∈ Region.ready md l.toArray listed := by simpa using hr
    have hil : i < l.length := by omega
    have h0 : l[i]? = some l[i] := List.getElem?_eq_getElem hil
    have h0' : l.toArray[i]? = some l[i] := by simp [h0]
    simp only [List.filterMap_cons, h0, Option.map_some, wpPlanE] at h
    obtain ⟨v, hy, hK⟩ := h
    rw [show (((i, true) :: p).length + fe) = (p.length + fe) + 1 by simp; omega]
    exact wpAnyT_first h0' (Region.noSelect_spec hsel) (fun c a w hq => hQ c a _ v w hq) hs hc (by simpa using hn) hin _ listed a w inv (Region.free_spec h0' hf) hr' hy hS
      (wpAnyT_of_planE B E fe hsel hQ hs hc hn hE p _ _ w (inv.set hr' hin) hB' hS hK)
  | (i, false) :: p, listed, a, w, inv, hB, hS, h => by
    simp only [planE, Bool.and_eq_true, decide_eq_true_eq] at hB
    obtain ⟨⟨hin, hr⟩, hB'⟩ := hB
    have hr' : i ∈ Region.ready md l.toArray listed := by rw [hr]; simp
    have hil : i < l.length := by omega
    have h0 : l[i]? = some l[i] := List.getElem?_eq_getElem hil
    have h0' : l.toArray[i]? = some l[i] := by simp [h0]
    simp only [List.filterMap_cons, h0, Option.map_some, wpPlanE] at h
    rw [show (((i, false) :: p).length + fe) = (p.length + fe) + 1 by simp; omega]
    refine ⟨fun h1 => (by rw [hr] at h1; cases h1), fun j hj => ?_⟩
    rw [hr] at hj
    have hji : j = i := by simpa using hj
    subst hji
    have hw : wpOp P l.toArray Q j (fun a' w' => S w' ∧ wpPlanE P l.toArray Q S E (p.filterMap fun x => (l[x.1]?).map fun o => (o, x.2)) a' w') a w := by
      unfold wpOp
      simp only [h0']
      split at h
      · rename_i hwt; simp only [hwt, if_true]; exact .inl h
      · rename_i hwt; simp only [hwt]; exact h
    exact wpOp_mono (fun a' w' h' => ⟨fun _ => h'.1, wpAnyT_of_planE B E fe hsel hQ hs hc hn hE p _ a' w' (inv.set hr' hin) hB' h'.1 h'.2⟩) hw

/-- Two operations in either order, then the rest. -/
def wpPair (P : Program) (ops : Array Oper) (Q : Exit → Act → World → Prop) (S : World → Prop) (R : List Oper) (oi oj : Oper) (a : Act) (w : World) : Prop :=
  Oper.wp P oi a w (fun a w => S w ∧ Oper.wp P oj a w (fun a w => S w ∧ wpList P ops Q R a w) Q) Q ∧
  Oper.wp P oj a w (fun a w => S w ∧ Oper.wp P oi a w (fun a w => S w ∧ wpList P ops Q R a w) Q) Q
def pairB (md : Region.Mode) (ops : Array Oper) (n i j : Nat) (listed : Array Bool) : Bool :=
  decide (i < n) && decide (j < n) && decide (Region.ready md ops listed = [i, j]) && decide (Region.ready md ops (listed.setIfInBounds i true) = [j]) && decide (Region.ready md ops (listed.setIfInBounds j true) = [i]) &&
  Region.seqB md ops (ops.size - n) n ((listed.setIfInBounds i true).setIfInBounds j true) && Region.seqB md ops (ops.size - n) n ((listed.setIfInBounds j true).setIfInBounds i true)

theorem wpOp_bare {i : Nat} {oi : Oper} {K : Act → World → Prop} {a : Act} {w : World} (hi : ops[i]? = some oi) (hg : oi.guard = none) (h : Oper.wp P oi a w K Q) : wpOp P ops Q i K a w := by
  have hwt : Region.wanted oi (yielded ops a.tmps) = true := by unfold Region.wanted; rw [hg]
  unfold wpOp
  simp only [hi, hwt, if_true]
  exact .inl h

theorem wpAnyT_pair {l : List Oper} {i j : Nat} {oi oj : Oper} (hi : l[i]? = some oi) (hj : l[j]? = some oj) (gi : oi.guard = none) (gj : oj.guard = none) (listed : Array Bool) (a : Act) (w : World)
    (hB : pairB md l.toArray n i j listed = true) (h : wpPair P l.toArray Q S (l.drop n) oi oj a w) : wpAnyT P md l.toArray Q S n ((l.drop n).length + 2) listed a w := by
  simp only [pairB, Bool.and_eq_true, decide_eq_true_eq] at hB
  obtain ⟨⟨⟨⟨⟨⟨hin, hjn⟩, hr⟩, hr1⟩, hr2⟩, hq1⟩, hq2⟩ := hB
  have hi' : l.toArray[i]? = some oi := by simpa using hi
  have hj' : l.toArray[j]? = some oj := by simpa using hj
  have hd : (l.drop n).length = l.toArray.size - n := by simp
  refine ⟨fun h1 => (by rw [hr] at h1; cases h1), fun k hk => ?_⟩
  rw [hr] at hk
  have hk : k = i ∨ k = j := by simpa using hk
  rcases hk with rfl | rfl
  · refine wpOp_mono (fun a1 w1 h1 => ⟨fun _ => h1.1, ?_⟩) (wpOp_bare hi' gi h.1)
    refine ⟨fun h2 => (by rw [hr1] at h2; cases h2), fun k2 hk2 => ?_⟩
    rw [hr1] at hk2
    have : k2 = j := by simpa using hk2
    subst this
    refine wpOp_mono (fun a2 w2 h2 => ⟨fun _ => h2.1, ?_⟩) (wpOp_bare hj' gj h1.2)
    exact wpAnyT_of_seq (l.drop n) n _ a2 w2 (Nat.le_refl _) (fun j => by simp [List.getElem?_drop]) (by rw [hd]; exact hq1) h2.2
  · refine wpOp_mono (fun a1 w1 h1 => ⟨fun _ => h1.1, ?_⟩) (wpOp_bare hj' gj h.2)
    refine ⟨fun h2 => (by rw [hr2] at h2; cases h2), fun k2 hk2 => ?_⟩
    rw [hr2] at hk2
    have : k2 = i := by simpa using hk2
    subst this
    refine wpOp_mono (fun a2 w2 h2 => ⟨fun _ => h2.1, ?_⟩) (wpOp_bare hi' gi h1.2)
    exact wpAnyT_of_seq (l.drop n) n _ a2 w2 (Nat.le_refl _) (fun j => by simp [List.getElem?_drop]) (by rw [hd]; exact hq2) h2.2

/-- A drawn region by a plan that ends in a pair. -/
theorem wp_region_pair {id : Nat} {a : Act} {w : World} {l : List Oper} (n i j : Nat) (p : List (Nat × Bool)) (S : World → Prop) (oi oj : Oper) (hi : l[i]? = some oi) (hj : l[j]? = some oj) (gi : oi.guard = none) (gj : oj.guard = none) (hm : P.follows .mixedOrders = true)
    (hB : (Region.noSelect l.toArray && Region.sinkB .any l.toArray n && Region.chainB .any l.toArray n && decide (n < l.length) && decide (p.length + 2 = n) && planE .any l.toArray n (pairB .any l.toArray n i j) p (Array.replicate l.toArray.size false)) = true)
    (hQ : ∀ c (a : Act) d v w, Q (.panic c) (a.put d v) w → Q (.panic c) a w) (hS : S w.drew)
    (h : wpPlanE P l.toArray Q S (wpPair P l.toArray Q S (l.drop n) oi oj) (p.filterMap fun x => (l[x.1]?).map fun o => (o, x.2)) a w.drew) : (Code.region id l.toArray true).wp P Q a w := by
  simp only [Bool.and_eq_true, decide_eq_true_eq] at hB
  obtain ⟨⟨⟨⟨⟨hsel, hs⟩, hc⟩, hn⟩, hp⟩, hpl⟩ := hB
  have inv0 : HeadInv .any l.toArray n (Array.replicate l.toArray.size false) :=
    ⟨by simp, fun j oj _ hl => (by rw [getD_replicate_false] at hl; cases hl), fun t _ ht => getD_in (by simpa using ht) (getD_replicate_false _ _)⟩
  have H := wpAnyT_of_planE (md := .any) (pairB .any l.toArray n i j) (wpPair P l.toArray Q S (l.drop n) oi oj) ((l.drop n).length + 2) hsel hQ hs hc hn
    (fun listed a w _ hb _ he => wpAnyT_pair hi hj gi gj listed a w hb he) p _ a w.drew inv0 hpl hS h
  have hlen : p.length + ((l.drop n).length + 2) = l.toArray.size := by simp; omega
  rw [hlen] at H
  exact wp_region_any hm (wpAny_of_T _ _ _ _ H)

variable {E : Act → World → Prop} {o : Oper} {p : List (Oper × Bool)} {a : Act} {w : World}
theorem wpPlanE_still {v : Value} (hy : YieldsIf P ops S o v a) (h : wpPlanE P ops Q S E p (a.put o.dst v) w) : wpPlanE P ops Q S E ((o, true) :: p) a w := ⟨v, hy, h⟩
theorem wpPlanE_end (h : E a w) : wpPlanE P ops Q S E [] a w := h
/-- Both orders, each behind letters that do not show what comes. -/
theorem wpPair_both {R : List Oper} {oi oj : Oper}
    (h1 : ∀ K : Act → World → Prop, Shut (∀ a w, S w → (∀ K2 : Act → World → Prop, Shut (∀ a w, S w → wpList P ops Q R a w → K2 a w) → Oper.wp P oj a w K2 Q) → K a w) → Oper.wp P oi a w K Q)
    (h2 : ∀ K : Act → World → Prop, Shut (∀ a w, S w → (∀ K2 : Act → World → Prop, Shut (∀ a w, S w → wpList P ops Q R a w → K2 a w) → Oper.wp P oi a w K2 Q) → K a w) → Oper.wp P oj a w K Q) :
    wpPair P ops Q S R oi oj a w :=
  ⟨h1 _ (fun a w hS h => ⟨hS, h _ (fun a w hS h => ⟨hS, h⟩)⟩), h2 _ (fun a w hS h => ⟨hS, h _ (fun a w hS h => ⟨hS, h⟩)⟩)⟩
end
end Go.Proofs.Ytmfclelnaceonaa
