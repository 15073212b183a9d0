/- A region whose order is drawn, gone through in one order: by a plan that says which operation is taken next, either because it yields its value in every world that meets S, or because no other one may come up; the last ones, from n on, wait for all others and come in their order: behind them S need not hold. -/
import Derived.Test.YthdafpbmmfelpaaGreatDoorM2
import Derived.StillTail
import Derived.OrdersHeld
import Derived.Deep.RegionHeld
namespace Go.Proofs.YthdafpbmmfelpaaGreatDoor
set_option linter.unusedVariables false
set_option linter.unusedSimpArgs false

section
variable {P : Program} {ops : Array Oper} {Q : Exit → Act → World → Prop} {md : Region.Mode} {S : World → Prop} {n : Nat}

def wpAnyT (P : Program) (md : Region.Mode) (ops : Array Oper) (Q : Exit → Act → World → Prop) (S : World → Prop) (n : Nat) : Nat → Array Bool → Act → World → Prop
  | 0, listed, a, w => Region.ready md ops listed = [] ∧ Q .normal a w
  | fuel + 1, listed, a, w =>
    (Region.ready md ops listed = [] → Q .normal a w) ∧
    ∀ i ∈ Region.ready md ops listed, wpOp P ops Q i (fun a' w' => (i < n → S w') ∧ wpAnyT P md ops Q S n fuel (listed.setIfInBounds i true) a' w') a w

theorem wpAny_of_T : ∀ (fuel : Nat) (listed : Array Bool) (a : Act) (w : World), wpAnyT P md ops Q S n fuel listed a w → wpAny P md ops Q fuel listed a w
  | 0, _, _, _, h => h
  | fuel + 1, _, _, _, h => ⟨h.1, fun i hi => wpOp_mono (fun a' w' h' => wpAny_of_T fuel _ a' w' h'.2) (h.2 i hi)⟩

theorem wpAnyT_of_seq : ∀ (l : List Oper) (k : Nat) (listed : Array Bool) (a : Act) (w : World), n ≤ k → (∀ j, l[j]? = ops[k + j]?) →
    Region.seqB md ops l.length k listed = true → wpList P ops Q l a w → wpAnyT P md ops Q S n l.length listed a w
  | [], _, _, _, _, _, _, hB, h => ⟨by simpa [Region.seqB] using hB, h⟩
  | o :: l, k, listed, a, w, hk, hl, hB, h => by
    have h0 : ops[k]? = some o := by simpa using (hl 0).symm
    simp only [List.length_cons, Region.seqB, Bool.and_eq_true, decide_eq_true_eq] at hB
    refine ⟨fun h1 => (by rw [hB.1] at h1; cases h1), fun i hi => ?_⟩
    rw [hB.1] at hi
    have hik : i = k := by simpa using hi
    subst hik
    have hw : wpOp P ops Q i (wpList P ops Q l) a w := by unfold wpOp; simp only [h0]; exact h
    exact wpOp_mono (fun a' w' h' => ⟨fun hin => absurd hin (by omega), wpAnyT_of_seq l (i + 1) _ a' w' (by omega) (fun j => by have := hl (j + 1); simpa [Nat.add_assoc, Nat.add_comm 1 j] using this) hB.2 h'⟩) hw

theorem wpAnyT_first {i : Nat} {oi : Oper} {v : Value} (hi : ops[i]? = some oi) (hsel : ∀ (j : Nat) (o : Oper) cs b, ops[j]? = some o → o.op ≠ .select cs b)
    (hQ : ∀ c a w, Q (.panic c) (a.put oi.dst v) w → Q (.panic c) a w)
    (hs : Region.sinkB md ops n = true) (hc : Region.chainB md ops n = true) (hn : n < ops.size) (hin : i < n) :
    ∀ (fuel : Nat) (listed : Array Bool) (a : Act) (w : World), HeadInv md ops n listed →
      (∀ j oj, ops[j]? = some oj → j ≠ i → listed.getD j true = false → (∀ e ∈ oj.after, Region.binds md e = true → e.on ≠ i) → oi.apart ops oj = true) →
      i ∈ Region.ready md ops listed → YieldsIf P ops S oi v a → S w →
      wpAnyT P md ops Q S n fuel (listed.setIfInBounds i true) (a.put oi.dst v) w → wpAnyT P md ops Q S n (fuel + 1) listed a w := by
  intro fuel
  induction fuel with
  | zero =>
    intro listed a w inv _ hr hy hS H
    refine ⟨fun h => (by rw [h] at hr; cases hr), fun j hj => ?_⟩
    by_cases hji : j = i
    · subst hji; exact hy.wpOp hi hS ⟨fun _ => hS, H⟩
    · have := ready_mono hj hji
      rw [H.1] at this
      cases this
  | succ fuel ih =>
    intro listed a w inv hfree hr hy hS H
    have hun := (mem_ready.1 hr).1
    refine ⟨fun h => (by rw [h] at hr; cases hr), fun j hj => ?_⟩
    have hjn : j < n := by
      rcases Nat.lt_or_ge j n with h | h
      · exact h
      · exact absurd hj (tail_waits hs hc hn inv _ i rfl hin hun j h)
    by_cases hji : j = i
    · subst hji; exact hy.wpOp hi hS ⟨fun _ => hS, H⟩
    · have h1 := H.2 j (ready_mono hj hji)
      obtain ⟨hjun, oj, hoj, hall⟩ := mem_ready.1 hj
      have hnot : ∀ e ∈ oj.after, Region.binds md e = true → e.on ≠ i := fun e he hb heq => by
        have h1 := hall e he hb
        rw [heq, getD_both hun] at h1
        cases h1
      have h2 := wpOp_putIf hoj (hfree j oj hoj hji hjun hnot) (fun cs b => hsel i oi cs b hi) (fun cs b => hsel j oj cs b hoj) hQ hy h1
      have hfree' : ∀ k ok, ops[k]? = some ok → k ≠ i → (listed.setIfInBounds j true).getD k true = false →
          (∀ e ∈ ok.after, Region.binds md e = true → e.on ≠ i) → oi.apart ops ok = true := fun k ok hk hki hun hno => by
        refine hfree k ok hk hki ?_ hno
        by_cases hjk : j = k
        · subst hjk; exact hjun
        · rw [getD_set_ne true hjk] at hun; exact hun
      refine wpOp_mono (fun a' w' h3 => ⟨fun _ => h3.2.1 hjn, ih (listed.setIfInBounds j true) a' w' (inv.set hj hjn) hfree' (ready_mono hr (Ne.symm hji)) h3.1 (h3.2.1 hjn) ?_⟩) h2
      rw [Array.setIfInBounds_comm _ _ hji]
      exact h3.2.2

/-- What is to be shown of a plan: R is what comes at the end. -/
def wpPlan (P : Program) (ops : Array Oper) (Q : Exit → Act → World → Prop) (S : World → Prop) (R : List Oper) : List (Oper × Bool) → Act → World → Prop
  | [], a, w => wpList P ops Q R a w
  | (o, true) :: p, a, w => ∃ v, YieldsIf P ops S o v a ∧ wpPlan P ops Q S R p (a.put o.dst v) w
  | (o, false) :: p, a, w => if Region.wanted o (yielded ops a.tmps) = true then Oper.wp P o a w (fun a' w' => S w' ∧ wpPlan P ops Q S R p a' w') Q else S w ∧ wpPlan P ops Q S R p (a.put o.dst undef) w

def planB (md : Region.Mode) (ops : Array Oper) (n : Nat) : List (Nat × Bool) → Array Bool → Bool
  | [], listed => Region.seqB md ops (ops.size - n) n listed
  | (i, true) :: p, listed => decide (i < n) && (Region.ready md ops listed).contains i && Region.free md ops listed i && planB md ops n p (listed.setIfInBounds i true)
  | (i, false) :: p, listed => decide (i < n) && decide (Region.ready md ops listed = [i]) && planB md ops n p (listed.setIfInBounds i true)

theorem wpAnyT_of_plan {l : List Oper} (hsel : Region.noSelect l.toArray = true) (hQ : ∀ c (a : Act) d v w, Q (.panic c) (a.put d v) w → Q (.panic c) a w)
    (hs : Region.sinkB md l.toArray n = true) (hc : Region.chainB md l.toArray n = true) (hn : n < l.length) :
    ∀ (p : List (Nat × Bool)) (listed : Array Bool) (a : Act) (w : World), HeadInv md l.toArray n listed → planB md l.toArray n p listed = true → S w →
      wpPlan P l.toArray Q S (l.drop n) (p.filterMap fun x => (l[x.1]?).map fun o => (o, x.2)) a w → wpAnyT P md l.toArray Q S n (p.length + (l.drop n).length) listed a w
  | [], listed, a, w, inv, hB, hS, h => by
    have hd : (l.drop n).length = l.toArray.size - n := by simp
    have := wpAnyT_of_seq (P := P) (Q := Q) (S := S) (n := n) (md := md) (ops := l.toArray) (l.drop n) n listed a w (Nat.le_refl _) (fun j => by simp [List.getElem?_drop]) (by rw [hd]; exact hB) h
    simpa using this
  | (i, true) :: p, listed, a, w, inv, hB, hS, h => by
    simp only [planB, Bool.and_eq_true, decide_eq_true_eq] at hB
    obtain ⟨⟨⟨hin, hr⟩, hf⟩, hB'⟩ := hB
    have hr' : i ∈ Region.ready md l.toArray listed := by simpa using hr
    have hil : i < l.length := by omega
    have h0 : l[i]? = some l[i] := List.getElem?_eq_getElem hil
    have h0' : l.toArray[i]? = some l[i] := by simp [h0]
    simp only [List.filterMap_cons, h0, Option.map_some, wpPlan] at h
    obtain ⟨v, hy, hK⟩ := h
    rw [show (((i, true) :: p).length + (l.drop n).length) = (p.length + (l.drop n).length) + 1 by simp; omega]
    exact wpAnyT_first h0' (Region.noSelect_spec hsel) (fun c a w hq => hQ c a _ v w hq) hs hc (by simpa using hn) hin _ listed a w inv (Region.free_spec h0' hf) hr' hy hS
      (wpAnyT_of_plan hsel hQ hs hc hn p _ _ w (inv.set hr' hin) hB' hS hK)
  | (i, false) :: p, listed, a, w, inv, hB, hS, h => by
    simp only [planB, Bool.and_eq_true, decide_eq_true_eq] at hB
    obtain ⟨⟨hin, hr⟩, hB'⟩ := hB
    have hr' : i ∈ Region.ready md l.toArray listed := by rw [hr]; simp
    have hil : i < l.length := by omega
    have h0 : l[i]? = some l[i] := List.getElem?_eq_getElem hil
    have h0' : l.toArray[i]? = some l[i] := by simp [h0]
    simp only [List.filterMap_cons, h0, Option.map_some, wpPlan] at h
    rw [show (((i, false) :: p).length + (l.drop n).length) = (p.length + (l.drop n).length) + 1 by simp; omega]
    refine ⟨fun h1 => (by rw [hr] at h1; cases h1), fun j hj => ?_⟩
    rw [hr] at hj
    have hji : j = i := by simpa using hj
    subst hji
    have hw : wpOp P l.toArray Q j (fun a' w' => S w' ∧ wpPlan P l.toArray Q S (l.drop n) (p.filterMap fun x => (l[x.1]?).map fun o => (o, x.2)) a' w') a w := by
      unfold wpOp
      simp only [h0']
      split at h
      · rename_i hwt; simp only [hwt, if_true]; exact .inl h
      · rename_i hwt; simp only [hwt]; exact h
    exact wpOp_mono (fun a' w' h' => ⟨fun _ => h'.1, wpAnyT_of_plan hsel hQ hs hc hn p _ a' w' (inv.set hr' hin) hB' h'.1 h'.2⟩) hw

/-- The beginning. -/
theorem wp_region_plan {id : Nat} {a : Act} {w : World} {l : List Oper} (n : Nat) (p : List (Nat × Bool)) (S : World → Prop) (hm : P.follows .mixedOrders = true)
    (hB : (Region.noSelect l.toArray && Region.sinkB .any l.toArray n && Region.chainB .any l.toArray n && decide (n < l.length) && decide (p.length = n) && planB .any l.toArray n p (Array.replicate l.toArray.size false)) = true)
    (hQ : ∀ c (a : Act) d v w, Q (.panic c) (a.put d v) w → Q (.panic c) a w) (hS : S w.drew)
    (h : wpPlan P l.toArray Q S (l.drop n) (p.filterMap fun x => (l[x.1]?).map fun o => (o, x.2)) a w.drew) : (Code.region id l.toArray true).wp P Q a w := by
  simp only [Bool.and_eq_true, decide_eq_true_eq] at hB
  obtain ⟨⟨⟨⟨⟨hsel, hs⟩, hc⟩, hn⟩, hp⟩, hpl⟩ := hB
  have inv0 : HeadInv .any l.toArray n (Array.replicate l.toArray.size false) :=
    ⟨by simp, fun j oj _ hl => (by rw [getD_replicate_false] at hl; cases hl), fun t _ ht => getD_in (by simpa using ht) (getD_replicate_false _ _)⟩
  have H := wpAnyT_of_plan (md := .any) hsel hQ hs hc hn p _ a w.drew inv0 hpl hS h
  have hlen : p.length + (l.drop n).length = l.toArray.size := by simp; omega
  rw [hlen] at H
  exact wp_region_any hm (wpAny_of_T _ _ _ _ H)

variable {R : List Oper} {o : Oper} {p : List (Oper × Bool)} {a : Act} {w : World}
theorem wpPlan_still {v : Value} (hy : YieldsIf P ops S o v a) (h : wpPlan P ops Q S R p (a.put o.dst v) w) : wpPlan P ops Q S R ((o, true) :: p) a w := ⟨v, hy, h⟩
theorem wpPlan_only (h : ∀ K : Act → World → Prop, Shut (∀ a w, S w → wpPlan P ops Q S R p a w → K a w) → if Region.wanted o (yielded ops a.tmps) = true then Oper.wp P o a w K Q else K (a.put o.dst undef) w) :
    wpPlan P ops Q S R ((o, false) :: p) a w := h (fun a' w' => S w' ∧ wpPlan P ops Q S R p a' w') (fun a w hS hW => ⟨hS, hW⟩)
theorem wpPlan_end (h : wpList P ops Q R a w) : wpPlan P ops Q S R [] a w := h
end
end Go.Proofs.YthdafpbmmfelpaaGreatDoor
