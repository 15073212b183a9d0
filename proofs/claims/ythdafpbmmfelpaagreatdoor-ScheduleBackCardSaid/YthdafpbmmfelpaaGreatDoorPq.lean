/- Counts: the pure side. -/
import Derived.Test.YthdafpbmmfelpaaGreatDoorMq
import Derived.Test.YthdafpbmmfelpaaGreatDoorPc
import Derived.Test.YthdafpbmmfelpaaGreatDoorRs
namespace Go.Proofs.YthdafpbmmfelpaaGreatDoor
open Go.ChangeShapes Go.WideShapes Go.ChangeAt Go.RowKit
set_option linter.unusedVariables false
set_option linter.unusedSimpArgs false

theorem valid_iff {l : List Bar} : validL l = true ↔ l.length ≤ 60 ∧ (∀ b ∈ l, barB b = true) ∧ l.Pairwise fun x y => x.mark ≠ y.mark := by
  constructor
  · intro h
    obtain ⟨h1, h2⟩ := valid_all h
    refine ⟨h1, h2, List.pairwise_iff_getElem.2 fun i j hi hj hij e => ?_⟩
    exact valid_marks h hi l[j] (List.mem_drop_iff_getElem.2 ⟨j - (i + 1), by omega, by congr 1; omega⟩) e.symm
  · rintro ⟨h1, h2, h3⟩
    unfold validL
    simp only [Bool.and_eq_true, decide_eq_true_eq, List.all_eq_true, List.mem_range]
    refine ⟨h1, fun i hi => ?_⟩
    rw [okAt_eq hi, h2 _ (List.getElem_mem hi), Bool.true_and, decide_eq_true_eq]
    by_cases hf : fnd l[i].mark (l.take i) < (l.take i).length
    · exfalso
      have e := eqN_iff.1 (fnd_at hf)
      have hlt : fnd l[i].mark (l.take i) < i := by simp at hf; omega
      rw [List.getElem_take] at e
      exact List.pairwise_iff_getElem.1 h3 _ i (by omega) hi hlt e
    · rw [fndV_no hf]; decide
theorem barB_nrm {x y : Bar} (h : nrm x = nrm y) : barB x = barB y := by
  have e : ∀ z : Bar, barB z = barB (nrm z) := fun z => rfl
  rw [e x, e y, h]
theorem valid_nrm {l m : List Bar} (h : m.map nrm = l.map nrm) (hv : validL l = true) : validL m = true := by
  obtain ⟨h1, h2, h3⟩ := valid_iff.1 hv
  have hl : m.length = l.length := by simpa using congrArg List.length h
  have hg : ∀ i (a : i < m.length) (b : i < l.length), nrm m[i] = nrm l[i] := fun i a b => by
    have : (m.map nrm)[i]? = (l.map nrm)[i]? := by rw [h]
    simpa [a, b] using this
  refine valid_iff.2 ⟨by omega, fun b hb => ?_, List.pairwise_iff_getElem.2 fun i j hi hj hij => ?_⟩
  · obtain ⟨i, hi, rfl⟩ := List.mem_iff_getElem.1 hb
    rw [barB_nrm (hg i hi (by omega))]
    exact h2 _ (List.getElem_mem _)
  · have ei := congrArg Bar.mark (hg i hi (by omega))
    have ej := congrArg Bar.mark (hg j hj (by omega))
    have := List.pairwise_iff_getElem.1 h3 i j (by omega) (by omega) hij
    simp only [nrm] at ei ej
    rw [ei, ej]; exact this
theorem valid_rev {l : List Bar} (hv : validL l = true) : validL l.reverse = true := by
  obtain ⟨h1, h2, h3⟩ := valid_iff.1 hv
  refine valid_iff.2 ⟨by simpa using h1, fun b hb => h2 b (List.mem_reverse.1 hb), List.pairwise_reverse.2 (h3.imp fun h => h.symm)⟩
theorem has_nrm (l : List Bar) (d x : Int) : hasC l d x = hasC (l.map nrm) d x := by
  unfold hasC
  rw [List.any_map]; rfl
theorem kct_nrm (l : List Bar) (d x : Int) : kct l d x = kct (l.map nrm) d x := by
  unfold kct
  rw [List.filter_map, List.map_map]; rfl
theorem pcs_ext {l m : List Bar} {d : Int} (h1 : ∀ x, hasC l d x = hasC m d x) (h2 : ∀ x, kct l d x = kct m d x) : pcs l d = pcs m d := by
  have e : hasC l d = hasC m d := funext h1
  unfold pcs pcK
  rw [e]
  congr 1
  funext x
  rw [h2]
theorem sum_rev : ∀ l : List Int, l.reverse.sum = l.sum
  | [] => rfl
  | x :: r => by rw [List.reverse_cons, List.sum_append, sum_rev r]; simp; omega
theorem pcs_rev {l m : List Bar} (d : Int) (h : m.map nrm = l.map nrm) : pcs m.reverse d = pcs l d := by
  refine pcs_ext (fun x => ?_) fun x => ?_
  · rw [has_nrm l, ← h, ← has_nrm m]
    unfold hasC
    exact List.any_reverse
  · rw [kct_nrm l, ← h, ← kct_nrm m]
    unfold kct
    rw [List.filter_reverse, List.map_reverse, sum_rev]
/-- The counts of one size. -/
def szT (l : List Bar) (d : Int) : Int := ((l.filter fun b => b.size == d).map (·.count)).sum
theorem szT_cons (b : Bar) (l : List Bar) (d : Int) : szT (b :: l) d = (if b.size = d then b.count else 0) + szT l d := by
  unfold szT
  rw [List.filter_cons]
  by_cases h : b.size = d
  · simp [h]
  · simp [h]
theorem sum_zero {α : Type} (ks : List α) (f : α → Int) (h : ∀ x ∈ ks, f x = 0) : (ks.map f).sum = 0 := by
  induction ks with
  | nil => rfl
  | cons x r ih => simp [h x (by simp), ih fun y hy => h y (by simp [hy])]
theorem sum_add {α : Type} (ks : List α) (f g : α → Int) : (ks.map fun x => f x + g x).sum = (ks.map f).sum + (ks.map g).sum := by
  induction ks with
  | nil => rfl
  | cons x r ih => simp [ih]; omega
theorem sum_one {ks : List Int} (hn : ks.Nodup) {y : Int} (h : y ∈ ks) (c : Int) : (ks.map fun x => if y = x then c else 0).sum = c := by
  induction ks with
  | nil => cases h
  | cons x r ih =>
    obtain ⟨h1, h2⟩ := List.nodup_cons.1 hn
    rw [List.map_cons, List.sum_cons]
    rcases List.mem_cons.1 h with rfl | h
    · rw [sum_zero r _ fun x hx => if_neg fun e => h1 (by rw [e]; exact hx)]; simp
    · rw [ih h2 h, if_neg (fun e => h1 (by rw [← e]; exact h))]; omega
theorem kct_all {ks : List Int} (hn : ks.Nodup) (d : Int) : ∀ (l : List Bar), (∀ b ∈ l, b.size = d → cutB b ∈ ks) → (ks.map fun x => kct l d x).sum = szT l d
  | [], h => sum_zero _ _ fun x hx => rfl
  | b :: l, h => by
    have e : (fun x => kct (b :: l) d x) = fun x => (if inC d x b then b.count else 0) + kct l d x := funext fun x => kct_cons l b d x
    rw [e, sum_add, kct_all hn d l fun c hc => h c (by simp [hc]), szT_cons]
    congr 1
    by_cases hs : b.size = d
    · rw [if_pos hs]
      refine Eq.trans ?_ (sum_one hn (h b (by simp) hs) b.count)
      congr 1
      refine List.map_congr_left fun x hx => ?_
      simp only [inC, hs, beq_self_eq_true, Bool.true_and, beq_iff_eq]
    · rw [if_neg hs]
      refine sum_zero _ _ fun x hx => ?_
      have : inC d x b = false := by unfold inC; simp [hs]
      rw [this]; rfl
theorem pcs_sum {l : List Bar} (hv : ∀ b ∈ l, barB b = true) (d : Int) : ((pcs l d).map (·.2)).sum = szT l d := by
  unfold pcs
  rw [List.map_map]
  refine kct_all ((pcK_desc l d).imp fun h => by omega) d l fun b hb hs => (pcK_mem hv).2 ?_
  unfold hasC
  exact List.any_eq_true.2 ⟨b, hb, by simp [inC, hs]⟩
theorem szT_all {ks : List Int} (hn : ks.Nodup) : ∀ (l : List Bar), (∀ b ∈ l, b.size ∈ ks) → (ks.map fun d => szT l d).sum = totL l
  | [], h => sum_zero _ _ fun x hx => rfl
  | b :: l, h => by
    have e : (fun d => szT (b :: l) d) = fun d => (if b.size = d then b.count else 0) + szT l d := funext fun d => szT_cons b l d
    rw [e, sum_add, szT_all hn l fun c hc => h c (by simp [hc]), sum_one hn (h b (by simp))]
    unfold totL
    simp
theorem sz_all {l : List Bar} (hv : ∀ b ∈ l, barB b = true) : (sz.map fun d => szT l d).sum = totL l := by
  refine szT_all (by decide) l fun b hb => ?_
  have := (barB_and (hv b hb)).2.2.2.2.1
  unfold isz at this
  exact List.contains_iff_mem.1 this
/-- The pieces of a size, one by one. -/
theorem pcs_at {l : List Bar} (hv : ∀ b ∈ l, barB b = true) {d : Int} {k : Nat} (h : k < (pcs l d).length) : 1 ≤ (pcs l d)[k].2 ∧ (pcs l d)[k].2 ≤ l.length * 1000 ∧ (0 < k → ∀ (h2 : k - 1 < (pcs l d).length), (pcs l d)[k].1 < (pcs l d)[k - 1].1) := by
  have hk : k < (pcK l d).length := by unfold pcs at h; simpa using h
  have e : ∀ i (a : i < (pcs l d).length), (pcs l d)[i] = ((pcK l d)[i]'(by unfold pcs at a; simpa using a), kct l d ((pcK l d)[i]'(by unfold pcs at a; simpa using a))) := fun i a => by
    have h1 : (pcs l d)[i]? = ((pcK l d).map fun x => (x, kct l d x))[i]? := by rw [pcs]
    rw [List.getElem?_eq_getElem a, List.getElem?_map, List.getElem?_eq_getElem (by unfold pcs at a; simpa using a)] at h1
    simpa using h1
  rw [e k h]
  refine ⟨kct_pos hv ((pcK_mem hv).1 (List.getElem_mem hk)), (kct_bd d _ hv).2, fun h0 h2 => ?_⟩
  rw [e (k - 1) h2]
  exact List.pairwise_iff_getElem.1 (pcK_desc l d) (k - 1) k (by omega) hk (by omega)
end Go.Proofs.YthdafpbmmfelpaaGreatDoor
