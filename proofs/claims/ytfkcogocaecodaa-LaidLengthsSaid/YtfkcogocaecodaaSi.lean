/- Single runs (pure). -/
import Derived.Test.YtfkcogocaecodaaL7
import Derived.Deep.CutBlock
namespace Go.Proofs.Ytfkcogocaecodaa
open Go.ChangeShapes Go.WideShapes Go.ChangeAt Go.RowKit
set_option linter.unusedVariables false
set_option linter.unusedSimpArgs false

/-- The k-th bar of a run, as a run of its own. -/
def sngR (r : Rn) (k : Nat) : Rn := ⟨r.mark, r.tn, adp r.at_ (scp r.st k), ⟨0, 0, 0⟩, 1⟩
def sngs (r : Rn) : List Rn := (List.range r.ct.toNat).map (sngR r)
def sing (rs : List Rn) : List Rn := rs.flatMap sngs
theorem fst_sng (b : Bar) (r : Rn) (k : Nat) : fst b (sngR r k) = bpts b r k := by
  unfold bpts fst mvd Fm.psL sngR
  rw [List.map_map]
  refine List.map_congr_left fun p _ => ?_
  simp only [Function.comp_apply, Fm.ad, adp, scp, Pt.mk.injEq]
  refine ⟨?_, ?_, ?_⟩ <;> omega
theorem lay_sngs (l : List Bar) (r : Rn) : lay l (sngs r) = layR l r := by
  unfold lay sngs layR
  rw [List.flatMap_map]
  cases h : barOf l r.mark with
  | none =>
    refine List.flatMap_eq_nil_iff.2 fun k _ => ?_
    unfold sngR
    dsimp only
    rw [h]
  | some b =>
    dsimp only
    unfold rpaths
    rw [List.map_eq_flatMap]
    congr 1
    funext k
    have e : layR l (sngR r k) = rpaths b (sngR r k) := by unfold layR; rw [show (sngR r k).mark = r.mark from rfl, h]
    show layR l (sngR r k) = [(r.mark, bpts b r k)]
    rw [e]
    unfold rpaths
    rw [show (sngR r k).ct = 1 from rfl, show (sngR r k).mark = r.mark from rfl]
    show [(r.mark, bpts b (sngR r k) 0)] = [(r.mark, bpts b r k)]
    rw [bpts_zero, fst_sng]
theorem lay_sing (l : List Bar) : ∀ rs : List Rn, lay l (sing rs) = lay l rs
  | [] => rfl
  | r :: rs => by
    have e1 : sing (r :: rs) = sngs r ++ sing rs := by simp [sing]
    have e2 : lay l (r :: rs) = layR l r ++ lay l rs := by simp [lay]
    have e3 : lay l (sngs r ++ sing rs) = lay l (sngs r) ++ lay l (sing rs) := by simp [lay]
    rw [e1, e3, e2, lay_sngs, lay_sing l rs]
theorem sing_len : ∀ {rs : List Rn}, (∀ r ∈ rs, 1 ≤ r.ct ∧ r.ct ≤ 1000) → ((sing rs).length : Int) = totR rs
  | [], _ => rfl
  | r :: rs, h => by
    have ih := sing_len (rs := rs) fun x hx => h x (by simp [hx])
    have h1 := h r (by simp)
    have e1 : sing (r :: rs) = sngs r ++ sing rs := by simp [sing]
    have e2 : totR (r :: rs) = r.ct + totR rs := by simp [totR]
    rw [e1, e2, List.length_append]
    unfold sngs
    rw [List.length_map, List.length_range]; omega
theorem sing_ct {rs : List Rn} {r : Rn} (h : r ∈ sing rs) : r.ct = 1 := by
  unfold sing at h
  obtain ⟨x, -, hx⟩ := List.mem_flatMap.1 h
  unfold sngs at hx
  obtain ⟨k, -, rfl⟩ := List.mem_map.1 hx
  rfl
theorem laidN_app (A B : List Rn) (m : ByteArray) : laidN (A ++ B) m = laidN A m + laidN B m := by
  unfold laidN
  rw [List.filter_append, List.map_append, List.sum_append]
theorem laidN_sngs (r : Rn) (h : 0 ≤ r.ct) (m : ByteArray) : laidN (sngs r) m = if r.mark = m then r.ct else 0 := by
  unfold laidN sngs
  rw [List.filter_map, List.map_map]
  by_cases e : r.mark = m
  · rw [if_pos e, List.filter_eq_self.2 (fun x hx => by simp [sngR, e])]
    have : ((fun x : Rn => x.ct) ∘ sngR r) = fun _ => (1 : Int) := by funext k; rfl
    rw [this]
    have hs : ∀ n : Nat, ((List.range n).map fun _ => (1 : Int)).sum = n := fun n => by
      rw [List.map_const', List.sum_replicate_int]; simp
    rw [hs]; omega
  · rw [if_neg e, List.filter_eq_nil_iff.2 (fun x hx => by simp [sngR, e])]
    rfl
theorem laidN_sing (m : ByteArray) : ∀ {rs : List Rn}, (∀ r ∈ rs, 1 ≤ r.ct ∧ r.ct ≤ 1000) → laidN (sing rs) m = laidN rs m
  | [], _ => rfl
  | r :: rs, h => by
    have ih := laidN_sing m (rs := rs) fun x hx => h x (by simp [hx])
    have h1 := h r (by simp)
    have e1 : sing (r :: rs) = sngs r ++ sing rs := by simp [sing]
    have e2 : r :: rs = [r] ++ rs := rfl
    rw [e1, laidN_app, ih, e2, laidN_app, laidN_sngs r (by omega)]
    congr 1
    unfold laidN
    rw [List.filter_cons]
    by_cases e : r.mark = m <;> simp [e]
theorem bal_sing (l : List Bar) {rs : List Rn} (h : ∀ r ∈ rs, 1 ≤ r.ct ∧ r.ct ≤ 1000) : bal l (sing rs) = bal l rs := by
  unfold bal
  congr 1
  funext b
  unfold balO
  rw [laidN_sing b.mark h]
theorem sing_take {rs : List Rn} {j : Nat} (hj : j < rs.length) : sing (rs.take (j + 1)) = sing (rs.take j) ++ sngs rs[j] := by
  unfold sing
  rw [List.take_succ_eq_append_getElem hj, List.flatMap_append]; simp
theorem sngs_take {r : Rn} {k : Nat} (hk : k < r.ct.toNat) : (sngs r).take (k + 1) = (sngs r).take k ++ [sngR r k] := by
  have hl : k < (sngs r).length := by simp [sngs]; omega
  rw [List.take_succ_eq_append_getElem hl]
  simp [sngs]
end Go.Proofs.Ytfkcogocaecodaa
