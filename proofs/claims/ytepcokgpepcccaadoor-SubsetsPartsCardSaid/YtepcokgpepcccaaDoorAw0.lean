/- The chapter's example (pure): its sums, the first set with the sum 0, its parts. -/
import Derived.Test.YtepcokgpepcccaaDoorAsc
namespace Go.Proofs.YtepcokgpepcccaaDoor
set_option linter.unusedVariables false
set_option linter.unusedSimpArgs false
def xa : List Int := [3, -1]
def xl : List Int := [5, -2, -3, 4, -4]
theorem ex_smz : smz xa = [-1, 0, 2, 3] := by
  refine asc_eq (smz_asc xa).1 (by decide) fun x => ?_
  rw [(smz_asc xa).2, show sums xa = [0, 3, -1, 2] from by decide +kernel]
  simp only [List.mem_cons, List.not_mem_nil, or_false]
  omega
theorem ex_fau : fau xa = 0 := by decide
theorem ex_fau2 : fau xl = 0 := by decide
theorem ex_zero : fst (byZero xl) (2 ^ xl.length) = some 24 := by decide +kernel
theorem ex_ixs : toZ (ixs 10 24) = [3, 4] := by decide +kernel
theorem ex_sum : SF xl (allS xl) = 0 := by decide +kernel
theorem ex_all : allS xl = 31 := by decide
/-- A decidable form of: p is the first of the parts of r. -/
def ckF (F : Nat → Int) (M : Nat → Nat) (r p : Nat) : Bool :=
  (List.range (r + 1)).all fun t => !(decide (t &&& r = t) && decide (low r &&& t = low r) && decide (F t = 0) && decide ((M (r - t) : Int) = (M r : Int) - 1)) || decide (p = t) || prec p t
theorem ckF_ok {F : Nat → Int} {M : Nat → Nat} {r p : Nat} (hr : r < 1024) (p0 : p ≠ 0) (hp : p < 1024) (h : ckF F M r p = true) (hc : (p &&& r = p ∧ low r &&& p = low r) ∧ F p = 0 ∧ (M (r - p) : Int) = (M r : Int) - 1) : IsFirst (cand F M r) p := by
  refine ⟨.inr ⟨sub_and.2 hc.1.1, sub_and.2 hc.1.2, hc.2⟩, fun t ⟨t1, t2, t3, t4⟩ => ⟨p0, ?_⟩⟩
  have k := List.all_eq_true.1 h t (List.mem_range.2 (by have := t1.le; omega))
  rw [sub_and] at t1 t2
  simp only [t1, t2, t3, t4, decide_true, Bool.and_true, Bool.not_true, Bool.false_or, Bool.or_eq_true, decide_eq_true_eq] at k
  rcases k with k | k
  · exact .inl k
  · exact .inr ((pr_prec hp (by have := (sub_and.2 t1).le; omega)).1 k)
theorem ex_pts : Pts (SF xl) (MF xl) (allS xl) [7, 24] := by
  rw [ex_all]
  refine .cons (by decide) (by decide) (ckF_ok (by decide) (by decide) (by decide) (by decide +kernel) (by decide +kernel)) ?_
  refine .cons (by decide) (by decide) (ckF_ok (by decide) (by decide) (by decide) (by decide +kernel) (by decide +kernel)) ?_
  exact .nil
theorem ex_parts {ps : List Nat} (h : Pts (SF xl) (MF xl) (allS xl) ps) : lists ps = [[0, 1, 2], [3, 4]] := by
  rw [h.uniq (by decide) ex_pts]
  decide +kernel
end Go.Proofs.YtepcokgpepcccaaDoor
