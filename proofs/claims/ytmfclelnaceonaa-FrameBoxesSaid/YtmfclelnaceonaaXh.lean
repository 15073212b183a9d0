/- FrameBoxes. -/
import Derived.Test.YtmfclelnaceonaaW
namespace Go.Proofs.Ytmfclelnaceonaa
open Go.ChangeShapes Go.WideShapes Go.ChangeAt Go.RowKit
set_option linter.unusedVariables false
set_option linter.unusedSimpArgs false

theorem sort3k (g : Nat) (x y z : Int) (w : World) (h : Has w g 3 #[.int .i64 x, .int .i64 y, .int .i64 z]) :
    Calls Try.prog 33 #[.slice (some ⟨g, 0, none⟩) 3 3] w fun e w' => e = .returned (.tuple #[]) ∧ ∃ u v t, ((u ≤ v ∧ u ≤ t) ∧ v ≤ t) ∧ [u, v, t].Perm [x, y, z] ∧ Has w' g 3 #[.int .i64 u, .int .i64 v, .int .i64 t] ∧ Below g w w' ∧ ∀ k, k < w.heap.size → k ≠ g → w'.heap[k]? = w.heap[k]? := by
  have hH : Sort.Holds (Value.int .i64) w g 0 [x, y, z].toArray := fun j hj => by
    have hj' : j < 3 := by simpa using hj
    rw [Nat.zero_add]
    refine ⟨?_, h.open_ j⟩
    rw [h.read j]
    rcases (by omega : j = 0 ∨ j = 1 ∨ j = 2) with rfl | rfl | rfl <;> rfl
  refine (Try.slices_Sort_int g 0 3 [x, y, z] w hH h.size_ (by simp)).mono ?_
  rintro e w' ⟨rfl, n, os, rfl⟩
  have hp : ([x, y, z].mergeSort fun x y => decide (x ≤ y)).Pairwise (fun a b => decide (a ≤ b) = true) := List.pairwise_mergeSort (by simp; omega) (by simp; omega) _
  have hq : ([x, y, z].mergeSort fun x y => decide (x ≤ y)).Perm [x, y, z] := List.mergeSort_perm _ _
  have hl : ([x, y, z].mergeSort fun x y => decide (x ≤ y)).length = 3 := List.length_mergeSort ..
  generalize ([x, y, z].mergeSort fun x y => decide (x ≤ y)) = S at *
  match S, hl, hp, hq with
  | [u, v, t], _, hp, hq =>
    simp at hp
    refine ⟨rfl, u, v, t, hp, hq, ?_, ⟨rfl, rfl, rfl, ?_, fun k hk => ?_⟩, fun k hk hne => ?_⟩
    · have hlt := h.size_
      unfold Has
      show ((w.heap.modify g (Sort.onCells (Sort.putCells (Value.int .i64) 0 [u, v, t].toArray))) ++ os)[g]? = _
      rw [Array.getElem?_append_left (by simp; exact hlt), Array.getElem?_modify, if_pos rfl, h]
      rfl
    · show w.heap.size ≤ ((w.heap.modify g (Sort.onCells (Sort.putCells (Value.int .i64) 0 [u, v, t].toArray))) ++ os).size
      simp
    · have hlt := h.size_
      show ((w.heap.modify g (Sort.onCells (Sort.putCells (Value.int .i64) 0 [u, v, t].toArray))) ++ os)[k]? = _
      rw [Array.getElem?_append_left (by simp; omega), Array.getElem?_modify, if_neg (by omega)]
    · show ((w.heap.modify g (Sort.onCells (Sort.putCells (Value.int .i64) 0 [u, v, t].toArray))) ++ os)[k]? = _
      rw [Array.getElem?_append_left (by simp; omega), Array.getElem?_modify, if_neg (by omega)]
/-- Points that lie in a row. -/
def PtRow (w : World) (g : Nat) (l : List Pt) : Prop := ∀ k (hk : k < l.length), w.cell? ⟨g, k * 3, none⟩ = some (.int .i64 l[k].x) ∧ w.cell? ⟨g, k * 3 + 1, none⟩ = some (.int .i64 l[k].y) ∧ w.cell? ⟨g, k * 3 + 2, none⟩ = some (.int .i64 l[k].z)
theorem PtRow.on {w w' : World} {g : Nat} {l : List Pt} (h : PtRow w g l) (hb : Below w.heap.size w w') : PtRow w' g l := fun k hk => ⟨cell_later hb (h k hk).1, cell_later hb (h k hk).2.1, cell_later hb (h k hk).2.2⟩
theorem own_row {B : Nat} {w : World} {v : Value} {l : List Pt} (h : Own pc 37 3 B w v l) (hl : 0 < l.length) : ∃ g c, v = .slice (some ⟨g, 0, none⟩) l.length c ∧ PtRow w g l := by
  obtain ⟨q, c, rfl, k⟩ := Own.rd pl h
  obtain ⟨g, rfl, -⟩ := k 0 hl
  refine ⟨g, c, rfl, fun i hi => ?_⟩
  obtain ⟨g', e, hc⟩ := k i hi
  cases e
  have h0 := hc 0 (by omega)
  have h1 := hc 1 (by omega)
  have h2 := hc 2 (by omega)
  exact ⟨h0, h1, h2⟩
theorem Has.at_kept {w w' : World} {g : Nat} {t : TypeId} {cs : Array Value} (h : Has w g t cs) (k : w'.heap[g]? = w.heap[g]?) : Has w' g t cs := by unfold Has at *; rw [k]; exact h
/-- What is known of the box's image. -/
theorem box_facts {t : Tn} {at_ : Pt} {b : Bx} {P : Pt} (ht : vT t = true) (hb : leB b.lo b.hi = true) (h : (b.lo.x ≤ P.x ∧ P.x ≤ b.hi.x) ∧ (b.lo.y ≤ P.y ∧ P.y ≤ b.hi.y) ∧ (b.lo.z ≤ P.z ∧ P.z ≤ b.hi.z)) :
    ∀ q ∈ psL t at_ [P, b.lo, b.hi], ((bxv t at_ b).lo.x ≤ q.x ∧ q.x ≤ (bxv t at_ b).hi.x) ∧ ((bxv t at_ b).lo.y ≤ q.y ∧ q.y ≤ (bxv t at_ b).hi.y) ∧ ((bxv t at_ b).lo.z ≤ q.z ∧ q.z ≤ (bxv t at_ b).hi.z) := by
  simp only [leB, Bool.and_eq_true, decide_eq_true_eq] at hb
  intro q hq
  simp only [psL, List.map_cons, List.map_nil, List.mem_cons, List.not_mem_nil, or_false] at hq
  rcases hq with rfl | rfl | rfl
  · have k := img_between ht h
    simp only [bxv, ad]; omega
  · have k := img_between ht (p := b.lo) (q := b.hi) (r := b.lo) (by omega)
    simp only [bxv, ad]; omega
  · have k := img_between ht (p := b.lo) (q := b.hi) (r := b.hi) (by omega)
    simp only [bxv, ad]; omega
theorem box_perm {t : Tn} {at_ : Pt} {b : Bx} (ht : vT t = true) (hb : leB b.lo b.hi = true) :
    [(mi (bxv t at_ b).hi (bxv t at_ b).lo).x, (mi (bxv t at_ b).hi (bxv t at_ b).lo).y, (mi (bxv t at_ b).hi (bxv t at_ b).lo).z].Perm [(mi b.hi b.lo).x, (mi b.hi b.lo).y, (mi b.hi b.lo).z] := by
  simp only [leB, Bool.and_eq_true, decide_eq_true_eq] at hb
  have k := img_perm ht (p := b.lo) (q := b.hi) ⟨hb.1.1, hb.1.2, hb.2⟩
  have e : mi (bxv t at_ b).hi (bxv t at_ b).lo = mi (hi (img t b.lo) (img t b.hi)) (lo (img t b.lo) (img t b.hi)) := by
    simp only [mi, bxv, ad, Pt.mk.injEq]; omega
  rw [e]
  exact k
end Go.Proofs.Ytmfclelnaceonaa
