/- slices.Sort and slices.Compact of a list of the call's own. -/
import Derived.Test.YtffigpkkdljaiaaRw
import Derived.Test.YtffigpkkdljaiaaShf
namespace Go.Proofs.Ytffigpkkdljaiaa
open Go.ChangeShapes Go.WideShapes Go.ChangeAt Go.RowKit
set_option linter.unusedVariables false
set_option linter.unusedSimpArgs false

def zv (zs : List Int) : List Value := zs.map (Value.int .i64)
theorem zv_flat (zs : List Int) : zs.flatMap zc = zv zs := by
  induction zs with
  | nil => rfl
  | cons z zs ih => rw [List.flatMap_cons, ih]; rfl
def OwnZ (B : Nat) (w : World) (v : Value) (zs : List Int) : Prop := w.ownsRow B 3 1 v zs.length (zv zs)
theorem ownz {B : Nat} {w : World} {v : Value} {zs : List Int} : Own zc 3 1 B w v zs ↔ OwnZ B w v zs := by unfold Own OwnZ; rw [zv_flat]
theorem OwnZ.at_ {B g cap : Nat} {w : World} {zs : List Int} (h : OwnZ B w (.slice (some ⟨g, 0, none⟩) zs.length cap) zs) {j : Nat} (hj : j < zs.length) : w.cell? ⟨g, j, none⟩ = some (.int .i64 zs[j]) := by
  rw [World.ownsRow.cellAt h j (by omega)]
  simp [zv, hj]
theorem OwnZ.holds {B g cap : Nat} {w : World} {zs : List Int} (h : OwnZ B w (.slice (some ⟨g, 0, none⟩) zs.length cap) zs) : Sort.Holds (Value.int .i64) w g 0 zs.toArray := fun j hj => by
  have hj' : j < zs.length := by simpa using hj
  rw [Nat.zero_add]
  refine ⟨by rw [h.at_ hj']; simp [hj'], ?_⟩
  exact (World.ownsRow.frozenAt h j)
/-- A row whose first cells are laid anew. -/
theorem OwnZ.lay {B g cap n : Nat} {w w' : World} {zs ys us : List Int} (h : OwnZ B w (.slice (some ⟨g, 0, none⟩) zs.length cap) zs) (hh : ∃ os, w'.heap = (w.heap.modify g (Sort.onCells (Sort.putCells (Value.int .i64) 0 us.toArray))) ++ os)
    (hos : w'.os = w.os ∧ w'.tape = w.tape ∧ w'.output = w.output) (hu : us.take n = ys) (hn : n = ys.length) (hn2 : n ≤ cap) (hul : us.length ≤ cap) : OwnZ B w' (.slice (some ⟨g, 0, none⟩) n cap) ys ∧ Below B w w' := by
  obtain ⟨hl, ⟨h1, -⟩ | ⟨g', cap', cur, e, hBg, hg, hn1, hcap, hsz, ht⟩⟩ := h
  · cases h1
  cases e
  obtain ⟨os, hh⟩ := hh
  have hlt := Has.size_ hg
  have hsize : (w.heap.modify g (Sort.onCells (Sort.putCells (Value.int .i64) 0 us.toArray))).size = w.heap.size := by simp
  refine ⟨⟨by simp [zv], .inr ⟨g, cap, Sort.putCells (Value.int .i64) 0 us.toArray cur, by rw [hn], hBg, ?_, by omega, hcap, by simp [Sort.putCells, hsz], ?_⟩⟩, ⟨hos.1, hos.2.1, hos.2.2, ?_, fun k hk => ?_⟩⟩
  · rw [hh, Array.getElem?_append_left (by omega), Array.getElem?_modify, if_pos rfl, hg]
    rfl
  · have hc : cur.size = cap := by simpa using hsz
    subst hu
    apply List.ext_getElem
    · simp only [Sort.putCells, zv]; simp at hn ⊢; omega
    · intro i a b
      have hi : i < us.length := by simp [zv] at b; omega
      simp [Sort.putCells, zv, hi]
  · rw [hh, Array.size_append, hsize]; omega
  · rw [hh, Array.getElem?_append_left (by omega), Array.getElem?_modify, if_neg (by omega)]
set_option maxRecDepth 10000 in
theorem sortz_any (B g cap : Nat) (zs : List Int) (w : World) (h : OwnZ B w (.slice (some ⟨g, 0, none⟩) zs.length cap) zs) (hs : zs.length ≤ 100000) (hc : zs.length ≤ cap) :
    Calls Try.prog 66 #[.slice (some ⟨g, 0, none⟩) zs.length cap] w fun e w' => e = .returned (.tuple #[]) ∧ OwnZ B w' (.slice (some ⟨g, 0, none⟩) zs.length cap) (zs.mergeSort fun x y => decide (x ≤ y)) ∧ Below B w w' := by
  have hlt := (World.ownsRow.lt h _ rfl).2
  refine (Try.slices_Sort_int g 0 cap zs w h.holds hlt (by omega)).mono ?_
  rintro e w' ⟨rfl, n, os, rfl⟩
  have hl : (zs.mergeSort fun x y => decide (x ≤ y)).length = zs.length := List.length_mergeSort ..
  exact ⟨rfl, h.lay (us := zs.mergeSort fun x y => decide (x ≤ y)) ⟨os, rfl⟩ ⟨rfl, rfl, rfl⟩ (by rw [← hl, List.take_length]) hl.symm hc (by rw [hl]; exact hc)⟩
theorem compact_len (zs : List Int) : (Lib.compact zs).length ≤ zs.length := by
  unfold Lib.compact Lib.compactUpTo
  rw [List.length_map]
  exact Nat.le_trans (List.length_filter_le _ _) (by simp)
set_option maxRecDepth 10000 in
theorem compactz_any (B g cap : Nat) (zs : List Int) (w : World) (h : OwnZ B w (.slice (some ⟨g, 0, none⟩) zs.length cap) zs) (hs : zs.length ≤ 100000) (hc : zs.length ≤ cap) :
    Calls Try.prog 67 #[.slice (some ⟨g, 0, none⟩) zs.length cap] w fun e w' => e = .returned (.slice (some ⟨g, 0, none⟩) (Lib.compact zs).length cap) ∧ OwnZ B w' (.slice (some ⟨g, 0, none⟩) (Lib.compact zs).length cap) (Lib.compact zs) ∧ Below B w w' := by
  refine (Try.slices_Compact_int g 0 cap zs w h.holds (by omega) hc).mono ?_
  rintro e w' ⟨rfl, q, rfl⟩
  have hl := compact_len zs
  exact ⟨rfl, h.lay (us := Lib.compact zs ++ List.replicate (zs.length - (Lib.compact zs).length) 0) ⟨#[], by rw [Array.append_empty]; rfl⟩ ⟨rfl, rfl, rfl⟩ (by rw [List.take_left]) rfl (by omega) (by rw [List.length_append, List.length_replicate]; omega)⟩
end Go.Proofs.Ytffigpkkdljaiaa
