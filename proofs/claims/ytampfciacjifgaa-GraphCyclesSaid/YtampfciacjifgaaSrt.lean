/- slices.Sort of a list of the call's own. -/
import Derived.Test.YtampfciacjifgaaVi2
import Derived.Shelf.Slices.In.SortNone
namespace Go.Proofs.Ytampfciacjifgaa
open Go.ChangeShapes Go.WideShapes Go.ChangeAt Go.RowKit
set_option linter.unusedVariables false
set_option linter.unusedSimpArgs false
theorem sort_none (p : Option Addr) (cap : Nat) (w : World) : Calls Try.prog 56 #[.slice p 0 cap] w fun e w' => e = .returned (.tuple #[]) ∧ w' = w := Any.slices_Sort_int_none Try.lays189 p cap w
theorem sorted_cast (xs : List Nat) : (xs.map fun i : Nat => (i : Int)).mergeSort (fun x y => decide (x ≤ y)) = (xs.mergeSort fun x y => decide (x ≤ y)).map fun i : Nat => (i : Int) :=
  (List.map_mergeSort (fun a _ b _ => by simp)).symm
set_option maxRecDepth 10000 in
theorem sort_any (B : Nat) (v : Value) (xs : List Nat) (w : World) (h : Own B w v xs) (hB : B ≤ w.heap.size) (hs : xs.length ≤ 4000) :
    Calls Try.prog 56 #[v] w fun e w' => e = .returned (.tuple #[]) ∧ Own B w' v (xs.mergeSort fun x y => decide (x ≤ y)) ∧ Below B w w' := by
  by_cases hx : xs = []
  · subst hx
    obtain ⟨p, c, rfl, -⟩ := own_form h
    refine (sort_none p c w).mono ?_
    rintro e w' ⟨rfl, rfl⟩
    exact ⟨rfl, by simpa using h, Below.refl _ _⟩
  · have hpos : 0 < xs.length := List.length_pos_iff.2 hx
    have h0 := h
    obtain ⟨hl, ⟨-, h1⟩ | ⟨g, cap, cur, rfl, hBg, hg, hn, hcap, hsz, ht⟩⟩ := h
    · omega
    have hH : Sort.Holds (Value.int .i64) w g 0 (xs.map fun i : Nat => (i : Int)).toArray := fun j hj => by
      have hj' : j < xs.length := by simpa using hj
      rw [Nat.zero_add]
      refine ⟨?_, Has.open_ hg j⟩
      rw [Own.cell h0 rfl hj']
      simp [hj']
    have hlt := Has.size_ hg
    have hr := Try.slices_Sort_int g 0 cap (xs.map fun i : Nat => (i : Int)) w hH hlt (by simp; omega)
    rw [List.length_map] at hr
    refine hr.mono ?_
    rintro e w' ⟨rfl, n, os, rfl⟩
    have hh : (Sort.grow (Sort.putRow (Value.int .i64) (Sort.ahead w n) g 0 ((xs.map fun i : Nat => (i : Int)).mergeSort fun x y => decide (x ≤ y)).toArray) os).heap = w.heap.modify g (Sort.onCells (Sort.putCells (Value.int .i64) 0 ((xs.map fun i : Nat => (i : Int)).mergeSort fun x y => decide (x ≤ y)).toArray)) ++ os := rfl
    have hsize : (w.heap.modify g (Sort.onCells (Sort.putCells (Value.int .i64) 0 ((xs.map fun i : Nat => (i : Int)).mergeSort fun x y => decide (x ≤ y)).toArray))).size = w.heap.size := by simp
    refine ⟨rfl, ⟨by simp [ints], .inr ⟨g, cap, Sort.putCells (Value.int .i64) 0 ((xs.map fun i : Nat => (i : Int)).mergeSort fun x y => decide (x ≤ y)).toArray cur, by simp, hBg, ?_, by simpa using hn, hcap, by simp [Sort.putCells, hsz], ?_⟩⟩, ⟨rfl, rfl, rfl, ?_, fun k hk => ?_⟩⟩
    · rw [hh, Array.getElem?_append_left (by omega), Array.getElem?_modify, if_pos rfl, hg]
      rfl
    · have hc : cur.size = cap := by simpa using hsz
      rw [sorted_cast]
      apply List.ext_getElem
      · simp [Sort.putCells, ints]; omega
      · intro i a b
        have hi : i < xs.length := by simpa [ints] using b
        simp [Sort.putCells, ints, hi]
    · rw [hh, Array.size_append, hsize]; omega
    · rw [hh, Array.getElem?_append_left (by omega), Array.getElem?_modify, if_neg (by omega)]
end Go.Proofs.Ytampfciacjifgaa
