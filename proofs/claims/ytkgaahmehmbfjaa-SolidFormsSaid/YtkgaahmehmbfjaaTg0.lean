/- The parts (pure): lists. -/
import Derived.Test.YtkgaahmehmbfjaaTe
namespace Go.Proofs.Ytkgaahmehmbfjaa
open Go.ChangeShapes Go.WideShapes Go.ChangeAt Go.RowKit
set_option linter.unusedVariables false
set_option linter.unusedSimpArgs false

def keepX (x y z : Sx) : Bool := (x.bm &&& y.bm &&& z.bm) != 0 && (x.hm &&& y.hm &&& z.hm) == 0
def bxX (x y z : Sx) : Bx := ⟨x.lo, y.lo, z.lo, x.hi, y.hi, z.hi⟩
def rowZ (x y : Sx) (Z : List Sx) : List Bx := Z.flatMap fun z => if keepX x y z then [bxX x y z] else []
def rowY (x : Sx) (Y Z : List Sx) : List Bx := Y.flatMap fun y => rowZ x y Z
def prtL (X Y Z : List Sx) : List Bx := X.flatMap fun x => rowY x Y Z
/-- The parts of a solid. -/
def parts (l h : List Bx) : List Bx := prtL (strs l h 0) (strs l h 1) (strs l h 2)
theorem prtL_take {X Y Z : List Sx} {i : Nat} (h : i < X.length) : prtL (X.take (i + 1)) Y Z = prtL (X.take i) Y Z ++ rowY X[i] Y Z := by
  unfold prtL; rw [List.take_succ_eq_append_getElem h, List.flatMap_append]; simp
theorem rowY_take {x : Sx} {Y Z : List Sx} {i : Nat} (h : i < Y.length) : rowY x (Y.take (i + 1)) Z = rowY x (Y.take i) Z ++ rowZ x Y[i] Z := by
  unfold rowY; rw [List.take_succ_eq_append_getElem h, List.flatMap_append]; simp
theorem rowZ_take {x y : Sx} {Z : List Sx} {i : Nat} (h : i < Z.length) : rowZ x y (Z.take (i + 1)) = rowZ x y (Z.take i) ++ if keepX x y Z[i] then [bxX x y Z[i]] else [] := by
  unfold rowZ; rw [List.take_succ_eq_append_getElem h, List.flatMap_append]; simp
theorem rowZ_split {x y : Sx} {Z : List Sx} {i : Nat} (h : i < Z.length) : rowZ x y Z = rowZ x y (Z.take (i + 1)) ++ rowZ x y (Z.drop (i + 1)) := by
  unfold rowZ; rw [← List.flatMap_append, List.take_append_drop]
theorem rowY_split {x : Sx} {Y Z : List Sx} {i : Nat} (h : i < Y.length) : rowY x Y Z = rowY x (Y.take (i + 1)) Z ++ rowY x (Y.drop (i + 1)) Z := by
  unfold rowY; rw [← List.flatMap_append, List.take_append_drop]
theorem prtL_split {X Y Z : List Sx} {i : Nat} (h : i < X.length) : prtL X Y Z = prtL (X.take (i + 1)) Y Z ++ prtL (X.drop (i + 1)) Y Z := by
  unfold prtL; rw [← List.flatMap_append, List.take_append_drop]
/-- What stands ahead of a part, and behind it. -/
theorem prt_at {X Y Z : List Sx} {i j k : Nat} (hi : i < X.length) (hj : j < Y.length) (hk : k < Z.length) (hk' : keepX X[i] Y[j] Z[k] = true) :
    prtL X Y Z = (prtL (X.take i) Y Z ++ rowY X[i] (Y.take j) Z ++ rowZ X[i] Y[j] (Z.take k)) ++ bxX X[i] Y[j] Z[k] :: (rowZ X[i] Y[j] (Z.drop (k + 1)) ++ (rowY X[i] (Y.drop (j + 1)) Z ++ prtL (X.drop (i + 1)) Y Z)) := by
  have e1 := prtL_split (Y := Y) (Z := Z) hi
  have e2 := rowY_split (x := X[i]) (Z := Z) hj
  have e3 := rowZ_split (x := X[i]) (y := Y[j]) hk
  rw [rowZ_take hk, hk'] at e3
  rw [rowY_take hj, e3] at e2
  rw [prtL_take hi, e2] at e1
  rw [e1]
  simp [List.append_assoc]
theorem rowZ_keep {x y : Sx} {Z : List Sx} {k : Nat} (hk : k < Z.length) (h : keepX x y Z[k] = true) : rowZ x y (Z.take (k + 1)) = rowZ x y (Z.take k) ++ [bxX x y Z[k]] := by rw [rowZ_take hk, h]; rfl
theorem rowZ_drop {x y : Sx} {Z : List Sx} {k : Nat} (hk : k < Z.length) (h : keepX x y Z[k] = false) : rowZ x y (Z.take (k + 1)) = rowZ x y (Z.take k) := by rw [rowZ_take hk, h]; simp
theorem strs_bd {l h : List Bx} {ax : Nat} (hl : l.length ≤ 20) (hh : h.length ≤ 20) : ∀ s ∈ strs l h ax, s.bm < 4294967296 ∧ s.hm < 4294967296 := by
  intro s hs
  obtain ⟨p, -, rfl⟩ := List.mem_map.1 hs
  have h1 := hmk_20 (sds l ax) p hl
  have h2 := hmk_20 (sds h ax) p hh
  simp only [sxOf]
  omega
end Go.Proofs.Ytkgaahmehmbfjaa
