/- The program: barOf, its words read one by one. -/
import Derived.Test.YthdafpbmmfelpaaGreatDoorNv
import Derived.Test.YthdafpbmmfelpaaGreatDoorW3
namespace Go.Proofs.YthdafpbmmfelpaaGreatDoor
open Go.ChangeShapes Go.WideShapes Go.ChangeAt Go.RowKit Dec
set_option linter.unusedVariables false
set_option linter.unusedSimpArgs false

/-- The table of the forms. -/
def Frm (w : World) : Prop := ∀ i, i < 5 → w.cell? ⟨0, i, none⟩ = some (.int .i64 (if i = 0 then 0 else if i = 3 then 2 else 1))
theorem Frm.on {w w1 : World} (h : Frm w) (hb : Below w.heap.size w w1) : Frm w1 := fun i hi => cell_later hb (h i hi)
/-- A variable of the library's, of which Split asks that it is there. -/
def Cut1 (w : World) : Prop := ∃ m, w.cell? ⟨1, 0, none⟩ = some (.int .i64 m)
theorem Cut1.on {w w1 : World} (h : Cut1 w) (hb : Below w.heap.size w w1) : Cut1 w1 := h.imp fun m e => cell_later hb e
def wrdB (i : Nat) (x : ByteArray) : Bool := if i = 0 then nameB x.data.toList else if i = 3 then codB x.data.toList else numW x.data.toList
def wrdV (i : Nat) (x : ByteArray) : Int := if i = 0 then 0 else (dnum 0 x.data.toList : Nat)
def frmI (i : Nat) : Int := if i = 0 then 0 else if i = 3 then 2 else 1
theorem value_any (i : Nat) (x : ByteArray) (W : World) (hx : x.size ≤ maxLen) : Calls Tryz.prog 81 #[.string x, .int .i64 (frmI i)] W fun e w' => ∃ v : Int, e = .returned (.tuple #[.int .i64 v, .bool (wrdB i x)]) ∧ (wrdB i x = true → v = wrdV i x) ∧ Below W.heap.size W w' := by
  unfold frmI wrdB wrdV
  by_cases h0 : i = 0
  · simp only [h0, if_true]
    refine (value_name x W hx).mono ?_
    rintro e w' ⟨rfl, hb⟩
    exact ⟨0, rfl, fun _ => rfl, hb⟩
  · by_cases h3 : i = 3
    · simp only [h3, if_true, if_neg (show ¬ (3 : Nat) = 0 by decide)]
      exact value_code x W hx
    · simp only [if_neg h0, if_neg h3]
      exact value_num x W hx
/-- The values of the words from the start on. -/
def vals (ws : List ByteArray) (k : Nat) : List Int := (List.range k).map fun i => wrdV i (ws.getD i ⟨#[]⟩)
theorem vals_len (ws : List ByteArray) (k : Nat) : (vals ws k).length = k := by simp [vals]
theorem vals_succ (ws : List ByteArray) {k : Nat} (h : k < ws.length) : vals ws (k + 1) = vals ws k ++ [wrdV k ws[k]] := by
  unfold vals
  rw [List.range_succ, List.map_append]
  simp [List.getD_eq_getElem?_getD, h]
def wrdsB (ws : List ByteArray) : Bool := (List.range ws.length).all fun i => wrdB i (ws.getD i ⟨#[]⟩)
theorem wrds_no {ws : List ByteArray} {k : Nat} (h : k < ws.length) (hb : wrdB k ws[k] = false) : wrdsB ws = false := by
  unfold wrdsB
  rw [List.all_eq_false]
  exact ⟨k, List.mem_range.2 h, by simp [List.getD_eq_getElem?_getD, h, hb]⟩
theorem min_four (k : Nat) : (if (k : Int) < 4 then (k : Int) else 4) = ((min k 4 : Nat) : Int) := by split <;> omega
theorem frm_min (k : Nat) : frmI (min k 4) = frmI k := by
  unfold frmI
  by_cases h : k ≤ 4
  · rw [Nat.min_eq_left h]
  · rw [Nat.min_eq_right (by omega), if_neg (by decide), if_neg (by decide), if_neg (by omega), if_neg (by omega)]
end Go.Proofs.YthdafpbmmfelpaaGreatDoor
