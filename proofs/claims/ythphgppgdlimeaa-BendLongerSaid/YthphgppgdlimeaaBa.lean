/- Codes: directions, dimensions, how many; fit; points. -/
import Derived.Test.YthphgppgdlimeaaEn
namespace Go.Proofs.Ythphgppgdlimeaa
open Go.ChangeShapes Go.WideShapes Go.ChangeAt Go.RowKit
set_option linter.unusedVariables false
set_option linter.unusedSimpArgs false

def dirS (c : Int) : List UInt8 :=
  if c = 0 then [88] else if c = 11 then [88, 89] else if c = 21 then [121, 88, 89] else if c = 26 then [88, 89, 88]
  else if c = 31 then [88, 89, 90] else if c = 41 then [88, 89, 88, 121, 88] else if c = 51 then [121, 88, 89, 120, 121, 88]
  else if c = 98 then [90, 121, 88, 89, 90] else []
def ixb (c : Int) : List Nat := if c = 51 then [2, 0, 1, 0, 1, 2] else if c = 98 then [0, 1, 2, 1, 0] else [0, 1, 2, 3, 4]
def ndim (c : Int) : Nat :=
  if c = 0 then 1 else if c = 11 then 2 else if c = 21 then 3 else if c = 26 then 3
  else if c = 31 then 3 else if c = 41 then 5 else if c = 51 then 3
  else if c = 98 then 3 else 0
def nl (c : Int) : Nat := (dirS c).length
def mc (c : Int) : Nat := (ixb c).length
def isC (c : Int) : Bool := !(dirS c).isEmpty
def ixf (c : Int) (j : Nat) : Int := ((ixb c).getD j 0 : Nat)
theorem code_in {c : Int} (h : isC c = true) : c = 0 ∨ c = 11 ∨ c = 21 ∨ c = 26 ∨ c = 31 ∨ c = 41 ∨ c = 51 ∨ c = 98 := by
  unfold isC dirS at h
  repeat' split at h
  all_goals first | omega | simp at h
theorem code_no {c : Int} (h : isC c = false) : c ≠ 0 ∧ c ≠ 11 ∧ c ≠ 21 ∧ c ≠ 26 ∧ c ≠ 31 ∧ c ≠ 41 ∧ c ≠ 51 ∧ c ≠ 98 := by
  unfold isC dirS at h
  repeat' split at h
  all_goals first | (simp at h; done) | simp [*]
theorem dirS_no {c : Int} (h : isC c = false) : dirS c = [] := by
  unfold isC at h; simpa using h
theorem ndim_no {c : Int} (h : isC c = false) : ndim c = 0 := by
  obtain ⟨h0, h1, h2, h3, h4, h5, h6, h7⟩ := code_no h
  simp [ndim, h0, h1, h2, h3, h4, h5, h6, h7]
theorem nl_mc {c : Int} (h : isC c = true) : nl c ≤ mc c := by
  rcases code_in h with rfl | rfl | rfl | rfl | rfl | rfl | rfl | rfl <;> decide
theorem nl_le {c : Int} (h : isC c = true) : nl c ≤ 6 := by
  rcases code_in h with rfl | rfl | rfl | rfl | rfl | rfl | rfl | rfl <;> decide
theorem nl_pos {c : Int} (h : isC c = true) : 0 < nl c := by
  rcases code_in h with rfl | rfl | rfl | rfl | rfl | rfl | rfl | rfl <;> decide
theorem ndim_pos {c : Int} (h : isC c = true) : 0 < ndim c := by
  rcases code_in h with rfl | rfl | rfl | rfl | rfl | rfl | rfl | rfl <;> decide
theorem ndim_le (c : Int) : ndim c ≤ 5 := by
  unfold ndim; repeat' split
  all_goals omega
theorem ndim_zero {c : Int} : ndim c = 0 ↔ isC c = false := by
  constructor
  · intro h
    cases k : isC c
    · rfl
    · have := ndim_pos k; omega
  · exact ndim_no
theorem ix_lt {c : Int} (h : isC c = true) {j : Nat} (hj : j < nl c) : (ixb c).getD j 0 < ndim c := by
  rcases code_in h with rfl | rfl | rfl | rfl | rfl | rfl | rfl | rfl <;>
  · have hj' : j < 6 := Nat.lt_of_lt_of_le hj (nl_le h)
    revert hj
    rcases (by omega : j = 0 ∨ j = 1 ∨ j = 2 ∨ j = 3 ∨ j = 4 ∨ j = 5) with rfl | rfl | rfl | rfl | rfl | rfl <;> decide

set_option maxRecDepth 100000 in
theorem dir_any (c : Int) (w : World) : Calls Try.prog 66 #[.int .i64 c] w fun e w' => e = .returned (.string ⟨(dirS c).toArray⟩) ∧ w = w' := by
  cases h : isC c
  · rw [dirS_no h]
    obtain ⟨h0, h1, h2, h3, h4, h5, h6, h7⟩ := code_no h
    have n0 := beq_eq_false_iff_ne.2 h0
    have n1 := beq_eq_false_iff_ne.2 h1
    have n2 := beq_eq_false_iff_ne.2 h2
    have n3 := beq_eq_false_iff_ne.2 h3
    have n4 := beq_eq_false_iff_ne.2 h4
    have n5 := beq_eq_false_iff_ne.2 h5
    have n6 := beq_eq_false_iff_ne.2 h6
    have n7 := beq_eq_false_iff_ne.2 h7
    clear h
    go_enter Try.func66, Try.ntmps66
    go_wp2
    go_ret
    exact ⟨rfl, rfl⟩
  · rcases code_in h with rfl | rfl | rfl | rfl | rfl | rfl | rfl | rfl
    all_goals (
      clear h
      go_enter Try.func66, Try.ntmps66
      go_wp2
      go_ret
      exact ⟨rfl, rfl⟩)
set_option maxRecDepth 100000 in
theorem rdims_any (c : Int) (w : World) : Calls Try.prog 51 #[.int .i64 c] w fun e w' => e = .returned (.int .i64 (ndim c : Nat)) ∧ w = w' := by
  cases h : isC c
  · rw [ndim_no h]
    obtain ⟨h0, h1, h2, h3, h4, h5, h6, h7⟩ := code_no h
    have n0 := beq_eq_false_iff_ne.2 h0
    have n1 := beq_eq_false_iff_ne.2 h1
    have n2 := beq_eq_false_iff_ne.2 h2
    have n3 := beq_eq_false_iff_ne.2 h3
    have n4 := beq_eq_false_iff_ne.2 h4
    have n5 := beq_eq_false_iff_ne.2 h5
    have n6 := beq_eq_false_iff_ne.2 h6
    have n7 := beq_eq_false_iff_ne.2 h7
    clear h
    go_enter Try.func51, Try.ntmps51
    go_wp2
    go_ret
    exact ⟨rfl, rfl⟩
  · rcases code_in h with rfl | rfl | rfl | rfl | rfl | rfl | rfl | rfl
    all_goals (
      clear h
      go_enter Try.func51, Try.ntmps51
      go_wp2
      go_ret
      exact ⟨rfl, rfl⟩)
set_option maxRecDepth 100000 in
theorem dims_any {c : Int} (h : isC c = true) (w : World) : Calls Try.prog 54 #[.int .i64 c] w fun e w' =>
    ∃ g, e = .returned (.slice (some ⟨g, 0, none⟩) (nl c) (mc c)) ∧ Row w' g (mc c) (ixf c) ∧ Below w.heap.size w w' ∧ w.heap.size ≤ g := by
  have hd := fun W => dir_any c W
  rcases code_in h with rfl | rfl | rfl | rfl | rfl | rfl | rfl | rfl
  all_goals (
    clear h
    unfold dirS at hd
    simp at hd
    go_enter Try.func54, Try.ntmps54
    go_wp2_with (go_at_call 66; (with_reducible refine (hd _).mono ?_); rintro e w1 ⟨rfl, rfl⟩)
    go_ret
    exact ⟨w.heap.size, rfl, Has.new_ w 3 _, al1 w _, Nat.le_refl _⟩)
end Go.Proofs.Ythphgppgdlimeaa
