/- The chapter's example: what is reckoned. -/
import Derived.Test.YteofbbakegcohaaLq
namespace Go.Proofs.Yteofbbakegcohaa
open Go.ChangeShapes Go.WideShapes Go.ChangeAt Go.RowKit
set_option linter.unusedVariables false
set_option linter.unusedSimpArgs false


def xl : List (Nat × Nat) := [(0, 2), (2, 1)]
def yl : List (Nat × Nat) := [(0, 2), (2, 1), (1, 0)]
def xA (v : Nat) : List Nat := if v = 0 then [2] else if v = 2 then [1] else []
def yA (v : Nat) : List Nat := if v = 0 then [2] else if v = 2 then [1] else if v = 1 then [0] else []
theorem srt_one (x : Nat) : srt [x] = [x] := by unfold srt; simp
theorem srt_nil : srt [] = [] := by unfold srt; simp
theorem adj_x : adj xl = xA := by
  funext v
  unfold adj nbl xl xA
  by_cases h0 : v = 0
  · subst h0; exact srt_one 2
  · by_cases h2 : v = 2
    · subst h2; exact srt_one 1
    · have e : [((0 : Nat), (2 : Nat)), (2, 1)].filter (fun e => e.1 == v) = [] := by simp; omega
      rw [e, if_neg h0, if_neg h2]; exact srt_nil
theorem adj_y : adj yl = yA := by
  funext v
  unfold adj nbl yl yA
  by_cases h0 : v = 0
  · subst h0; exact srt_one 2
  · by_cases h2 : v = 2
    · subst h2; exact srt_one 1
    · by_cases h1 : v = 1
      · subst h1; exact srt_one 0
      · have e : [((0 : Nat), (2 : Nat)), (2, 1), (1, 0)].filter (fun e => e.1 == v) = [] := by simp; omega
        rw [e, if_neg h0, if_neg h2, if_neg h1]; exact srt_nil
theorem ex_ord : ordr (adj xl) 3 3 [] = some [0, 2, 1] := by rw [adj_x]; decide
theorem ex_lgE : lgE xl 3 [5, 1, 0] = 0 := by
  unfold lgE
  rw [ex_ord]
  decide
theorem ex_lgA : lgA xl 3 [5, 1, 0] = (6, [0, 2, 1]) := by
  unfold lgA
  rw [adj_x]
  decide
theorem srt_three : srt [0, 2, 1] = [0, 1, 2] := by
  unfold srt
  have h1 : ([0, 2, 1] : List Nat).mergeSort (fun x y => decide (x ≤ y)) = [0, 1, 2] := by
    simp [List.mergeSort, List.MergeSort.Internal.splitInTwo, List.merge]
  exact h1
theorem ex_prt : (tall 3 (adj yl) 3).prt = [[0, 1, 2]] := by
  rw [adj_y]
  have h : (tall 3 yA 3).prt = [srt [0, 2, 1]] := by rfl
  rw [h, srt_three]
theorem ex_lpl : lpl (adj yl) 3 0 = [0, 2, 1] := by
  rw [adj_y]; decide
theorem ex_lh : Lh (adj yl) 3 0 (dst (adj yl) 3 0) := by
  rw [adj_y]
  refine ⟨by decide, by decide, by decide, ?_⟩
  intro v hv
  have : v = 0 ∨ v = 1 ∨ v = 2 := by omega
  rcases this with rfl | rfl | rfl
  · intro h; exact absurd rfl h
  · intro _ _; decide
  · intro _ _; decide
theorem ex_pso {ls : List (List Nat)} (h : Pso 3 (adj yl) ls) : ls = [[0, 1, 2]] := by
  have := h.1
  rw [ex_prt] at this
  exact List.perm_singleton.1 this
end Go.Proofs.Yteofbbakegcohaa
