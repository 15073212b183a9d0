/- How a pair of sides ends up in memory, whatever comes first. -/
import Derived.Test.YtcadghenjcaaiaaEn
namespace Go.Proofs.Ytcadghenjcaaiaa
open Go.ChangeShapes Go.WideShapes Go.ChangeAt Go.RowKit
set_option linter.unusedVariables false
set_option linter.unusedSimpArgs false

section
variable {w W : World} {l : List Fb} {A B : Array Value} {g k : Nat} {t : TypeId} {z0 z1 z2 z3 z4 z5 y0 y1 y2 y3 y4 y5 u0 u1 u2 u3 u4 u5 v0 v1 v2 v3 v4 v5 : Value}
theorem tw1 (E : Env w W l) : Env w ((W.alloc (.cells A t)).alloc (.cells B t)) (⟨W.heap.size + 1, t, B⟩ :: ⟨W.heap.size, t, A⟩ :: l) := (E.add _ t A rfl).add _ t B (sz1 rfl)
theorem tw2 (E : Env w W l) : Env w ((W.alloc (.cells B t)).alloc (.cells A t)) (⟨W.heap.size, t, B⟩ :: ⟨W.heap.size + 1, t, A⟩ :: l) := ((E.add _ t B rfl).add _ t A (sz1 rfl)).swap
theorem tw3 (E : Env w W (⟨g, t, #[z0, z1, z2, z3, z4, z5]⟩ :: l)) : Env w (((((((W.setCell ⟨g, 0, none⟩ u0).setCell ⟨g, 1, none⟩ u1).setCell ⟨g, 2, none⟩ u2).setCell ⟨g, 3, none⟩ u3).setCell ⟨g, 4, none⟩ u4).setCell ⟨g, 5, none⟩ u5).alloc (.cells B t)) (⟨W.heap.size, t, B⟩ :: ⟨g, t, #[u0, u1, u2, u3, u4, u5]⟩ :: l) := by
  have h := (E.six (u0 := u0) (u1 := u1) (u2 := u2) (u3 := u3) (u4 := u4) (u5 := u5) 0 rfl).add W.heap.size t B (by simp [numB])
  exact h
theorem tw4 (E : Env w W (⟨k, t, #[z0, z1, z2, z3, z4, z5]⟩ :: l)) : Env w (((((((W.setCell ⟨k, 0, none⟩ u0).setCell ⟨k, 1, none⟩ u1).setCell ⟨k, 2, none⟩ u2).setCell ⟨k, 3, none⟩ u3).setCell ⟨k, 4, none⟩ u4).setCell ⟨k, 5, none⟩ u5).alloc (.cells A t)) (⟨k, t, #[u0, u1, u2, u3, u4, u5]⟩ :: ⟨W.heap.size, t, A⟩ :: l) := (tw3 E).swap
theorem tw5 (E : Env w W (⟨k, t, #[z0, z1, z2, z3, z4, z5]⟩ :: l)) : Env w (((((((W.alloc (.cells A t)).setCell ⟨k, 0, none⟩ u0).setCell ⟨k, 1, none⟩ u1).setCell ⟨k, 2, none⟩ u2).setCell ⟨k, 3, none⟩ u3).setCell ⟨k, 4, none⟩ u4).setCell ⟨k, 5, none⟩ u5) (⟨k, t, #[u0, u1, u2, u3, u4, u5]⟩ :: ⟨W.heap.size, t, A⟩ :: l) := by
  have h := (E.add W.heap.size t A rfl).swap.six (u0 := u0) (u1 := u1) (u2 := u2) (u3 := u3) (u4 := u4) (u5 := u5) 0 rfl
  exact h
theorem tw6 (E : Env w W (⟨g, t, #[z0, z1, z2, z3, z4, z5]⟩ :: ⟨k, t, #[y0, y1, y2, y3, y4, y5]⟩ :: l)) : Env w ((((((((((((W.setCell ⟨g, 0, none⟩ u0).setCell ⟨g, 1, none⟩ u1).setCell ⟨g, 2, none⟩ u2).setCell ⟨g, 3, none⟩ u3).setCell ⟨g, 4, none⟩ u4).setCell ⟨g, 5, none⟩ u5).setCell ⟨k, 0, none⟩ v0).setCell ⟨k, 1, none⟩ v1).setCell ⟨k, 2, none⟩ v2).setCell ⟨k, 3, none⟩ v3).setCell ⟨k, 4, none⟩ v4).setCell ⟨k, 5, none⟩ v5) (⟨k, t, #[v0, v1, v2, v3, v4, v5]⟩ :: ⟨g, t, #[u0, u1, u2, u3, u4, u5]⟩ :: l) := by
  have h := ((E.six (u0 := u0) (u1 := u1) (u2 := u2) (u3 := u3) (u4 := u4) (u5 := u5) 0 rfl).six (u0 := v0) (u1 := v1) (u2 := v2) (u3 := v3) (u4 := v4) (u5 := v5) 1 rfl).swap
  exact h
theorem tw7 (E : Env w W (⟨k, t, #[y0, y1, y2, y3, y4, y5]⟩ :: ⟨g, t, #[z0, z1, z2, z3, z4, z5]⟩ :: l)) : Env w ((((((((((((W.setCell ⟨g, 0, none⟩ u0).setCell ⟨g, 1, none⟩ u1).setCell ⟨g, 2, none⟩ u2).setCell ⟨g, 3, none⟩ u3).setCell ⟨g, 4, none⟩ u4).setCell ⟨g, 5, none⟩ u5).setCell ⟨k, 0, none⟩ v0).setCell ⟨k, 1, none⟩ v1).setCell ⟨k, 2, none⟩ v2).setCell ⟨k, 3, none⟩ v3).setCell ⟨k, 4, none⟩ v4).setCell ⟨k, 5, none⟩ v5) (⟨k, t, #[v0, v1, v2, v3, v4, v5]⟩ :: ⟨g, t, #[u0, u1, u2, u3, u4, u5]⟩ :: l) := tw6 E.swap
end
end Go.Proofs.Ytcadghenjcaaiaa
