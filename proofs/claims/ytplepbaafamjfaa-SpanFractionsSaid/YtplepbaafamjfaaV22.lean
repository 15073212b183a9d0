/- SpanFractions: contracts with known results. -/
import Derived.Test.YtplepbaafamjfaaV21
import Derived.Test.YtplepbaafamjfaaRv
namespace Go.Proofs.Ytplepbaafamjfaa
open Go.ChangeShapes Go.WideShapes Go.ChangeAt Go.RowKit
set_option linter.unusedVariables false
set_option linter.unusedSimpArgs false

theorem hRo (n d u x y z : Int) (h : ofR n d u = (x, y, z)) (W : World) (v : V n d) : Calls Try.prog 29 #[.agg #[.int .i64 n, .int .i64 d], .int .i64 u] W fun e w' => e = .returned (.tuple #[.agg #[.int .i64 x, .int .i64 y], .int .i64 z]) ∧ Below W.heap.size W w' := by
  have k := sof_p n d u W (by obtain ⟨_, _, _, _, _⟩ := v; omega) (by obtain ⟨_, _, _, _, _⟩ := v; omega) (by obtain ⟨_, _, _, _, _⟩ := v; omega) (by obtain ⟨_, _, _, _, _⟩ := v; omega); rw [h] at k; exact k
theorem hRt (al ah num den x y z : Int) (h : timesR al ah num den = (x, y, z)) (W : World) : Calls Try.prog 27 #[.agg #[.int .i64 al, .int .i64 ah], .int .i64 num, .int .i64 den] W fun e w' => e = .returned (.tuple #[.agg #[.int .i64 x, .int .i64 y], .int .i64 z]) ∧ Below W.heap.size W w' := by
  have k := stimes_p al ah num den W; rw [h] at k; exact k
theorem kept3 {w0 w : World} {gp gs : Nat} {pn pd lo hi : Int} {l : List Fb} (h : Env w0 w (⟨gp, 35, pn, pd⟩ :: ⟨gs, 23, lo, hi⟩ :: l)) : w.cell? ⟨gs, 0, none⟩ = some (.int .i64 lo) ∧ w.cell? ⟨gs, 1, none⟩ = some (.int .i64 hi) ∧ w.cell? ⟨gp, 1, none⟩ = some (.int .i64 pd) ∧ Env w0 w (⟨gp, 35, pn, pd⟩ :: ⟨gs, 23, lo, hi⟩ :: l) :=
  ⟨h.cells.2.1.1, h.cells.2.1.2.1, h.cells.1.2.1, h⟩
theorem kept1 {w0 w : World} {g : Nat} {a b : Int} {l : List Fb} (h : Env w0 w (⟨g, 23, a, b⟩ :: l)) : w.cell? ⟨g, 0, none⟩ = some (.int .i64 a) ∧ w.cell? ⟨g, 1, none⟩ = some (.int .i64 b) ∧ Env w0 w (⟨g, 23, a, b⟩ :: l) :=
  ⟨h.cells.1.1, h.cells.1.2.1, h⟩

end Go.Proofs.Ytplepbaafamjfaa
