/- SpanInside: what its statements keep. -/
import Derived.Test.YtplepbaafamjfaaV19
namespace Go.Proofs.Ytplepbaafamjfaa
open Go.ChangeShapes Go.WideShapes Go.ChangeAt Go.RowKit
set_option linter.unusedVariables false
set_option linter.unusedSimpArgs false

theorem two_k {w0 w : World} {a b c d : Int} {g k : Nat} (h : Env w0 w [⟨g, 23, a, b⟩, ⟨k, 23, c, d⟩]) : w.cell? ⟨k, 0, none⟩ = some (.int .i64 c) ∧ w.cell? ⟨k, 1, none⟩ = some (.int .i64 d) ∧ w.cell? ⟨g, 0, none⟩ = some (.int .i64 a) ∧ w.cell? ⟨g, 1, none⟩ = some (.int .i64 b) ∧ Env w0 w [⟨g, 23, a, b⟩, ⟨k, 23, c, d⟩] :=
  ⟨h.cells.2.1.1, h.cells.2.1.2.1, h.cells.1.1, h.cells.1.2.1, h⟩
def Qen (w0 w : World) (g : Nat) (a b : Int) : Prop := Below w0.heap.size w0 w ∧ Has w g 23 #[.int .i64 a, .int .i64 b]
theorem qen_of {w0 w : World} {g : Nat} {a b : Int} {l : List Fb} (E : Env w0 w (⟨g, 23, a, b⟩ :: l)) : Qen w0 w g a b := ⟨E.1, E.2.1⟩
theorem Qen.next {w0 w w1 : World} {g : Nat} {a b : Int} (h : Qen w0 w g a b) (hb : Below w.heap.size w w1) : Qen w0 w1 g a b := ⟨belows h.1 hb, h.2.on hb⟩
theorem Qen.drew {w0 w : World} {g : Nat} {a b : Int} (h : Qen w0 w g a b) : Qen w0 w.drew g a b := h.next (Dr.below' ⟨1, rfl⟩)
theorem Qen.two {w0 w : World} {g : Nat} {a b : Int} (h : Qen w0 w g a b) : w.cell? ⟨g, 0, none⟩ = some (.int .i64 a) ∧ w.cell? ⟨g, 1, none⟩ = some (.int .i64 b) ∧ Qen w0 w g a b := ⟨h.2.read 0, h.2.read 1, h⟩

end Go.Proofs.Ytplepbaafamjfaa
