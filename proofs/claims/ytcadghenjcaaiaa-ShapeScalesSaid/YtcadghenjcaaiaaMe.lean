/- Meet, in terms of boxes; Grown. -/
import Derived.Test.YtcadghenjcaaiaaLi
import Derived.Test.YtcadghenjcaaiaaCh
namespace Go.Proofs.Ytcadghenjcaaiaa
open Go.ChangeShapes Go.WideShapes Go.ChangeAt Go.RowKit
set_option linter.unusedVariables false
set_option linter.unusedSimpArgs false

def zB : Bx := ⟨0, 0, 0, 0, 0, 0⟩
def meetB (x y : Bx) : Bx := ⟨mx x.a y.a, mx x.b y.b, mx x.c y.c, mn x.d y.d, mn x.e y.e, mn x.f y.f⟩
def hullB (x y : Bx) : Bx := ⟨mn x.a y.a, mn x.b y.b, mn x.c y.c, mx x.d y.d, mx x.e y.e, mx x.f y.f⟩
def growB (x : Bx) (n : Int) : Bx := ⟨x.a - n, x.b - n, x.c - n, x.d + n, x.e + n, x.f + n⟩
end Go.Proofs.Ytcadghenjcaaiaa
