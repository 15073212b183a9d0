/- Contracts of the numbers of two words: times, order, plus, sign, modulo, over. -/
import Derived.Test.YtplepbaafamjfaaAr
import Derived.Test.YtplepbaafamjfaaDv
import Derived.Shelf.Spec.BitsCarry
namespace Go.Proofs.Ytplepbaafamjfaa
open Go.ChangeShapes Go.WideShapes Go.ChangeAt Go.RowKit Go.Shelf
set_option linter.unusedVariables false

def mI (a b : Int) : Int := a * b
def aI (a b : Int) : Int := a + b
/-- The parts of a number of two words: its sign, and the words of its absolute value. -/
def wS (x : Int) : Bool := decide (x < 0)
def wH (x : Int) : Int := ab x / 18446744073709551616
def wL (x : Int) : Int := ab x % 18446744073709551616
/-- Numbers whose absolute values have 2 to the 126 at most. -/
def Sm (x : Int) : Prop := ab x ≤ 85070591730234615865843651857942052864
theorem wH_b {x : Int} (h : Sm x) : 0 ≤ wH x ∧ wH x ≤ 4611686018427387904 := by unfold Sm at h; have := ab_nn x; unfold wH; omega
theorem wL_b (x : Int) : 0 ≤ wL x ∧ wL x ≤ 18446744073709551615 := by have := ab_nn x; unfold wL; omega
theorem wHL (x : Int) : wH x * 18446744073709551616 + wL x = ab x := by unfold wH wL; omega

def add_ren : Ren := ⟨fun | 25 => 66 | n => n, fun | 22 => 56 | n => n, fun n => n⟩
def sub_ren : Ren := ⟨fun | 26 => 68 | n => n, fun | 22 => 56 | n => n, fun n => n⟩
def cmpI (x y : Int) : Int := if x < y then -1 else if y < x then 1 else 0
def orI (a b : Int) : Int := if a = 0 then b else a
end Go.Proofs.Ytplepbaafamjfaa
