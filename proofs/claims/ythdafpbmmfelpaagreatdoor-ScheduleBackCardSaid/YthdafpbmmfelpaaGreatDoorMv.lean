/- Points; moved. -/
import Derived.Test.YthdafpbmmfelpaaGreatDoorLg
import Derived.Test.YthdafpbmmfelpaaGreatDoorRw
namespace Go.Proofs.YthdafpbmmfelpaaGreatDoor
open Go.ChangeShapes Go.WideShapes Go.ChangeAt Go.RowKit
set_option linter.unusedVariables false
set_option linter.unusedSimpArgs false

structure Pt where
  x : Int
  y : Int
  z : Int
deriving DecidableEq
def Pt.val (p : Pt) : Value := .agg #[.int .i64 p.x, .int .i64 p.y, .int .i64 p.z]
def pc (p : Pt) : List Value := [.int .i64 p.x, .int .i64 p.y, .int .i64 p.z]
theorem pl (p : Pt) : (pc p).length = 3 := rfl
def Pt.bd (p : Pt) (L : Int) : Prop := (-L ≤ p.x ∧ p.x ≤ L) ∧ (-L ≤ p.y ∧ p.y ≤ L) ∧ (-L ≤ p.z ∧ p.z ≤ L)
def mv (p : Pt) (c n : Int) : Pt :=
  if c = 88 then ⟨p.x + n, p.y, p.z⟩ else if c = 120 then ⟨p.x - n, p.y, p.z⟩ else if c = 89 then ⟨p.x, p.y + n, p.z⟩
  else if c = 121 then ⟨p.x, p.y - n, p.z⟩ else if c = 90 then ⟨p.x, p.y, p.z + n⟩ else p
theorem mv_bd {p : Pt} {c n L : Int} (h : p.bd L) (h0 : 0 ≤ n) : (mv p c n).bd (L + n) := by
  obtain ⟨⟨a, b⟩, ⟨d, e⟩, f, g⟩ := h
  unfold mv Pt.bd
  repeat' split
  all_goals ((try dsimp only); omega)
end Go.Proofs.YthdafpbmmfelpaaGreatDoor
