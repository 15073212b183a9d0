/- The reference's Parse: what its parts return. -/
import Derived.Test.YtkabmmpldanmcaaPar2
import Derived.Test.YtkabmmpldanmcaaTk1
namespace Go.Proofs.Ytkabmmpldanmcaa
open Go.ChangeShapes Go.WideShapes Go.ChangeAt Go.RowKit
set_option linter.unusedVariables false

def R7 (w : World) (e : Ending) (w' : World) : Prop := e = .returned (.tuple #[.int .i64 0, .int .i64 7]) ∧ w = w'
/-- The value's end: a number, with its sign, or ErrBig. -/
def vres (mn : Bool) : Option Nat → Int × Int
  | none => (0, 5)
  | some n => (if mn = true then -(n : Int) else n, 0)
def RV (mn : Bool) (o : Option Nat) (w : World) (e : Ending) (w' : World) : Prop := e = .returned (.tuple #[.int .i64 (vres mn o).1, .int .i64 (vres mn o).2]) ∧ w = w'

theorem size_add1 (y : ByteArray) : (y ++ ⟨#[48]⟩).size = y.size + 1 := by rw [ByteArray.size_append]; rfl
theorem pad_step {y : ByteArray} {P : List UInt8} {c : Nat} (h : y.data.toList = P ++ List.replicate c 48) : Hid ((y ++ ⟨#[48]⟩).data.toList = P ++ List.replicate (c + 1) 48) := by
  show (y ++ ⟨#[48]⟩).data.toList = _
  rw [cat_data, h, List.replicate_succ', List.append_assoc]

theorem rp_empty (s : ByteArray) (k : Nat) (w : World) (hs : s.size = 0) (hk : k ≤ 9) : Calls Try.prog 15 #[.string s, .int .i64 k] w (R7 w) := by
  have h1 : ¬ (0 : Int) < s.size := by omega
  have h2 : s = ⟨#[]⟩ := by
    obtain ⟨⟨l⟩⟩ := s
    have : l.length = 0 := hs
    rw [List.length_eq_zero_iff.1 this]
  subst h2
  clear h1 hs
  go_enter Try.func15, Try.ntmps15
  go_wp2
  go_loop [6] (fun v => v = .int .i64 0) (fun _ => 0)
  case atStart => rfl
  case round =>
    subst hrel
    go_wp2
    go_loop [11] (fun v => v = .int .i64 0) (fun _ => 0)
    case atStart => rfl
    case round =>
      subst hrel
      go_wp2
      go_ret2
      exact ⟨rfl, rfl⟩
end Go.Proofs.Ytkabmmpldanmcaa
