/-
  No cell of these rows narrows 'for every input' (looked for: loops, veiled, ifaces, maps, wideKeys, modest, calm, conditions, laid).
  DERIVED. THE GIVEN ROWS OF THIS SEAT. 5 by the template 'for every input the law returns true; each argument reads behind the call as it read before'; 0 by the template 'total and deterministic' (their statements: YtfkcogocaecodaaTotals.lean).
  GIVEN WITH THE SEED: the statements are not yours to turn. If you find one false, say at which input.
  Laid BY PROGRAM, IN A SANDBOX (cutbox-rows.mjs): the forced cells as the released guide's own fill.sh prints them over the translation 73d586e8ea778b3d… (all of the seat's roots in one cut). By AI agents, Wed Nov 11 2026. No macro, syntax, notation, axiom, sorry.
-/
import Derived.Test.YtfkcogocaecodaaChecked
import GoSem.Claim
import GoSem.ClaimJoined
import GoSem.ClaimMapViews
import Derived.JoinedTies
import Derived.KernelRfl
namespace Go.Proofs.Ytfkcogocaecodaa
/- THE CELL 'sum', in the pinned program and in every row, IS THE sha256 OF THE DUMP (.gsa) THAT YtfkcogocaecodaaProg.lean LOADS. Nothing in Lean hashes anything: it is a label: what it is worth is what the hold of that sum in a sandbox is worth. -/
noncomputable def Try.pinned : Pinned := { name := "ytfkcogocaecodaa", sum := "73d586e8ea778b3d9e70ec130b37351c7f6a0b03924ea0b9044d79511f7039ad", checked := Try.checked }
namespace Rows
def none {H : Type} : Left H := { results := [], args := [] }

/-- 'stirruplaw16.LaidMoves': WHATEVER THE INPUT: true; the input reads as it did. -/
def laidMovesSpec : ChangeSpec := { name := "laidMoves", fn := fun _ => fun
  | [d1, d2] => { results := [.lit (.bool true)], args := [d1, d2] }
  | _ => none }
def laidMovesRow : OpenClaim := { program := "ytfkcogocaecodaa", sum := "73d586e8ea778b3d9e70ec130b37351c7f6a0b03924ea0b9044d79511f7039ad", func := "stirrup/stirruplaw16.LaidMoves", spec := "laidMoves", inPlace := ["internal/bytealg.IndexByteString"], unfollowed := true, recurses := true, apart := false }
def LaidMovesSaid : Prop := laidMovesRow.holds Try.pinned (OpenSpec.ofChange laidMovesSpec)

/-- ITS FALSE NEIGHBOUR: 'it returns false'. Refute it at one input. -/
def laidMovesWrong : ChangeSpec := { name := "laidMoves", fn := fun _ => fun
  | [d1, d2] => { results := [.lit (.bool false)], args := [d1, d2] }
  | _ => none }
def LaidMovesWrongFalsely : Prop := laidMovesRow.holds Try.pinned (OpenSpec.ofChange laidMovesWrong)

/-- 'stirruplaw16.LaidLengths': WHATEVER THE INPUT: true; the input reads as it did. -/
def laidLengthsSpec : ChangeSpec := { name := "laidLengths", fn := fun _ => fun
  | [d1, d2, d3] => { results := [.lit (.bool true)], args := [d1, d2, d3] }
  | _ => none }
def laidLengthsRow : OpenClaim := { program := "ytfkcogocaecodaa", sum := "73d586e8ea778b3d9e70ec130b37351c7f6a0b03924ea0b9044d79511f7039ad", func := "stirrup/stirruplaw16.LaidLengths", spec := "laidLengths", inPlace := ["internal/bytealg.IndexByteString"], unfollowed := true, recurses := true, apart := false }
def LaidLengthsSaid : Prop := laidLengthsRow.holds Try.pinned (OpenSpec.ofChange laidLengthsSpec)

/-- ITS FALSE NEIGHBOUR: 'it returns false'. Refute it at one input. -/
def laidLengthsWrong : ChangeSpec := { name := "laidLengths", fn := fun _ => fun
  | [d1, d2, d3] => { results := [.lit (.bool false)], args := [d1, d2, d3] }
  | _ => none }
def LaidLengthsWrongFalsely : Prop := laidLengthsRow.holds Try.pinned (OpenSpec.ofChange laidLengthsWrong)

/-- 'stirruplaw16.LaidSteps': WHATEVER THE INPUT: true; the input reads as it did. -/
def laidStepsSpec : ChangeSpec := { name := "laidSteps", fn := fun _ => fun
  | [d1, d2, d3, d4] => { results := [.lit (.bool true)], args := [d1, d2, d3, d4] }
  | _ => none }
def laidStepsRow : OpenClaim := { program := "ytfkcogocaecodaa", sum := "73d586e8ea778b3d9e70ec130b37351c7f6a0b03924ea0b9044d79511f7039ad", func := "stirrup/stirruplaw16.LaidSteps", spec := "laidSteps", inPlace := ["internal/bytealg.IndexByteString"], unfollowed := true, recurses := true, apart := false }
def LaidStepsSaid : Prop := laidStepsRow.holds Try.pinned (OpenSpec.ofChange laidStepsSpec)

/-- ITS FALSE NEIGHBOUR: 'it returns false'. Refute it at one input. -/
def laidStepsWrong : ChangeSpec := { name := "laidSteps", fn := fun _ => fun
  | [d1, d2, d3, d4] => { results := [.lit (.bool false)], args := [d1, d2, d3, d4] }
  | _ => none }
def LaidStepsWrongFalsely : Prop := laidStepsRow.holds Try.pinned (OpenSpec.ofChange laidStepsWrong)

/-- 'stirruplaw16.LaidSingles': WHATEVER THE INPUT: true; the input reads as it did. -/
def laidSinglesSpec : ChangeSpec := { name := "laidSingles", fn := fun _ => fun
  | [d1, d2] => { results := [.lit (.bool true)], args := [d1, d2] }
  | _ => none }
def laidSinglesRow : OpenClaim := { program := "ytfkcogocaecodaa", sum := "73d586e8ea778b3d9e70ec130b37351c7f6a0b03924ea0b9044d79511f7039ad", func := "stirrup/stirruplaw16.LaidSingles", spec := "laidSingles", inPlace := ["internal/bytealg.IndexByteString"], unfollowed := true, recurses := true, apart := false }
def LaidSinglesSaid : Prop := laidSinglesRow.holds Try.pinned (OpenSpec.ofChange laidSinglesSpec)

/-- ITS FALSE NEIGHBOUR: 'it returns false'. Refute it at one input. -/
def laidSinglesWrong : ChangeSpec := { name := "laidSingles", fn := fun _ => fun
  | [d1, d2] => { results := [.lit (.bool false)], args := [d1, d2] }
  | _ => none }
def LaidSinglesWrongFalsely : Prop := laidSinglesRow.holds Try.pinned (OpenSpec.ofChange laidSinglesWrong)

/-- 'stirruplaw16.LaidBalances': WHATEVER THE INPUT: true; the input reads as it did. -/
def laidBalancesSpec : ChangeSpec := { name := "laidBalances", fn := fun _ => fun
  | [d1, d2] => { results := [.lit (.bool true)], args := [d1, d2] }
  | _ => none }
def laidBalancesRow : OpenClaim := { program := "ytfkcogocaecodaa", sum := "73d586e8ea778b3d9e70ec130b37351c7f6a0b03924ea0b9044d79511f7039ad", func := "stirrup/stirruplaw16.LaidBalances", spec := "laidBalances", inPlace := ["internal/bytealg.IndexByteString"], unfollowed := true, recurses := true, apart := false }
def LaidBalancesSaid : Prop := laidBalancesRow.holds Try.pinned (OpenSpec.ofChange laidBalancesSpec)

/-- ITS FALSE NEIGHBOUR: 'it returns false'. Refute it at one input. -/
def laidBalancesWrong : ChangeSpec := { name := "laidBalances", fn := fun _ => fun
  | [d1, d2] => { results := [.lit (.bool false)], args := [d1, d2] }
  | _ => none }
def LaidBalancesWrongFalsely : Prop := laidBalancesRow.holds Try.pinned (OpenSpec.ofChange laidBalancesWrong)

/- THE SECOND FORM. 'bulk': how many values and letters a reading holds, each counted each time it is reached (what is shared counts as often as it is met; a slice's spare places count too). A statement '..UptoSaid' is the law's where the arguments, and the package variables that the reading takes, are together of bulk at most 1048576: NARROWER than '..Said'. Prove '..Said' where nothing that the law and all that it calls make is longer than what came in: it says more and counts as full. Else prove '..UptoSaid'. A law counts once. -/
mutual
def uptoBulk {H : Type} : DataW H → Nat
  | .lit (.string bytes) => bytes.length + 1
  | .lit _ => 1
  | .nil => 1
  | .ptr d => uptoBulk d + 1
  | .slice elems spare => uptoBulkAll elems + uptoBulkAll spare + 1
  | .agg parts => uptoBulkAll parts + 1
  | .iface _ d => uptoBulk d + 1
  | .map entries => uptoBulkEntries entries + 1
  | .held _ => 1
def uptoBulkAll {H : Type} : List (DataW H) → Nat
  | [] => 0
  | d :: r => uptoBulk d + uptoBulkAll r
def uptoBulkEntries {H : Type} : List (Lit × DataW H) → Nat
  | [] => 0
  | x :: r => uptoBulkEntry x + uptoBulkEntries r
def uptoBulkEntry {H : Type} : Lit × DataW H → Nat
  | (.string bytes, d) => bytes.length + uptoBulk d + 1
  | (_, d) => uptoBulk d + 1
 end
def uptoSmall : (H : Type) → List (DataW H) → Bool := fun _ ds => decide (uptoBulkAll ds ≤ 1048576)
def OpenSpec.upto (s : _root_.Go.ChangeSpec) : _root_.Go.OpenSpec := { _root_.Go.OpenSpec.ofChange s with cond := some uptoSmall }

/-- 'stirruplaw16.LaidMoves', WHERE WHAT IT READS IS OF BULK AT MOST 1048576: true; the input reads as it did. -/
def laidMovesUptoRow : OpenClaim := { program := "ytfkcogocaecodaa", sum := "73d586e8ea778b3d9e70ec130b37351c7f6a0b03924ea0b9044d79511f7039ad", func := "stirrup/stirruplaw16.LaidMoves", spec := "laidMoves", inPlace := ["internal/bytealg.IndexByteString"], unfollowed := true, recurses := true, apart := false, narrowed := true }
def LaidMovesUptoSaid : Prop := laidMovesUptoRow.holds Try.pinned (OpenSpec.upto laidMovesSpec)

/-- 'stirruplaw16.LaidLengths', WHERE WHAT IT READS IS OF BULK AT MOST 1048576: true; the input reads as it did. -/
def laidLengthsUptoRow : OpenClaim := { program := "ytfkcogocaecodaa", sum := "73d586e8ea778b3d9e70ec130b37351c7f6a0b03924ea0b9044d79511f7039ad", func := "stirrup/stirruplaw16.LaidLengths", spec := "laidLengths", inPlace := ["internal/bytealg.IndexByteString"], unfollowed := true, recurses := true, apart := false, narrowed := true }
def LaidLengthsUptoSaid : Prop := laidLengthsUptoRow.holds Try.pinned (OpenSpec.upto laidLengthsSpec)

/-- 'stirruplaw16.LaidSteps', WHERE WHAT IT READS IS OF BULK AT MOST 1048576: true; the input reads as it did. -/
def laidStepsUptoRow : OpenClaim := { program := "ytfkcogocaecodaa", sum := "73d586e8ea778b3d9e70ec130b37351c7f6a0b03924ea0b9044d79511f7039ad", func := "stirrup/stirruplaw16.LaidSteps", spec := "laidSteps", inPlace := ["internal/bytealg.IndexByteString"], unfollowed := true, recurses := true, apart := false, narrowed := true }
def LaidStepsUptoSaid : Prop := laidStepsUptoRow.holds Try.pinned (OpenSpec.upto laidStepsSpec)

/-- 'stirruplaw16.LaidSingles', WHERE WHAT IT READS IS OF BULK AT MOST 1048576: true; the input reads as it did. -/
def laidSinglesUptoRow : OpenClaim := { program := "ytfkcogocaecodaa", sum := "73d586e8ea778b3d9e70ec130b37351c7f6a0b03924ea0b9044d79511f7039ad", func := "stirrup/stirruplaw16.LaidSingles", spec := "laidSingles", inPlace := ["internal/bytealg.IndexByteString"], unfollowed := true, recurses := true, apart := false, narrowed := true }
def LaidSinglesUptoSaid : Prop := laidSinglesUptoRow.holds Try.pinned (OpenSpec.upto laidSinglesSpec)

/-- 'stirruplaw16.LaidBalances', WHERE WHAT IT READS IS OF BULK AT MOST 1048576: true; the input reads as it did. -/
def laidBalancesUptoRow : OpenClaim := { program := "ytfkcogocaecodaa", sum := "73d586e8ea778b3d9e70ec130b37351c7f6a0b03924ea0b9044d79511f7039ad", func := "stirrup/stirruplaw16.LaidBalances", spec := "laidBalances", inPlace := ["internal/bytealg.IndexByteString"], unfollowed := true, recurses := true, apart := false, narrowed := true }
def LaidBalancesUptoSaid : Prop := laidBalancesUptoRow.holds Try.pinned (OpenSpec.upto laidBalancesSpec)

end Rows
end Go.Proofs.Ytfkcogocaecodaa
