/-
  No cell of these rows narrows 'for every input' (looked for: loops, veiled, ifaces, maps, wideKeys, modest, calm, conditions, laid).
  DERIVED. THE GIVEN ROWS OF THIS SEAT. 7 by the template 'for every input the law returns true; each argument reads behind the call as it read before'; 0 by the template 'total and deterministic' (their statements: YthphgppgdlimeaaTotals.lean).
  GIVEN WITH THE SEED: the statements are not yours to turn. If you find one false, say at which input.
  Laid BY PROGRAM, IN A SANDBOX (cutbox-rows.mjs): the forced cells as the released guide's own fill.sh prints them over the translation 3a372aca6c2d36cd… (all of the seat's roots in one cut). By AI agents, Wed Nov 11 2026. No macro, syntax, notation, axiom, sorry.
-/
import Derived.Test.YthphgppgdlimeaaChecked
import GoSem.Claim
import GoSem.ClaimJoined
import GoSem.ClaimMapViews
import Derived.JoinedTies
import Derived.KernelRfl
namespace Go.Proofs.Ythphgppgdlimeaa
/- THE CELL 'sum', in the pinned program and in every row, IS THE sha256 OF THE DUMP (.gsa) THAT YthphgppgdlimeaaProg.lean LOADS. Nothing in Lean hashes anything: it is a label: what it is worth is what the hold of that sum in a sandbox is worth. -/
noncomputable def Try.pinned : Pinned := { name := "ythphgppgdlimeaa", sum := "3a372aca6c2d36cd8be9f55987623ed8f6b641560fd8d7a5d8184e523ab8dafc", checked := Try.checked }
namespace Rows
def none {H : Type} : Left H := { results := [], args := [] }

/-- 'stirruplaw13.BendArcs': WHATEVER THE INPUT: true; the input reads as it did. -/
def bendArcsSpec : ChangeSpec := { name := "bendArcs", fn := fun _ => fun
  | [d] => { results := [.lit (.bool true)], args := [d] }
  | _ => none }
def bendArcsRow : OpenClaim := { program := "ythphgppgdlimeaa", sum := "3a372aca6c2d36cd8be9f55987623ed8f6b641560fd8d7a5d8184e523ab8dafc", func := "stirrup/stirruplaw13.BendArcs", spec := "bendArcs", inPlace := ["internal/bytealg.IndexByteString"], unfollowed := true, recurses := true, apart := false }
def BendArcsSaid : Prop := bendArcsRow.holds Try.pinned (OpenSpec.ofChange bendArcsSpec)

/-- ITS FALSE NEIGHBOUR: 'it returns false'. Refute it at one input. -/
def bendArcsWrong : ChangeSpec := { name := "bendArcs", fn := fun _ => fun
  | [d] => { results := [.lit (.bool false)], args := [d] }
  | _ => none }
def BendArcsWrongFalsely : Prop := bendArcsRow.holds Try.pinned (OpenSpec.ofChange bendArcsWrong)

/-- 'stirruplaw13.BendLengths': WHATEVER THE INPUT: true; the input reads as it did. -/
def bendLengthsSpec : ChangeSpec := { name := "bendLengths", fn := fun _ => fun
  | [d] => { results := [.lit (.bool true)], args := [d] }
  | _ => none }
def bendLengthsRow : OpenClaim := { program := "ythphgppgdlimeaa", sum := "3a372aca6c2d36cd8be9f55987623ed8f6b641560fd8d7a5d8184e523ab8dafc", func := "stirrup/stirruplaw13.BendLengths", spec := "bendLengths", inPlace := ["internal/bytealg.IndexByteString"], unfollowed := true, recurses := true, apart := false }
def BendLengthsSaid : Prop := bendLengthsRow.holds Try.pinned (OpenSpec.ofChange bendLengthsSpec)

/-- ITS FALSE NEIGHBOUR: 'it returns false'. Refute it at one input. -/
def bendLengthsWrong : ChangeSpec := { name := "bendLengths", fn := fun _ => fun
  | [d] => { results := [.lit (.bool false)], args := [d] }
  | _ => none }
def BendLengthsWrongFalsely : Prop := bendLengthsRow.holds Try.pinned (OpenSpec.ofChange bendLengthsWrong)

/-- 'stirruplaw13.BendChecks': WHATEVER THE INPUT: true; the input reads as it did. -/
def bendChecksSpec : ChangeSpec := { name := "bendChecks", fn := fun _ => fun
  | [d] => { results := [.lit (.bool true)], args := [d] }
  | _ => none }
def bendChecksRow : OpenClaim := { program := "ythphgppgdlimeaa", sum := "3a372aca6c2d36cd8be9f55987623ed8f6b641560fd8d7a5d8184e523ab8dafc", func := "stirrup/stirruplaw13.BendChecks", spec := "bendChecks", inPlace := ["internal/bytealg.IndexByteString"], unfollowed := true, recurses := true, apart := false }
def BendChecksSaid : Prop := bendChecksRow.holds Try.pinned (OpenSpec.ofChange bendChecksSpec)

/-- ITS FALSE NEIGHBOUR: 'it returns false'. Refute it at one input. -/
def bendChecksWrong : ChangeSpec := { name := "bendChecks", fn := fun _ => fun
  | [d] => { results := [.lit (.bool false)], args := [d] }
  | _ => none }
def BendChecksWrongFalsely : Prop := bendChecksRow.holds Try.pinned (OpenSpec.ofChange bendChecksWrong)

/-- 'stirruplaw13.BendSpans': WHATEVER THE INPUT: true; the input reads as it did. -/
def bendSpansSpec : ChangeSpec := { name := "bendSpans", fn := fun _ => fun
  | [d] => { results := [.lit (.bool true)], args := [d] }
  | _ => none }
def bendSpansRow : OpenClaim := { program := "ythphgppgdlimeaa", sum := "3a372aca6c2d36cd8be9f55987623ed8f6b641560fd8d7a5d8184e523ab8dafc", func := "stirrup/stirruplaw13.BendSpans", spec := "bendSpans", inPlace := ["internal/bytealg.IndexByteString"], unfollowed := true, recurses := true, apart := false }
def BendSpansSaid : Prop := bendSpansRow.holds Try.pinned (OpenSpec.ofChange bendSpansSpec)

/-- ITS FALSE NEIGHBOUR: 'it returns false'. Refute it at one input. -/
def bendSpansWrong : ChangeSpec := { name := "bendSpans", fn := fun _ => fun
  | [d] => { results := [.lit (.bool false)], args := [d] }
  | _ => none }
def BendSpansWrongFalsely : Prop := bendSpansRow.holds Try.pinned (OpenSpec.ofChange bendSpansWrong)

/-- 'stirruplaw13.BendCuts': WHATEVER THE INPUT: true; the input reads as it did. -/
def bendCutsSpec : ChangeSpec := { name := "bendCuts", fn := fun _ => fun
  | [d] => { results := [.lit (.bool true)], args := [d] }
  | _ => none }
def bendCutsRow : OpenClaim := { program := "ythphgppgdlimeaa", sum := "3a372aca6c2d36cd8be9f55987623ed8f6b641560fd8d7a5d8184e523ab8dafc", func := "stirrup/stirruplaw13.BendCuts", spec := "bendCuts", inPlace := ["internal/bytealg.IndexByteString"], unfollowed := true, recurses := true, apart := false }
def BendCutsSaid : Prop := bendCutsRow.holds Try.pinned (OpenSpec.ofChange bendCutsSpec)

/-- ITS FALSE NEIGHBOUR: 'it returns false'. Refute it at one input. -/
def bendCutsWrong : ChangeSpec := { name := "bendCuts", fn := fun _ => fun
  | [d] => { results := [.lit (.bool false)], args := [d] }
  | _ => none }
def BendCutsWrongFalsely : Prop := bendCutsRow.holds Try.pinned (OpenSpec.ofChange bendCutsWrong)

/-- 'stirruplaw13.BendLonger': WHATEVER THE INPUT: true; the input reads as it did. -/
def bendLongerSpec : ChangeSpec := { name := "bendLonger", fn := fun _ => fun
  | [d1, d2, d3] => { results := [.lit (.bool true)], args := [d1, d2, d3] }
  | _ => none }
def bendLongerRow : OpenClaim := { program := "ythphgppgdlimeaa", sum := "3a372aca6c2d36cd8be9f55987623ed8f6b641560fd8d7a5d8184e523ab8dafc", func := "stirrup/stirruplaw13.BendLonger", spec := "bendLonger", inPlace := ["internal/bytealg.IndexByteString"], unfollowed := true, recurses := true, apart := false }
def BendLongerSaid : Prop := bendLongerRow.holds Try.pinned (OpenSpec.ofChange bendLongerSpec)

/-- ITS FALSE NEIGHBOUR: 'it returns false'. Refute it at one input. -/
def bendLongerWrong : ChangeSpec := { name := "bendLonger", fn := fun _ => fun
  | [d1, d2, d3] => { results := [.lit (.bool false)], args := [d1, d2, d3] }
  | _ => none }
def BendLongerWrongFalsely : Prop := bendLongerRow.holds Try.pinned (OpenSpec.ofChange bendLongerWrong)

/-- 'stirruplaw13.BendFindings': WHATEVER THE INPUT: true; the input reads as it did. -/
def bendFindingsSpec : ChangeSpec := { name := "bendFindings", fn := fun _ => fun
  | [d] => { results := [.lit (.bool true)], args := [d] }
  | _ => none }
def bendFindingsRow : OpenClaim := { program := "ythphgppgdlimeaa", sum := "3a372aca6c2d36cd8be9f55987623ed8f6b641560fd8d7a5d8184e523ab8dafc", func := "stirrup/stirruplaw13.BendFindings", spec := "bendFindings", inPlace := ["internal/bytealg.IndexByteString"], unfollowed := true, recurses := true, apart := false }
def BendFindingsSaid : Prop := bendFindingsRow.holds Try.pinned (OpenSpec.ofChange bendFindingsSpec)

/-- ITS FALSE NEIGHBOUR: 'it returns false'. Refute it at one input. -/
def bendFindingsWrong : ChangeSpec := { name := "bendFindings", fn := fun _ => fun
  | [d] => { results := [.lit (.bool false)], args := [d] }
  | _ => none }
def BendFindingsWrongFalsely : Prop := bendFindingsRow.holds Try.pinned (OpenSpec.ofChange bendFindingsWrong)

/- THE SECOND FORM. 'bulk': how many values and letters a reading holds, each counted each time it is reached (what is shared counts as often as it is met; a slice's spare places count too). A statement '..UptoSaid' is the law's where the arguments, and the package variables that the reading takes, are together of bulk at most 1048576: NARROWER than '..Said'. Prove '..Said' where nothing that the law and all that it calls make is longer than what came in: it says more and counts as full. Else prove '..UptoSaid'. A law counts once. -/
mutual
def uptoBulk {H : Type} : DataW H → Nat
  | .lit (.string bytes) => bytes.length + 1
  | .lit _ => 1
  | .nil => 1
  | .ptr d => uptoBulk d + 1
  | .slice elems spare => uptoBulkAll elems + uptoBulkAll spare + 1
  | .agg parts => uptoBulkAll parts + 1
  | .iface _ d => uptoBulk d + 1
  | .map entries => uptoBulkEntries entries + 1
  | .held _ => 1
def uptoBulkAll {H : Type} : List (DataW H) → Nat
  | [] => 0
  | d :: r => uptoBulk d + uptoBulkAll r
def uptoBulkEntries {H : Type} : List (Lit × DataW H) → Nat
  | [] => 0
  | x :: r => uptoBulkEntry x + uptoBulkEntries r
def uptoBulkEntry {H : Type} : Lit × DataW H → Nat
  | (.string bytes, d) => bytes.length + uptoBulk d + 1
  | (_, d) => uptoBulk d + 1
 end
def uptoSmall : (H : Type) → List (DataW H) → Bool := fun _ ds => decide (uptoBulkAll ds ≤ 1048576)
def OpenSpec.upto (s : _root_.Go.ChangeSpec) : _root_.Go.OpenSpec := { _root_.Go.OpenSpec.ofChange s with cond := some uptoSmall }

/-- 'stirruplaw13.BendArcs', WHERE WHAT IT READS IS OF BULK AT MOST 1048576: true; the input reads as it did. -/
def bendArcsUptoRow : OpenClaim := { program := "ythphgppgdlimeaa", sum := "3a372aca6c2d36cd8be9f55987623ed8f6b641560fd8d7a5d8184e523ab8dafc", func := "stirrup/stirruplaw13.BendArcs", spec := "bendArcs", inPlace := ["internal/bytealg.IndexByteString"], unfollowed := true, recurses := true, apart := false, narrowed := true }
def BendArcsUptoSaid : Prop := bendArcsUptoRow.holds Try.pinned (OpenSpec.upto bendArcsSpec)

/-- 'stirruplaw13.BendLengths', WHERE WHAT IT READS IS OF BULK AT MOST 1048576: true; the input reads as it did. -/
def bendLengthsUptoRow : OpenClaim := { program := "ythphgppgdlimeaa", sum := "3a372aca6c2d36cd8be9f55987623ed8f6b641560fd8d7a5d8184e523ab8dafc", func := "stirrup/stirruplaw13.BendLengths", spec := "bendLengths", inPlace := ["internal/bytealg.IndexByteString"], unfollowed := true, recurses := true, apart := false, narrowed := true }
def BendLengthsUptoSaid : Prop := bendLengthsUptoRow.holds Try.pinned (OpenSpec.upto bendLengthsSpec)

/-- 'stirruplaw13.BendChecks', WHERE WHAT IT READS IS OF BULK AT MOST 1048576: true; the input reads as it did. -/
def bendChecksUptoRow : OpenClaim := { program := "ythphgppgdlimeaa", sum := "3a372aca6c2d36cd8be9f55987623ed8f6b641560fd8d7a5d8184e523ab8dafc", func := "stirrup/stirruplaw13.BendChecks", spec := "bendChecks", inPlace := ["internal/bytealg.IndexByteString"], unfollowed := true, recurses := true, apart := false, narrowed := true }
def BendChecksUptoSaid : Prop := bendChecksUptoRow.holds Try.pinned (OpenSpec.upto bendChecksSpec)

/-- 'stirruplaw13.BendSpans', WHERE WHAT IT READS IS OF BULK AT MOST 1048576: true; the input reads as it did. -/
def bendSpansUptoRow : OpenClaim := { program := "ythphgppgdlimeaa", sum := "3a372aca6c2d36cd8be9f55987623ed8f6b641560fd8d7a5d8184e523ab8dafc", func := "stirrup/stirruplaw13.BendSpans", spec := "bendSpans", inPlace := ["internal/bytealg.IndexByteString"], unfollowed := true, recurses := true, apart := false, narrowed := true }
def BendSpansUptoSaid : Prop := bendSpansUptoRow.holds Try.pinned (OpenSpec.upto bendSpansSpec)

/-- 'stirruplaw13.BendCuts', WHERE WHAT IT READS IS OF BULK AT MOST 1048576: true; the input reads as it did. -/
def bendCutsUptoRow : OpenClaim := { program := "ythphgppgdlimeaa", sum := "3a372aca6c2d36cd8be9f55987623ed8f6b641560fd8d7a5d8184e523ab8dafc", func := "stirrup/stirruplaw13.BendCuts", spec := "bendCuts", inPlace := ["internal/bytealg.IndexByteString"], unfollowed := true, recurses := true, apart := false, narrowed := true }
def BendCutsUptoSaid : Prop := bendCutsUptoRow.holds Try.pinned (OpenSpec.upto bendCutsSpec)

/-- 'stirruplaw13.BendLonger', WHERE WHAT IT READS IS OF BULK AT MOST 1048576: true; the input reads as it did. -/
def bendLongerUptoRow : OpenClaim := { program := "ythphgppgdlimeaa", sum := "3a372aca6c2d36cd8be9f55987623ed8f6b641560fd8d7a5d8184e523ab8dafc", func := "stirrup/stirruplaw13.BendLonger", spec := "bendLonger", inPlace := ["internal/bytealg.IndexByteString"], unfollowed := true, recurses := true, apart := false, narrowed := true }
def BendLongerUptoSaid : Prop := bendLongerUptoRow.holds Try.pinned (OpenSpec.upto bendLongerSpec)

/-- 'stirruplaw13.BendFindings', WHERE WHAT IT READS IS OF BULK AT MOST 1048576: true; the input reads as it did. -/
def bendFindingsUptoRow : OpenClaim := { program := "ythphgppgdlimeaa", sum := "3a372aca6c2d36cd8be9f55987623ed8f6b641560fd8d7a5d8184e523ab8dafc", func := "stirrup/stirruplaw13.BendFindings", spec := "bendFindings", inPlace := ["internal/bytealg.IndexByteString"], unfollowed := true, recurses := true, apart := false, narrowed := true }
def BendFindingsUptoSaid : Prop := bendFindingsUptoRow.holds Try.pinned (OpenSpec.upto bendFindingsSpec)

end Rows
end Go.Proofs.Ythphgppgdlimeaa
