/-
  No cell of these rows narrows 'for every input' (looked for: loops, veiled, ifaces, maps, wideKeys, modest, calm, conditions, laid).
  DERIVED. THE GIVEN ROWS OF THIS SEAT. 7 by the template 'for every input the law returns true; each argument reads behind the call as it read before'; 0 by the template 'total and deterministic' (their statements: YteofbbakegcohaaTotals.lean).
  GIVEN WITH THE SEED: the statements are not yours to turn. If you find one false, say at which input.
  Laid BY PROGRAM, IN A SANDBOX (cutbox-rows.mjs): the forced cells as the released guide's own fill.sh prints them over the translation 0e15f2efe2cb599b… (all of the seat's roots in one cut). By AI agents, Wed Nov 11 2026. No macro, syntax, notation, axiom, sorry.
-/
import Derived.Test.YteofbbakegcohaaChecked
import GoSem.Claim
import GoSem.ClaimJoined
import GoSem.ClaimMapViews
import Derived.JoinedTies
import Derived.KernelRfl
namespace Go.Proofs.Yteofbbakegcohaa
/- THE CELL 'sum', in the pinned program and in every row, IS THE sha256 OF THE DUMP (.gsa) THAT YteofbbakegcohaaProg.lean LOADS. Nothing in Lean hashes anything: it is a label: what it is worth is what the hold of that sum in a sandbox is worth. -/
noncomputable def Try.pinned : Pinned := { name := "yteofbbakegcohaa", sum := "0e15f2efe2cb599b44d3b921809c3041eeef8bb98fcb1c75f963b3b5bbe33e47", checked := Try.checked }
namespace Rows
def none {H : Type} : Left H := { results := [], args := [] }

/-- 'stirruplaw08.DigraphOrders': WHATEVER THE INPUT: true; the input reads as it did. -/
def digraphOrdersSpec : ChangeSpec := { name := "digraphOrders", fn := fun _ => fun
  | [d1, d2, d3] => { results := [.lit (.bool true)], args := [d1, d2, d3] }
  | _ => none }
def digraphOrdersRow : OpenClaim := { program := "yteofbbakegcohaa", sum := "0e15f2efe2cb599b44d3b921809c3041eeef8bb98fcb1c75f963b3b5bbe33e47", func := "stirrup/stirruplaw08.DigraphOrders", spec := "digraphOrders", unfollowed := true, recurses := true, apart := false }
def DigraphOrdersSaid : Prop := digraphOrdersRow.holds Try.pinned (OpenSpec.ofChange digraphOrdersSpec)

/-- ITS FALSE NEIGHBOUR: 'it returns false'. Refute it at one input. -/
def digraphOrdersWrong : ChangeSpec := { name := "digraphOrders", fn := fun _ => fun
  | [d1, d2, d3] => { results := [.lit (.bool false)], args := [d1, d2, d3] }
  | _ => none }
def DigraphOrdersWrongFalsely : Prop := digraphOrdersRow.holds Try.pinned (OpenSpec.ofChange digraphOrdersWrong)

/-- 'stirruplaw08.DigraphLongest': WHATEVER THE INPUT: true; the input reads as it did. -/
def digraphLongestSpec : ChangeSpec := { name := "digraphLongest", fn := fun _ => fun
  | [d1, d2, d3] => { results := [.lit (.bool true)], args := [d1, d2, d3] }
  | _ => none }
def digraphLongestRow : OpenClaim := { program := "yteofbbakegcohaa", sum := "0e15f2efe2cb599b44d3b921809c3041eeef8bb98fcb1c75f963b3b5bbe33e47", func := "stirrup/stirruplaw08.DigraphLongest", spec := "digraphLongest", unfollowed := true, recurses := true, apart := false }
def DigraphLongestSaid : Prop := digraphLongestRow.holds Try.pinned (OpenSpec.ofChange digraphLongestSpec)

/-- ITS FALSE NEIGHBOUR: 'it returns false'. Refute it at one input. -/
def digraphLongestWrong : ChangeSpec := { name := "digraphLongest", fn := fun _ => fun
  | [d1, d2, d3] => { results := [.lit (.bool false)], args := [d1, d2, d3] }
  | _ => none }
def DigraphLongestWrongFalsely : Prop := digraphLongestRow.holds Try.pinned (OpenSpec.ofChange digraphLongestWrong)

/-- 'stirruplaw08.DigraphPaths': WHATEVER THE INPUT: true; the input reads as it did. -/
def digraphPathsSpec : ChangeSpec := { name := "digraphPaths", fn := fun _ => fun
  | [d1, d2, d3, d4, d5, d6, d7] => { results := [.lit (.bool true)], args := [d1, d2, d3, d4, d5, d6, d7] }
  | _ => none }
def digraphPathsRow : OpenClaim := { program := "yteofbbakegcohaa", sum := "0e15f2efe2cb599b44d3b921809c3041eeef8bb98fcb1c75f963b3b5bbe33e47", func := "stirrup/stirruplaw08.DigraphPaths", spec := "digraphPaths", unfollowed := true, recurses := true, apart := false }
def DigraphPathsSaid : Prop := digraphPathsRow.holds Try.pinned (OpenSpec.ofChange digraphPathsSpec)

/-- ITS FALSE NEIGHBOUR: 'it returns false'. Refute it at one input. -/
def digraphPathsWrong : ChangeSpec := { name := "digraphPaths", fn := fun _ => fun
  | [d1, d2, d3, d4, d5, d6, d7] => { results := [.lit (.bool false)], args := [d1, d2, d3, d4, d5, d6, d7] }
  | _ => none }
def DigraphPathsWrongFalsely : Prop := digraphPathsRow.holds Try.pinned (OpenSpec.ofChange digraphPathsWrong)

/-- 'stirruplaw08.DigraphEither': WHATEVER THE INPUT: true; the input reads as it did. -/
def digraphEitherSpec : ChangeSpec := { name := "digraphEither", fn := fun _ => fun
  | [d1, d2] => { results := [.lit (.bool true)], args := [d1, d2] }
  | _ => none }
def digraphEitherRow : OpenClaim := { program := "yteofbbakegcohaa", sum := "0e15f2efe2cb599b44d3b921809c3041eeef8bb98fcb1c75f963b3b5bbe33e47", func := "stirrup/stirruplaw08.DigraphEither", spec := "digraphEither", unfollowed := true, recurses := true, apart := false }
def DigraphEitherSaid : Prop := digraphEitherRow.holds Try.pinned (OpenSpec.ofChange digraphEitherSpec)

/-- ITS FALSE NEIGHBOUR: 'it returns false'. Refute it at one input. -/
def digraphEitherWrong : ChangeSpec := { name := "digraphEither", fn := fun _ => fun
  | [d1, d2] => { results := [.lit (.bool false)], args := [d1, d2] }
  | _ => none }
def DigraphEitherWrongFalsely : Prop := digraphEitherRow.holds Try.pinned (OpenSpec.ofChange digraphEitherWrong)

/-- 'stirruplaw08.DigraphParts': WHATEVER THE INPUT: true; the input reads as it did. -/
def digraphPartsSpec : ChangeSpec := { name := "digraphParts", fn := fun _ => fun
  | [d1, d2, d3] => { results := [.lit (.bool true)], args := [d1, d2, d3] }
  | _ => none }
def digraphPartsRow : OpenClaim := { program := "yteofbbakegcohaa", sum := "0e15f2efe2cb599b44d3b921809c3041eeef8bb98fcb1c75f963b3b5bbe33e47", func := "stirrup/stirruplaw08.DigraphParts", spec := "digraphParts", unfollowed := true, recurses := true, apart := false }
def DigraphPartsSaid : Prop := digraphPartsRow.holds Try.pinned (OpenSpec.ofChange digraphPartsSpec)

/-- ITS FALSE NEIGHBOUR: 'it returns false'. Refute it at one input. -/
def digraphPartsWrong : ChangeSpec := { name := "digraphParts", fn := fun _ => fun
  | [d1, d2, d3] => { results := [.lit (.bool false)], args := [d1, d2, d3] }
  | _ => none }
def DigraphPartsWrongFalsely : Prop := digraphPartsRow.holds Try.pinned (OpenSpec.ofChange digraphPartsWrong)

/-- 'stirruplaw08.DigraphReaches': WHATEVER THE INPUT: true; the input reads as it did. -/
def digraphReachesSpec : ChangeSpec := { name := "digraphReaches", fn := fun _ => fun
  | [d1, d2] => { results := [.lit (.bool true)], args := [d1, d2] }
  | _ => none }
def digraphReachesRow : OpenClaim := { program := "yteofbbakegcohaa", sum := "0e15f2efe2cb599b44d3b921809c3041eeef8bb98fcb1c75f963b3b5bbe33e47", func := "stirrup/stirruplaw08.DigraphReaches", spec := "digraphReaches", unfollowed := true, recurses := true, apart := false }
def DigraphReachesSaid : Prop := digraphReachesRow.holds Try.pinned (OpenSpec.ofChange digraphReachesSpec)

/-- ITS FALSE NEIGHBOUR: 'it returns false'. Refute it at one input. -/
def digraphReachesWrong : ChangeSpec := { name := "digraphReaches", fn := fun _ => fun
  | [d1, d2] => { results := [.lit (.bool false)], args := [d1, d2] }
  | _ => none }
def DigraphReachesWrongFalsely : Prop := digraphReachesRow.holds Try.pinned (OpenSpec.ofChange digraphReachesWrong)

/-- 'stirruplaw08.DigraphTurned': WHATEVER THE INPUT: true; the input reads as it did. -/
def digraphTurnedSpec : ChangeSpec := { name := "digraphTurned", fn := fun _ => fun
  | [d1, d2, d3] => { results := [.lit (.bool true)], args := [d1, d2, d3] }
  | _ => none }
def digraphTurnedRow : OpenClaim := { program := "yteofbbakegcohaa", sum := "0e15f2efe2cb599b44d3b921809c3041eeef8bb98fcb1c75f963b3b5bbe33e47", func := "stirrup/stirruplaw08.DigraphTurned", spec := "digraphTurned", unfollowed := true, recurses := true, apart := false }
def DigraphTurnedSaid : Prop := digraphTurnedRow.holds Try.pinned (OpenSpec.ofChange digraphTurnedSpec)

/-- ITS FALSE NEIGHBOUR: 'it returns false'. Refute it at one input. -/
def digraphTurnedWrong : ChangeSpec := { name := "digraphTurned", fn := fun _ => fun
  | [d1, d2, d3] => { results := [.lit (.bool false)], args := [d1, d2, d3] }
  | _ => none }
def DigraphTurnedWrongFalsely : Prop := digraphTurnedRow.holds Try.pinned (OpenSpec.ofChange digraphTurnedWrong)

/- THE SECOND FORM. 'bulk': how many values and letters a reading holds, each counted each time it is reached (what is shared counts as often as it is met; a slice's spare places count too). A statement '..UptoSaid' is the law's where the arguments, and the package variables that the reading takes, are together of bulk at most 1048576: NARROWER than '..Said'. Prove '..Said' where nothing that the law and all that it calls make is longer than what came in: it says more and counts as full. Else prove '..UptoSaid'. A law counts once. -/
mutual
def uptoBulk {H : Type} : DataW H → Nat
  | .lit (.string bytes) => bytes.length + 1
  | .lit _ => 1
  | .nil => 1
  | .ptr d => uptoBulk d + 1
  | .slice elems spare => uptoBulkAll elems + uptoBulkAll spare + 1
  | .agg parts => uptoBulkAll parts + 1
  | .iface _ d => uptoBulk d + 1
  | .map entries => uptoBulkEntries entries + 1
  | .held _ => 1
def uptoBulkAll {H : Type} : List (DataW H) → Nat
  | [] => 0
  | d :: r => uptoBulk d + uptoBulkAll r
def uptoBulkEntries {H : Type} : List (Lit × DataW H) → Nat
  | [] => 0
  | x :: r => uptoBulkEntry x + uptoBulkEntries r
def uptoBulkEntry {H : Type} : Lit × DataW H → Nat
  | (.string bytes, d) => bytes.length + uptoBulk d + 1
  | (_, d) => uptoBulk d + 1
 end
def uptoSmall : (H : Type) → List (DataW H) → Bool := fun _ ds => decide (uptoBulkAll ds ≤ 1048576)
def OpenSpec.upto (s : _root_.Go.ChangeSpec) : _root_.Go.OpenSpec := { _root_.Go.OpenSpec.ofChange s with cond := some uptoSmall }

/-- 'stirruplaw08.DigraphOrders', WHERE WHAT IT READS IS OF BULK AT MOST 1048576: true; the input reads as it did. -/
def digraphOrdersUptoRow : OpenClaim := { program := "yteofbbakegcohaa", sum := "0e15f2efe2cb599b44d3b921809c3041eeef8bb98fcb1c75f963b3b5bbe33e47", func := "stirrup/stirruplaw08.DigraphOrders", spec := "digraphOrders", unfollowed := true, recurses := true, apart := false, narrowed := true }
def DigraphOrdersUptoSaid : Prop := digraphOrdersUptoRow.holds Try.pinned (OpenSpec.upto digraphOrdersSpec)

/-- 'stirruplaw08.DigraphLongest', WHERE WHAT IT READS IS OF BULK AT MOST 1048576: true; the input reads as it did. -/
def digraphLongestUptoRow : OpenClaim := { program := "yteofbbakegcohaa", sum := "0e15f2efe2cb599b44d3b921809c3041eeef8bb98fcb1c75f963b3b5bbe33e47", func := "stirrup/stirruplaw08.DigraphLongest", spec := "digraphLongest", unfollowed := true, recurses := true, apart := false, narrowed := true }
def DigraphLongestUptoSaid : Prop := digraphLongestUptoRow.holds Try.pinned (OpenSpec.upto digraphLongestSpec)

/-- 'stirruplaw08.DigraphPaths', WHERE WHAT IT READS IS OF BULK AT MOST 1048576: true; the input reads as it did. -/
def digraphPathsUptoRow : OpenClaim := { program := "yteofbbakegcohaa", sum := "0e15f2efe2cb599b44d3b921809c3041eeef8bb98fcb1c75f963b3b5bbe33e47", func := "stirrup/stirruplaw08.DigraphPaths", spec := "digraphPaths", unfollowed := true, recurses := true, apart := false, narrowed := true }
def DigraphPathsUptoSaid : Prop := digraphPathsUptoRow.holds Try.pinned (OpenSpec.upto digraphPathsSpec)

/-- 'stirruplaw08.DigraphEither', WHERE WHAT IT READS IS OF BULK AT MOST 1048576: true; the input reads as it did. -/
def digraphEitherUptoRow : OpenClaim := { program := "yteofbbakegcohaa", sum := "0e15f2efe2cb599b44d3b921809c3041eeef8bb98fcb1c75f963b3b5bbe33e47", func := "stirrup/stirruplaw08.DigraphEither", spec := "digraphEither", unfollowed := true, recurses := true, apart := false, narrowed := true }
def DigraphEitherUptoSaid : Prop := digraphEitherUptoRow.holds Try.pinned (OpenSpec.upto digraphEitherSpec)

/-- 'stirruplaw08.DigraphParts', WHERE WHAT IT READS IS OF BULK AT MOST 1048576: true; the input reads as it did. -/
def digraphPartsUptoRow : OpenClaim := { program := "yteofbbakegcohaa", sum := "0e15f2efe2cb599b44d3b921809c3041eeef8bb98fcb1c75f963b3b5bbe33e47", func := "stirrup/stirruplaw08.DigraphParts", spec := "digraphParts", unfollowed := true, recurses := true, apart := false, narrowed := true }
def DigraphPartsUptoSaid : Prop := digraphPartsUptoRow.holds Try.pinned (OpenSpec.upto digraphPartsSpec)

/-- 'stirruplaw08.DigraphReaches', WHERE WHAT IT READS IS OF BULK AT MOST 1048576: true; the input reads as it did. -/
def digraphReachesUptoRow : OpenClaim := { program := "yteofbbakegcohaa", sum := "0e15f2efe2cb599b44d3b921809c3041eeef8bb98fcb1c75f963b3b5bbe33e47", func := "stirrup/stirruplaw08.DigraphReaches", spec := "digraphReaches", unfollowed := true, recurses := true, apart := false, narrowed := true }
def DigraphReachesUptoSaid : Prop := digraphReachesUptoRow.holds Try.pinned (OpenSpec.upto digraphReachesSpec)

/-- 'stirruplaw08.DigraphTurned', WHERE WHAT IT READS IS OF BULK AT MOST 1048576: true; the input reads as it did. -/
def digraphTurnedUptoRow : OpenClaim := { program := "yteofbbakegcohaa", sum := "0e15f2efe2cb599b44d3b921809c3041eeef8bb98fcb1c75f963b3b5bbe33e47", func := "stirrup/stirruplaw08.DigraphTurned", spec := "digraphTurned", unfollowed := true, recurses := true, apart := false, narrowed := true }
def DigraphTurnedUptoSaid : Prop := digraphTurnedUptoRow.holds Try.pinned (OpenSpec.upto digraphTurnedSpec)

end Rows
end Go.Proofs.Yteofbbakegcohaa
