/-
  No cell of these rows narrows 'for every input' (looked for: loops, veiled, ifaces, maps, wideKeys, modest, calm, conditions, laid).
  DERIVED. THE GIVEN ROWS OF THIS SEAT. 7 by the template 'for every input the law returns true; each argument reads behind the call as it read before'; 0 by the template 'total and deterministic' (their statements: YteehgkjhdaknmaaTotals.lean).
  GIVEN WITH THE SEED: the statements are not yours to turn. If you find one false, say at which input.
  Laid BY PROGRAM, IN A SANDBOX (cutbox-rows.mjs): the forced cells as the released guide's own fill.sh prints them over the translation c617e33936bc8d94… (all of the seat's roots in one cut). By AI agents, Wed Nov 11 2026. No macro, syntax, notation, axiom, sorry.
-/
import Derived.Test.YteehgkjhdaknmaaChecked
import GoSem.Claim
import GoSem.ClaimJoined
import GoSem.ClaimMapViews
import Derived.JoinedTies
import Derived.KernelRfl
namespace Go.Proofs.Yteehgkjhdaknmaa
/- THE CELL 'sum', in the pinned program and in every row, IS THE sha256 OF THE DUMP (.gsa) THAT YteehgkjhdaknmaaProg.lean LOADS. Nothing in Lean hashes anything: it is a label: what it is worth is what the hold of that sum in a sandbox is worth. -/
noncomputable def Try.pinned : Pinned := { name := "yteehgkjhdaknmaa", sum := "c617e33936bc8d947f78de3c88d7e04abb155ce2591ed2824a5e3db5ccfa04e6", checked := Try.checked }
namespace Rows
def none {H : Type} : Left H := { results := [], args := [] }

/-- 'stirruplaw11.SteelSizes': WHATEVER THE INPUT: true; the input reads as it did. -/
def steelSizesSpec : ChangeSpec := { name := "steelSizes", fn := fun _ => fun
  | [d] => { results := [.lit (.bool true)], args := [d] }
  | _ => none }
def steelSizesRow : OpenClaim := { program := "yteehgkjhdaknmaa", sum := "c617e33936bc8d947f78de3c88d7e04abb155ce2591ed2824a5e3db5ccfa04e6", func := "stirrup/stirruplaw11.SteelSizes", spec := "steelSizes", unfollowed := true, recurses := true, apart := false }
def SteelSizesSaid : Prop := steelSizesRow.holds Try.pinned (OpenSpec.ofChange steelSizesSpec)

/-- ITS FALSE NEIGHBOUR: 'it returns false'. Refute it at one input. -/
def steelSizesWrong : ChangeSpec := { name := "steelSizes", fn := fun _ => fun
  | [d] => { results := [.lit (.bool false)], args := [d] }
  | _ => none }
def SteelSizesWrongFalsely : Prop := steelSizesRow.holds Try.pinned (OpenSpec.ofChange steelSizesWrong)

/-- 'stirruplaw11.SteelMasses': WHATEVER THE INPUT: true; the input reads as it did. -/
def steelMassesSpec : ChangeSpec := { name := "steelMasses", fn := fun _ => fun
  | [d1, d2] => { results := [.lit (.bool true)], args := [d1, d2] }
  | _ => none }
def steelMassesRow : OpenClaim := { program := "yteehgkjhdaknmaa", sum := "c617e33936bc8d947f78de3c88d7e04abb155ce2591ed2824a5e3db5ccfa04e6", func := "stirrup/stirruplaw11.SteelMasses", spec := "steelMasses", unfollowed := true, recurses := true, apart := false }
def SteelMassesSaid : Prop := steelMassesRow.holds Try.pinned (OpenSpec.ofChange steelMassesSpec)

/-- ITS FALSE NEIGHBOUR: 'it returns false'. Refute it at one input. -/
def steelMassesWrong : ChangeSpec := { name := "steelMasses", fn := fun _ => fun
  | [d1, d2] => { results := [.lit (.bool false)], args := [d1, d2] }
  | _ => none }
def SteelMassesWrongFalsely : Prop := steelMassesRow.holds Try.pinned (OpenSpec.ofChange steelMassesWrong)

/-- 'stirruplaw11.SteelLeast': WHATEVER THE INPUT: true; the input reads as it did. -/
def steelLeastSpec : ChangeSpec := { name := "steelLeast", fn := fun _ => fun
  | [d1, d2] => { results := [.lit (.bool true)], args := [d1, d2] }
  | _ => none }
def steelLeastRow : OpenClaim := { program := "yteehgkjhdaknmaa", sum := "c617e33936bc8d947f78de3c88d7e04abb155ce2591ed2824a5e3db5ccfa04e6", func := "stirrup/stirruplaw11.SteelLeast", spec := "steelLeast", unfollowed := true, recurses := true, apart := false }
def SteelLeastSaid : Prop := steelLeastRow.holds Try.pinned (OpenSpec.ofChange steelLeastSpec)

/-- ITS FALSE NEIGHBOUR: 'it returns false'. Refute it at one input. -/
def steelLeastWrong : ChangeSpec := { name := "steelLeast", fn := fun _ => fun
  | [d1, d2] => { results := [.lit (.bool false)], args := [d1, d2] }
  | _ => none }
def SteelLeastWrongFalsely : Prop := steelLeastRow.holds Try.pinned (OpenSpec.ofChange steelLeastWrong)

/-- 'stirruplaw11.SteelGrows': WHATEVER THE INPUT: true; the input reads as it did. -/
def steelGrowsSpec : ChangeSpec := { name := "steelGrows", fn := fun _ => fun
  | [d] => { results := [.lit (.bool true)], args := [d] }
  | _ => none }
def steelGrowsRow : OpenClaim := { program := "yteehgkjhdaknmaa", sum := "c617e33936bc8d947f78de3c88d7e04abb155ce2591ed2824a5e3db5ccfa04e6", func := "stirrup/stirruplaw11.SteelGrows", spec := "steelGrows", unfollowed := true, recurses := true, apart := false }
def SteelGrowsSaid : Prop := steelGrowsRow.holds Try.pinned (OpenSpec.ofChange steelGrowsSpec)

/-- ITS FALSE NEIGHBOUR: 'it returns false'. Refute it at one input. -/
def steelGrowsWrong : ChangeSpec := { name := "steelGrows", fn := fun _ => fun
  | [d] => { results := [.lit (.bool false)], args := [d] }
  | _ => none }
def SteelGrowsWrongFalsely : Prop := steelGrowsRow.holds Try.pinned (OpenSpec.ofChange steelGrowsWrong)

/-- 'stirruplaw11.SteelAdds': WHATEVER THE INPUT: true; the input reads as it did. -/
def steelAddsSpec : ChangeSpec := { name := "steelAdds", fn := fun _ => fun
  | [d1, d2, d3] => { results := [.lit (.bool true)], args := [d1, d2, d3] }
  | _ => none }
def steelAddsRow : OpenClaim := { program := "yteehgkjhdaknmaa", sum := "c617e33936bc8d947f78de3c88d7e04abb155ce2591ed2824a5e3db5ccfa04e6", func := "stirrup/stirruplaw11.SteelAdds", spec := "steelAdds", unfollowed := true, recurses := true, apart := false }
def SteelAddsSaid : Prop := steelAddsRow.holds Try.pinned (OpenSpec.ofChange steelAddsSpec)

/-- ITS FALSE NEIGHBOUR: 'it returns false'. Refute it at one input. -/
def steelAddsWrong : ChangeSpec := { name := "steelAdds", fn := fun _ => fun
  | [d1, d2, d3] => { results := [.lit (.bool false)], args := [d1, d2, d3] }
  | _ => none }
def SteelAddsWrongFalsely : Prop := steelAddsRow.holds Try.pinned (OpenSpec.ofChange steelAddsWrong)

/-- 'stirruplaw11.SteelEnough': WHATEVER THE INPUT: true; the input reads as it did. -/
def steelEnoughSpec : ChangeSpec := { name := "steelEnough", fn := fun _ => fun
  | [d1, d2, d3] => { results := [.lit (.bool true)], args := [d1, d2, d3] }
  | _ => none }
def steelEnoughRow : OpenClaim := { program := "yteehgkjhdaknmaa", sum := "c617e33936bc8d947f78de3c88d7e04abb155ce2591ed2824a5e3db5ccfa04e6", func := "stirrup/stirruplaw11.SteelEnough", spec := "steelEnough", unfollowed := true, recurses := true, apart := false }
def SteelEnoughSaid : Prop := steelEnoughRow.holds Try.pinned (OpenSpec.ofChange steelEnoughSpec)

/-- ITS FALSE NEIGHBOUR: 'it returns false'. Refute it at one input. -/
def steelEnoughWrong : ChangeSpec := { name := "steelEnough", fn := fun _ => fun
  | [d1, d2, d3] => { results := [.lit (.bool false)], args := [d1, d2, d3] }
  | _ => none }
def SteelEnoughWrongFalsely : Prop := steelEnoughRow.holds Try.pinned (OpenSpec.ofChange steelEnoughWrong)

/-- 'stirruplaw11.SteelHalves': WHATEVER THE INPUT: true; the input reads as it did. -/
def steelHalvesSpec : ChangeSpec := { name := "steelHalves", fn := fun _ => fun
  | [d] => { results := [.lit (.bool true)], args := [d] }
  | _ => none }
def steelHalvesRow : OpenClaim := { program := "yteehgkjhdaknmaa", sum := "c617e33936bc8d947f78de3c88d7e04abb155ce2591ed2824a5e3db5ccfa04e6", func := "stirrup/stirruplaw11.SteelHalves", spec := "steelHalves", unfollowed := true, recurses := true, apart := false }
def SteelHalvesSaid : Prop := steelHalvesRow.holds Try.pinned (OpenSpec.ofChange steelHalvesSpec)

/-- ITS FALSE NEIGHBOUR: 'it returns false'. Refute it at one input. -/
def steelHalvesWrong : ChangeSpec := { name := "steelHalves", fn := fun _ => fun
  | [d] => { results := [.lit (.bool false)], args := [d] }
  | _ => none }
def SteelHalvesWrongFalsely : Prop := steelHalvesRow.holds Try.pinned (OpenSpec.ofChange steelHalvesWrong)

/- THE SECOND FORM. 'bulk': how many values and letters a reading holds, each counted each time it is reached (what is shared counts as often as it is met; a slice's spare places count too). A statement '..UptoSaid' is the law's where the arguments, and the package variables that the reading takes, are together of bulk at most 1048576: NARROWER than '..Said'. Prove '..Said' where nothing that the law and all that it calls make is longer than what came in: it says more and counts as full. Else prove '..UptoSaid'. A law counts once. -/
mutual
def uptoBulk {H : Type} : DataW H → Nat
  | .lit (.string bytes) => bytes.length + 1
  | .lit _ => 1
  | .nil => 1
  | .ptr d => uptoBulk d + 1
  | .slice elems spare => uptoBulkAll elems + uptoBulkAll spare + 1
  | .agg parts => uptoBulkAll parts + 1
  | .iface _ d => uptoBulk d + 1
  | .map entries => uptoBulkEntries entries + 1
  | .held _ => 1
def uptoBulkAll {H : Type} : List (DataW H) → Nat
  | [] => 0
  | d :: r => uptoBulk d + uptoBulkAll r
def uptoBulkEntries {H : Type} : List (Lit × DataW H) → Nat
  | [] => 0
  | x :: r => uptoBulkEntry x + uptoBulkEntries r
def uptoBulkEntry {H : Type} : Lit × DataW H → Nat
  | (.string bytes, d) => bytes.length + uptoBulk d + 1
  | (_, d) => uptoBulk d + 1
 end
def uptoSmall : (H : Type) → List (DataW H) → Bool := fun _ ds => decide (uptoBulkAll ds ≤ 1048576)
def OpenSpec.upto (s : _root_.Go.ChangeSpec) : _root_.Go.OpenSpec := { _root_.Go.OpenSpec.ofChange s with cond := some uptoSmall }

/-- 'stirruplaw11.SteelSizes', WHERE WHAT IT READS IS OF BULK AT MOST 1048576: true; the input reads as it did. -/
def steelSizesUptoRow : OpenClaim := { program := "yteehgkjhdaknmaa", sum := "c617e33936bc8d947f78de3c88d7e04abb155ce2591ed2824a5e3db5ccfa04e6", func := "stirrup/stirruplaw11.SteelSizes", spec := "steelSizes", unfollowed := true, recurses := true, apart := false, narrowed := true }
def SteelSizesUptoSaid : Prop := steelSizesUptoRow.holds Try.pinned (OpenSpec.upto steelSizesSpec)

/-- 'stirruplaw11.SteelMasses', WHERE WHAT IT READS IS OF BULK AT MOST 1048576: true; the input reads as it did. -/
def steelMassesUptoRow : OpenClaim := { program := "yteehgkjhdaknmaa", sum := "c617e33936bc8d947f78de3c88d7e04abb155ce2591ed2824a5e3db5ccfa04e6", func := "stirrup/stirruplaw11.SteelMasses", spec := "steelMasses", unfollowed := true, recurses := true, apart := false, narrowed := true }
def SteelMassesUptoSaid : Prop := steelMassesUptoRow.holds Try.pinned (OpenSpec.upto steelMassesSpec)

/-- 'stirruplaw11.SteelLeast', WHERE WHAT IT READS IS OF BULK AT MOST 1048576: true; the input reads as it did. -/
def steelLeastUptoRow : OpenClaim := { program := "yteehgkjhdaknmaa", sum := "c617e33936bc8d947f78de3c88d7e04abb155ce2591ed2824a5e3db5ccfa04e6", func := "stirrup/stirruplaw11.SteelLeast", spec := "steelLeast", unfollowed := true, recurses := true, apart := false, narrowed := true }
def SteelLeastUptoSaid : Prop := steelLeastUptoRow.holds Try.pinned (OpenSpec.upto steelLeastSpec)

/-- 'stirruplaw11.SteelGrows', WHERE WHAT IT READS IS OF BULK AT MOST 1048576: true; the input reads as it did. -/
def steelGrowsUptoRow : OpenClaim := { program := "yteehgkjhdaknmaa", sum := "c617e33936bc8d947f78de3c88d7e04abb155ce2591ed2824a5e3db5ccfa04e6", func := "stirrup/stirruplaw11.SteelGrows", spec := "steelGrows", unfollowed := true, recurses := true, apart := false, narrowed := true }
def SteelGrowsUptoSaid : Prop := steelGrowsUptoRow.holds Try.pinned (OpenSpec.upto steelGrowsSpec)

/-- 'stirruplaw11.SteelAdds', WHERE WHAT IT READS IS OF BULK AT MOST 1048576: true; the input reads as it did. -/
def steelAddsUptoRow : OpenClaim := { program := "yteehgkjhdaknmaa", sum := "c617e33936bc8d947f78de3c88d7e04abb155ce2591ed2824a5e3db5ccfa04e6", func := "stirrup/stirruplaw11.SteelAdds", spec := "steelAdds", unfollowed := true, recurses := true, apart := false, narrowed := true }
def SteelAddsUptoSaid : Prop := steelAddsUptoRow.holds Try.pinned (OpenSpec.upto steelAddsSpec)

/-- 'stirruplaw11.SteelEnough', WHERE WHAT IT READS IS OF BULK AT MOST 1048576: true; the input reads as it did. -/
def steelEnoughUptoRow : OpenClaim := { program := "yteehgkjhdaknmaa", sum := "c617e33936bc8d947f78de3c88d7e04abb155ce2591ed2824a5e3db5ccfa04e6", func := "stirrup/stirruplaw11.SteelEnough", spec := "steelEnough", unfollowed := true, recurses := true, apart := false, narrowed := true }
def SteelEnoughUptoSaid : Prop := steelEnoughUptoRow.holds Try.pinned (OpenSpec.upto steelEnoughSpec)

/-- 'stirruplaw11.SteelHalves', WHERE WHAT IT READS IS OF BULK AT MOST 1048576: true; the input reads as it did. -/
def steelHalvesUptoRow : OpenClaim := { program := "yteehgkjhdaknmaa", sum := "c617e33936bc8d947f78de3c88d7e04abb155ce2591ed2824a5e3db5ccfa04e6", func := "stirrup/stirruplaw11.SteelHalves", spec := "steelHalves", unfollowed := true, recurses := true, apart := false, narrowed := true }
def SteelHalvesUptoSaid : Prop := steelHalvesUptoRow.holds Try.pinned (OpenSpec.upto steelHalvesSpec)

end Rows
end Go.Proofs.Yteehgkjhdaknmaa
