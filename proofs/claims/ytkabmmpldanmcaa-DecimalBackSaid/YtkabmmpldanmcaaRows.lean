/-
  No cell of these rows narrows 'for every input' (looked for: loops, veiled, ifaces, maps, wideKeys, modest, calm, conditions, laid).
  DERIVED. THE GIVEN ROWS OF THIS SEAT. 7 by the template 'for every input the law returns true; each argument reads behind the call as it read before'; 0 by the template 'total and deterministic' (their statements: YtkabmmpldanmcaaTotals.lean).
  GIVEN WITH THE SEED: the statements are not yours to turn. If you find one false, say at which input.
  Laid BY PROGRAM, IN A SANDBOX (cutbox-rows.mjs): the forced cells as the released guide's own fill.sh prints them over the translation 0d0917c4d4478e9a… (all of the seat's roots in one cut). By AI agents, Wed Nov 11 2026. No macro, syntax, notation, axiom, sorry.
-/
import Derived.Test.YtkabmmpldanmcaaChecked
import GoSem.Claim
import GoSem.ClaimJoined
import GoSem.ClaimMapViews
import Derived.JoinedTies
import Derived.KernelRfl
namespace Go.Proofs.Ytkabmmpldanmcaa
/- THE CELL 'sum', in the pinned program and in every row, IS THE sha256 OF THE DUMP (.gsa) THAT YtkabmmpldanmcaaProg.lean LOADS. Nothing in Lean hashes anything: it is a label: what it is worth is what the hold of that sum in a sandbox is worth. -/
noncomputable def Try.pinned : Pinned := { name := "ytkabmmpldanmcaa", sum := "0d0917c4d4478e9a64ef5822bf3e9995392a5e0ff0185e83e39d99ebe5faf282", checked := Try.checked }
namespace Rows
def none {H : Type} : Left H := { results := [], args := [] }

/-- 'stirruplaw01.DecimalFormats': WHATEVER THE INPUT: true; the input reads as it did. -/
def decimalFormatsSpec : ChangeSpec := { name := "decimalFormats", fn := fun _ => fun
  | [d1, d2] => { results := [.lit (.bool true)], args := [d1, d2] }
  | _ => none }
def decimalFormatsRow : OpenClaim := { program := "ytkabmmpldanmcaa", sum := "0d0917c4d4478e9a64ef5822bf3e9995392a5e0ff0185e83e39d99ebe5faf282", func := "stirrup/stirruplaw01.DecimalFormats", spec := "decimalFormats", inPlace := ["internal/bytealg.IndexByteString", "internal/bytealg.IndexString", "internal/abi.NoEscape", "internal/bytealg.MakeNoZero"], named := ["internal/bytealg.MaxLen"], apart := false }
def DecimalFormatsSaid : Prop := decimalFormatsRow.holds Try.pinned (OpenSpec.ofChange decimalFormatsSpec)

/-- ITS FALSE NEIGHBOUR: 'it returns false'. Refute it at one input. -/
def decimalFormatsWrong : ChangeSpec := { name := "decimalFormats", fn := fun _ => fun
  | [d1, d2] => { results := [.lit (.bool false)], args := [d1, d2] }
  | _ => none }
def DecimalFormatsWrongFalsely : Prop := decimalFormatsRow.holds Try.pinned (OpenSpec.ofChange decimalFormatsWrong)

/-- 'stirruplaw01.DecimalParses': WHATEVER THE INPUT: true; the input reads as it did. -/
def decimalParsesSpec : ChangeSpec := { name := "decimalParses", fn := fun _ => fun
  | [d1, d2] => { results := [.lit (.bool true)], args := [d1, d2] }
  | _ => none }
def decimalParsesRow : OpenClaim := { program := "ytkabmmpldanmcaa", sum := "0d0917c4d4478e9a64ef5822bf3e9995392a5e0ff0185e83e39d99ebe5faf282", func := "stirrup/stirruplaw01.DecimalParses", spec := "decimalParses", inPlace := ["internal/bytealg.IndexByteString", "internal/bytealg.IndexString", "internal/abi.NoEscape", "internal/bytealg.MakeNoZero"], named := ["internal/bytealg.MaxLen"], apart := false }
def DecimalParsesSaid : Prop := decimalParsesRow.holds Try.pinned (OpenSpec.ofChange decimalParsesSpec)

/-- ITS FALSE NEIGHBOUR: 'it returns false'. Refute it at one input. -/
def decimalParsesWrong : ChangeSpec := { name := "decimalParses", fn := fun _ => fun
  | [d1, d2] => { results := [.lit (.bool false)], args := [d1, d2] }
  | _ => none }
def DecimalParsesWrongFalsely : Prop := decimalParsesRow.holds Try.pinned (OpenSpec.ofChange decimalParsesWrong)

/-- 'stirruplaw01.DecimalRounds': WHATEVER THE INPUT: true; the input reads as it did. -/
def decimalRoundsSpec : ChangeSpec := { name := "decimalRounds", fn := fun _ => fun
  | [d1, d2] => { results := [.lit (.bool true)], args := [d1, d2] }
  | _ => none }
def decimalRoundsRow : OpenClaim := { program := "ytkabmmpldanmcaa", sum := "0d0917c4d4478e9a64ef5822bf3e9995392a5e0ff0185e83e39d99ebe5faf282", func := "stirrup/stirruplaw01.DecimalRounds", spec := "decimalRounds", inPlace := ["internal/bytealg.IndexByteString", "internal/bytealg.IndexString", "internal/abi.NoEscape", "internal/bytealg.MakeNoZero"], named := ["internal/bytealg.MaxLen"], apart := false }
def DecimalRoundsSaid : Prop := decimalRoundsRow.holds Try.pinned (OpenSpec.ofChange decimalRoundsSpec)

/-- ITS FALSE NEIGHBOUR: 'it returns false'. Refute it at one input. -/
def decimalRoundsWrong : ChangeSpec := { name := "decimalRounds", fn := fun _ => fun
  | [d1, d2] => { results := [.lit (.bool false)], args := [d1, d2] }
  | _ => none }
def DecimalRoundsWrongFalsely : Prop := decimalRoundsRow.holds Try.pinned (OpenSpec.ofChange decimalRoundsWrong)

/-- 'stirruplaw01.DecimalTokens': WHATEVER THE INPUT: true; the input reads as it did. -/
def decimalTokensSpec : ChangeSpec := { name := "decimalTokens", fn := fun _ => fun
  | [d] => { results := [.lit (.bool true)], args := [d] }
  | _ => none }
def decimalTokensRow : OpenClaim := { program := "ytkabmmpldanmcaa", sum := "0d0917c4d4478e9a64ef5822bf3e9995392a5e0ff0185e83e39d99ebe5faf282", func := "stirrup/stirruplaw01.DecimalTokens", spec := "decimalTokens", inPlace := ["internal/bytealg.IndexByteString", "internal/bytealg.IndexString", "internal/abi.NoEscape", "internal/bytealg.MakeNoZero"], named := ["internal/bytealg.MaxLen"], apart := false }
def DecimalTokensSaid : Prop := decimalTokensRow.holds Try.pinned (OpenSpec.ofChange decimalTokensSpec)

/-- ITS FALSE NEIGHBOUR: 'it returns false'. Refute it at one input. -/
def decimalTokensWrong : ChangeSpec := { name := "decimalTokens", fn := fun _ => fun
  | [d] => { results := [.lit (.bool false)], args := [d] }
  | _ => none }
def DecimalTokensWrongFalsely : Prop := decimalTokensRow.holds Try.pinned (OpenSpec.ofChange decimalTokensWrong)

/-- 'stirruplaw01.DecimalLong': WHATEVER THE INPUT: true; the input reads as it did. -/
def decimalLongSpec : ChangeSpec := { name := "decimalLong", fn := fun _ => fun
  | [d1, d2] => { results := [.lit (.bool true)], args := [d1, d2] }
  | _ => none }
def decimalLongRow : OpenClaim := { program := "ytkabmmpldanmcaa", sum := "0d0917c4d4478e9a64ef5822bf3e9995392a5e0ff0185e83e39d99ebe5faf282", func := "stirrup/stirruplaw01.DecimalLong", spec := "decimalLong", inPlace := ["internal/bytealg.IndexByteString", "internal/bytealg.IndexString", "internal/abi.NoEscape", "internal/bytealg.MakeNoZero"], named := ["internal/bytealg.MaxLen"], apart := false }
def DecimalLongSaid : Prop := decimalLongRow.holds Try.pinned (OpenSpec.ofChange decimalLongSpec)

/-- ITS FALSE NEIGHBOUR: 'it returns false'. Refute it at one input. -/
def decimalLongWrong : ChangeSpec := { name := "decimalLong", fn := fun _ => fun
  | [d1, d2] => { results := [.lit (.bool false)], args := [d1, d2] }
  | _ => none }
def DecimalLongWrongFalsely : Prop := decimalLongRow.holds Try.pinned (OpenSpec.ofChange decimalLongWrong)

/-- 'stirruplaw01.DecimalBack': WHATEVER THE INPUT: true; the input reads as it did. -/
def decimalBackSpec : ChangeSpec := { name := "decimalBack", fn := fun _ => fun
  | [d1, d2, d3, d4] => { results := [.lit (.bool true)], args := [d1, d2, d3, d4] }
  | _ => none }
def decimalBackRow : OpenClaim := { program := "ytkabmmpldanmcaa", sum := "0d0917c4d4478e9a64ef5822bf3e9995392a5e0ff0185e83e39d99ebe5faf282", func := "stirrup/stirruplaw01.DecimalBack", spec := "decimalBack", inPlace := ["internal/bytealg.IndexByteString", "internal/bytealg.IndexString", "internal/abi.NoEscape", "internal/bytealg.MakeNoZero"], named := ["internal/bytealg.MaxLen"], apart := false }
def DecimalBackSaid : Prop := decimalBackRow.holds Try.pinned (OpenSpec.ofChange decimalBackSpec)

/-- ITS FALSE NEIGHBOUR: 'it returns false'. Refute it at one input. -/
def decimalBackWrong : ChangeSpec := { name := "decimalBack", fn := fun _ => fun
  | [d1, d2, d3, d4] => { results := [.lit (.bool false)], args := [d1, d2, d3, d4] }
  | _ => none }
def DecimalBackWrongFalsely : Prop := decimalBackRow.holds Try.pinned (OpenSpec.ofChange decimalBackWrong)

/-- 'stirruplaw01.DecimalHalf': WHATEVER THE INPUT: true; the input reads as it did. -/
def decimalHalfSpec : ChangeSpec := { name := "decimalHalf", fn := fun _ => fun
  | [d1, d2, d3] => { results := [.lit (.bool true)], args := [d1, d2, d3] }
  | _ => none }
def decimalHalfRow : OpenClaim := { program := "ytkabmmpldanmcaa", sum := "0d0917c4d4478e9a64ef5822bf3e9995392a5e0ff0185e83e39d99ebe5faf282", func := "stirrup/stirruplaw01.DecimalHalf", spec := "decimalHalf", inPlace := ["internal/bytealg.IndexByteString", "internal/bytealg.IndexString", "internal/abi.NoEscape", "internal/bytealg.MakeNoZero"], unfollowed := true, recurses := true, named := ["internal/bytealg.MaxLen"], apart := false }
def DecimalHalfSaid : Prop := decimalHalfRow.holds Try.pinned (OpenSpec.ofChange decimalHalfSpec)

/-- ITS FALSE NEIGHBOUR: 'it returns false'. Refute it at one input. -/
def decimalHalfWrong : ChangeSpec := { name := "decimalHalf", fn := fun _ => fun
  | [d1, d2, d3] => { results := [.lit (.bool false)], args := [d1, d2, d3] }
  | _ => none }
def DecimalHalfWrongFalsely : Prop := decimalHalfRow.holds Try.pinned (OpenSpec.ofChange decimalHalfWrong)

/- THE SECOND FORM. 'bulk': how many values and letters a reading holds, each counted each time it is reached (what is shared counts as often as it is met; a slice's spare places count too). A statement '..UptoSaid' is the law's where the arguments, and the package variables that the reading takes, are together of bulk at most 1048576: NARROWER than '..Said'. Prove '..Said' where nothing that the law and all that it calls make is longer than what came in: it says more and counts as full. Else prove '..UptoSaid'. A law counts once. -/
mutual
def uptoBulk {H : Type} : DataW H → Nat
  | .lit (.string bytes) => bytes.length + 1
  | .lit _ => 1
  | .nil => 1
  | .ptr d => uptoBulk d + 1
  | .slice elems spare => uptoBulkAll elems + uptoBulkAll spare + 1
  | .agg parts => uptoBulkAll parts + 1
  | .iface _ d => uptoBulk d + 1
  | .map entries => uptoBulkEntries entries + 1
  | .held _ => 1
def uptoBulkAll {H : Type} : List (DataW H) → Nat
  | [] => 0
  | d :: r => uptoBulk d + uptoBulkAll r
def uptoBulkEntries {H : Type} : List (Lit × DataW H) → Nat
  | [] => 0
  | x :: r => uptoBulkEntry x + uptoBulkEntries r
def uptoBulkEntry {H : Type} : Lit × DataW H → Nat
  | (.string bytes, d) => bytes.length + uptoBulk d + 1
  | (_, d) => uptoBulk d + 1
 end
def uptoSmall : (H : Type) → List (DataW H) → Bool := fun _ ds => decide (uptoBulkAll ds ≤ 1048576)
def OpenSpec.upto (s : _root_.Go.ChangeSpec) : _root_.Go.OpenSpec := { _root_.Go.OpenSpec.ofChange s with cond := some uptoSmall }

/-- 'stirruplaw01.DecimalFormats', WHERE WHAT IT READS IS OF BULK AT MOST 1048576: true; the input reads as it did. -/
def decimalFormatsUptoRow : OpenClaim := { program := "ytkabmmpldanmcaa", sum := "0d0917c4d4478e9a64ef5822bf3e9995392a5e0ff0185e83e39d99ebe5faf282", func := "stirrup/stirruplaw01.DecimalFormats", spec := "decimalFormats", inPlace := ["internal/bytealg.IndexByteString", "internal/bytealg.IndexString", "internal/abi.NoEscape", "internal/bytealg.MakeNoZero"], named := ["internal/bytealg.MaxLen"], apart := false, narrowed := true }
def DecimalFormatsUptoSaid : Prop := decimalFormatsUptoRow.holds Try.pinned (OpenSpec.upto decimalFormatsSpec)

/-- 'stirruplaw01.DecimalParses', WHERE WHAT IT READS IS OF BULK AT MOST 1048576: true; the input reads as it did. -/
def decimalParsesUptoRow : OpenClaim := { program := "ytkabmmpldanmcaa", sum := "0d0917c4d4478e9a64ef5822bf3e9995392a5e0ff0185e83e39d99ebe5faf282", func := "stirrup/stirruplaw01.DecimalParses", spec := "decimalParses", inPlace := ["internal/bytealg.IndexByteString", "internal/bytealg.IndexString", "internal/abi.NoEscape", "internal/bytealg.MakeNoZero"], named := ["internal/bytealg.MaxLen"], apart := false, narrowed := true }
def DecimalParsesUptoSaid : Prop := decimalParsesUptoRow.holds Try.pinned (OpenSpec.upto decimalParsesSpec)

/-- 'stirruplaw01.DecimalRounds', WHERE WHAT IT READS IS OF BULK AT MOST 1048576: true; the input reads as it did. -/
def decimalRoundsUptoRow : OpenClaim := { program := "ytkabmmpldanmcaa", sum := "0d0917c4d4478e9a64ef5822bf3e9995392a5e0ff0185e83e39d99ebe5faf282", func := "stirrup/stirruplaw01.DecimalRounds", spec := "decimalRounds", inPlace := ["internal/bytealg.IndexByteString", "internal/bytealg.IndexString", "internal/abi.NoEscape", "internal/bytealg.MakeNoZero"], named := ["internal/bytealg.MaxLen"], apart := false, narrowed := true }
def DecimalRoundsUptoSaid : Prop := decimalRoundsUptoRow.holds Try.pinned (OpenSpec.upto decimalRoundsSpec)

/-- 'stirruplaw01.DecimalTokens', WHERE WHAT IT READS IS OF BULK AT MOST 1048576: true; the input reads as it did. -/
def decimalTokensUptoRow : OpenClaim := { program := "ytkabmmpldanmcaa", sum := "0d0917c4d4478e9a64ef5822bf3e9995392a5e0ff0185e83e39d99ebe5faf282", func := "stirrup/stirruplaw01.DecimalTokens", spec := "decimalTokens", inPlace := ["internal/bytealg.IndexByteString", "internal/bytealg.IndexString", "internal/abi.NoEscape", "internal/bytealg.MakeNoZero"], named := ["internal/bytealg.MaxLen"], apart := false, narrowed := true }
def DecimalTokensUptoSaid : Prop := decimalTokensUptoRow.holds Try.pinned (OpenSpec.upto decimalTokensSpec)

/-- 'stirruplaw01.DecimalLong', WHERE WHAT IT READS IS OF BULK AT MOST 1048576: true; the input reads as it did. -/
def decimalLongUptoRow : OpenClaim := { program := "ytkabmmpldanmcaa", sum := "0d0917c4d4478e9a64ef5822bf3e9995392a5e0ff0185e83e39d99ebe5faf282", func := "stirrup/stirruplaw01.DecimalLong", spec := "decimalLong", inPlace := ["internal/bytealg.IndexByteString", "internal/bytealg.IndexString", "internal/abi.NoEscape", "internal/bytealg.MakeNoZero"], named := ["internal/bytealg.MaxLen"], apart := false, narrowed := true }
def DecimalLongUptoSaid : Prop := decimalLongUptoRow.holds Try.pinned (OpenSpec.upto decimalLongSpec)

/-- 'stirruplaw01.DecimalBack', WHERE WHAT IT READS IS OF BULK AT MOST 1048576: true; the input reads as it did. -/
def decimalBackUptoRow : OpenClaim := { program := "ytkabmmpldanmcaa", sum := "0d0917c4d4478e9a64ef5822bf3e9995392a5e0ff0185e83e39d99ebe5faf282", func := "stirrup/stirruplaw01.DecimalBack", spec := "decimalBack", inPlace := ["internal/bytealg.IndexByteString", "internal/bytealg.IndexString", "internal/abi.NoEscape", "internal/bytealg.MakeNoZero"], named := ["internal/bytealg.MaxLen"], apart := false, narrowed := true }
def DecimalBackUptoSaid : Prop := decimalBackUptoRow.holds Try.pinned (OpenSpec.upto decimalBackSpec)

/-- 'stirruplaw01.DecimalHalf', WHERE WHAT IT READS IS OF BULK AT MOST 1048576: true; the input reads as it did. -/
def decimalHalfUptoRow : OpenClaim := { program := "ytkabmmpldanmcaa", sum := "0d0917c4d4478e9a64ef5822bf3e9995392a5e0ff0185e83e39d99ebe5faf282", func := "stirrup/stirruplaw01.DecimalHalf", spec := "decimalHalf", inPlace := ["internal/bytealg.IndexByteString", "internal/bytealg.IndexString", "internal/abi.NoEscape", "internal/bytealg.MakeNoZero"], unfollowed := true, recurses := true, named := ["internal/bytealg.MaxLen"], apart := false, narrowed := true }
def DecimalHalfUptoSaid : Prop := decimalHalfUptoRow.holds Try.pinned (OpenSpec.upto decimalHalfSpec)

end Rows
end Go.Proofs.Ytkabmmpldanmcaa
