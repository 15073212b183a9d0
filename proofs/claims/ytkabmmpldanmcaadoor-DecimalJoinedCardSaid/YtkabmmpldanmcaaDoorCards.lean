/-
  DERIVED. GIVEN WITH THE SEED: THE CARDS: each row of YtkabmmpldanmcaaDoorRows.lean that lists a variable, with what it lists TIED to the program's text (the seventh form; the later family's looks); each row that meets fmt, with fmt's text TOLD by the authors' own Lean function (tested against real Go, not proved from fmt's source: count such statements apart). THE CARD IS WHAT COUNTS. Prove the row's statement (the work); the ties are given (YtkabmmpldanmcaaDoorTie.lean); close each card by the builder's one call (the guide's Derived/Test/ToyasCard.lean, 'card_holds'). Laid BY PROGRAM, IN A SANDBOX (cutbox-door.mjs). By AI agents, Wed Nov 11 2026. No macro, syntax, notation, axiom, sorry.
-/
import Derived.Test.YtkabmmpldanmcaaDoorRows
import GoSem.ClaimSeven
namespace Go.Proofs.YtkabmmpldanmcaaDoor
namespace Rows

/-- THE TIED CARD OF 'stirruplaw01.DecimalJoined'. -/
def decimalJoinedCard : Claim7 := { stood := { row := decimalJoinedRow, standIns := [], harness := (true, "bcc663e042c9513842ed4fbfdc6da1512e91bee78c246db0f7fa26f03ebd71c9"), looks := false }, kinds := [], alts := [], laidByText := true, laidKinds := [.data, .pinned], laidTests := true, laidLooks := .later }
def DecimalJoinedCardSaid : Prop := Claim7.holds Tryd.pinned (.plain (OpenSpec.ofChange decimalJoinedSpec)) decimalJoinedCard

/-- THE SECOND FORM's CARD OF 'stirruplaw01.DecimalJoined'. -/
def decimalJoinedUptoCard : Claim7 := { stood := { row := decimalJoinedUptoRow, standIns := [], harness := (true, "bcc663e042c9513842ed4fbfdc6da1512e91bee78c246db0f7fa26f03ebd71c9"), looks := false }, kinds := [], alts := [], laidByText := true, laidKinds := [.data, .pinned], laidTests := true, laidLooks := .later }
def DecimalJoinedUptoCardSaid : Prop := Claim7.holds Tryd.pinned (.plain (OpenSpec.upto decimalJoinedSpec)) decimalJoinedUptoCard
end Rows
end Go.Proofs.YtkabmmpldanmcaaDoor
