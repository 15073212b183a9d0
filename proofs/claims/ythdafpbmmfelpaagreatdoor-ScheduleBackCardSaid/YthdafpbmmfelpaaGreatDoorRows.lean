/-
  NARROWER THAN 'FOR EVERY INPUT', by the rows' own cells (each row's printed sentence says how): ScheduleForms: laid · ScheduleTexts: laid · SchedulePieces: laid · ScheduleMerges: laid · ScheduleBack: laid · ScheduleCounts: laid · ScheduleAdds: laid.
  DERIVED. THE GIVEN ROWS OF THIS SEAT. 7 by the template 'for every input the law returns true; each argument reads behind the call as it read before'; 0 by the template 'total and deterministic' (their statements: YthdafpbmmfelpaaGreatDoorTotals.lean).
  GIVEN WITH THE SEED: the statements are not yours to turn. If you find one false, say at which input.
  Laid BY PROGRAM, IN A SANDBOX (cutbox-rows.mjs): the forced cells as the released guide's own fill.sh prints them over the translation 2fa5338be70f6b40… (all of the seat's roots in one cut). By AI agents, Wed Nov 11 2026. No macro, syntax, notation, axiom, sorry.
-/
import Derived.Test.YthdafpbmmfelpaaGreatDoorChecked
import GoSem.PinnedTables
import GoSem.Claim
import GoSem.ClaimJoined
import GoSem.ClaimMapViews
import Derived.JoinedTies
import Derived.KernelRfl
namespace Go.Proofs.YthdafpbmmfelpaaGreatDoor
/- THE CELL 'sum', in the pinned program and in every row, IS THE sha256 OF THE DUMP (.gsa) THAT YthdafpbmmfelpaaGreatDoorProg.lean LOADS. Nothing in Lean hashes anything: it is a label: what it is worth is what the hold of that sum in a sandbox is worth. -/
noncomputable def Tryz.pinned : Pinned := { name := "ythdafpbmmfelpaagreatdoor", sum := "2fa5338be70f6b40b3a48ade30bb375a74a86b7e5ed601e8ac74d45b5051a616", checked := Tryz.checked }
namespace Rows
def none {H : Type} : Left H := { results := [], args := [] }

/- WHAT THE LISTED PACKAGE-LEVEL VARIABLES READ AS WHEN THE CALL BEGINS. Each datum BY PROGRAM (the guide's laid-datum.mjs) off the statement by which the dump's own 'gosem.cut.vars' lays the variable. In a bare row this is a premise. The card (YthdafpbmmfelpaaGreatDoorCards.lean) ties it to the program's text. -/
def laid_math_bits_deBruijn32tab {H : Type} : DataW H := .agg [.lit (.int .u8 0), .lit (.int .u8 1), .lit (.int .u8 28), .lit (.int .u8 2), .lit (.int .u8 29), .lit (.int .u8 14), .lit (.int .u8 24), .lit (.int .u8 3), .lit (.int .u8 30), .lit (.int .u8 22), .lit (.int .u8 20), .lit (.int .u8 15), .lit (.int .u8 25), .lit (.int .u8 17), .lit (.int .u8 4), .lit (.int .u8 8), .lit (.int .u8 31), .lit (.int .u8 27), .lit (.int .u8 13), .lit (.int .u8 23), .lit (.int .u8 21), .lit (.int .u8 19), .lit (.int .u8 16), .lit (.int .u8 7), .lit (.int .u8 26), .lit (.int .u8 12), .lit (.int .u8 18), .lit (.int .u8 6), .lit (.int .u8 11), .lit (.int .u8 5), .lit (.int .u8 10), .lit (.int .u8 9)]
def laid_math_bits_deBruijn64tab {H : Type} : DataW H := .agg [.lit (.int .u8 0), .lit (.int .u8 1), .lit (.int .u8 56), .lit (.int .u8 2), .lit (.int .u8 57), .lit (.int .u8 49), .lit (.int .u8 28), .lit (.int .u8 3), .lit (.int .u8 61), .lit (.int .u8 58), .lit (.int .u8 42), .lit (.int .u8 50), .lit (.int .u8 38), .lit (.int .u8 29), .lit (.int .u8 17), .lit (.int .u8 4), .lit (.int .u8 62), .lit (.int .u8 47), .lit (.int .u8 59), .lit (.int .u8 36), .lit (.int .u8 45), .lit (.int .u8 43), .lit (.int .u8 51), .lit (.int .u8 22), .lit (.int .u8 53), .lit (.int .u8 39), .lit (.int .u8 33), .lit (.int .u8 30), .lit (.int .u8 24), .lit (.int .u8 18), .lit (.int .u8 12), .lit (.int .u8 5), .lit (.int .u8 63), .lit (.int .u8 55), .lit (.int .u8 48), .lit (.int .u8 27), .lit (.int .u8 60), .lit (.int .u8 41), .lit (.int .u8 37), .lit (.int .u8 16), .lit (.int .u8 46), .lit (.int .u8 35), .lit (.int .u8 44), .lit (.int .u8 21), .lit (.int .u8 52), .lit (.int .u8 32), .lit (.int .u8 23), .lit (.int .u8 11), .lit (.int .u8 54), .lit (.int .u8 26), .lit (.int .u8 40), .lit (.int .u8 15), .lit (.int .u8 34), .lit (.int .u8 20), .lit (.int .u8 31), .lit (.int .u8 10), .lit (.int .u8 25), .lit (.int .u8 14), .lit (.int .u8 19), .lit (.int .u8 9), .lit (.int .u8 13), .lit (.int .u8 8), .lit (.int .u8 7), .lit (.int .u8 6)]
def laid_internal_strconv_uint64pow10 {H : Type} : DataW H := .agg [.lit (.int .u64 1), .lit (.int .u64 10), .lit (.int .u64 100), .lit (.int .u64 1000), .lit (.int .u64 10000), .lit (.int .u64 100000), .lit (.int .u64 1000000), .lit (.int .u64 10000000), .lit (.int .u64 100000000), .lit (.int .u64 1000000000), .lit (.int .u64 10000000000), .lit (.int .u64 100000000000), .lit (.int .u64 1000000000000), .lit (.int .u64 10000000000000), .lit (.int .u64 100000000000000), .lit (.int .u64 1000000000000000), .lit (.int .u64 10000000000000000), .lit (.int .u64 100000000000000000), .lit (.int .u64 1000000000000000000), .lit (.int .u64 10000000000000000000)]
def laid_unicode_utf8_acceptRanges {H : Type} : DataW H := .agg [.agg [.lit (.int .u8 128), .lit (.int .u8 191)], .agg [.lit (.int .u8 160), .lit (.int .u8 191)], .agg [.lit (.int .u8 128), .lit (.int .u8 159)], .agg [.lit (.int .u8 144), .lit (.int .u8 191)], .agg [.lit (.int .u8 128), .lit (.int .u8 143)], .agg [.lit (.int .u8 0), .lit (.int .u8 0)], .agg [.lit (.int .u8 0), .lit (.int .u8 0)], .agg [.lit (.int .u8 0), .lit (.int .u8 0)], .agg [.lit (.int .u8 0), .lit (.int .u8 0)], .agg [.lit (.int .u8 0), .lit (.int .u8 0)], .agg [.lit (.int .u8 0), .lit (.int .u8 0)], .agg [.lit (.int .u8 0), .lit (.int .u8 0)], .agg [.lit (.int .u8 0), .lit (.int .u8 0)], .agg [.lit (.int .u8 0), .lit (.int .u8 0)], .agg [.lit (.int .u8 0), .lit (.int .u8 0)], .agg [.lit (.int .u8 0), .lit (.int .u8 0)]]
def laid_stirrup_schedule_forms {H : Type} : DataW H := .agg [.lit (.int .i64 0), .lit (.int .i64 1), .lit (.int .i64 1), .lit (.int .i64 2), .lit (.int .i64 1)]
/-- One of Go's own tables, pinned by name: the form's constant. -/
def laid_unicode_utf8_first : DataW Unit := Go.Pinned.utf8First

/-- 'stirruplaw14.ScheduleForms': WHATEVER THE INPUT: true; the input reads as it did. -/
def scheduleFormsSpec : ChangeSpec := { name := "scheduleForms", fn := fun _ => fun
  | [d1, d2] => { results := [.lit (.bool true)], args := [d1, d2] }
  | _ => none }
def scheduleFormsRow : OpenClaim := { program := "ythdafpbmmfelpaagreatdoor", sum := "2fa5338be70f6b40b3a48ade30bb375a74a86b7e5ed601e8ac74d45b5051a616", func := "stirrup/stirruplaw14.ScheduleForms", spec := "scheduleForms", inPlace := ["internal/bytealg.IndexByteString", "internal/abi.NoEscape", "internal/bytealg.MakeNoZero"], unfollowed := true, recurses := true, named := ["internal/strconv.uint64pow10", "math/bits.deBruijn32tab", "math/bits.deBruijn64tab"], apart := false, laid := [("math/bits.deBruijn32tab", laid_math_bits_deBruijn32tab), ("math/bits.deBruijn64tab", laid_math_bits_deBruijn64tab), ("internal/strconv.uint64pow10", laid_internal_strconv_uint64pow10)] }
def ScheduleFormsSaid : Prop := scheduleFormsRow.holds Tryz.pinned (OpenSpec.ofChange scheduleFormsSpec)

/-- ITS FALSE NEIGHBOUR: 'it returns false'. Refute it at one input. -/
def scheduleFormsWrong : ChangeSpec := { name := "scheduleForms", fn := fun _ => fun
  | [d1, d2] => { results := [.lit (.bool false)], args := [d1, d2] }
  | _ => none }
def ScheduleFormsWrongFalsely : Prop := scheduleFormsRow.holds Tryz.pinned (OpenSpec.ofChange scheduleFormsWrong)

/-- 'stirruplaw14.ScheduleTexts': WHATEVER THE INPUT: true; the input reads as it did. -/
def scheduleTextsSpec : ChangeSpec := { name := "scheduleTexts", fn := fun _ => fun
  | [d1, d2] => { results := [.lit (.bool true)], args := [d1, d2] }
  | _ => none }
def scheduleTextsRow : OpenClaim := { program := "ythdafpbmmfelpaagreatdoor", sum := "2fa5338be70f6b40b3a48ade30bb375a74a86b7e5ed601e8ac74d45b5051a616", func := "stirrup/stirruplaw14.ScheduleTexts", spec := "scheduleTexts", inPlace := ["internal/bytealg.IndexByteString", "internal/abi.NoEscape", "internal/bytealg.MakeNoZero", "internal/bytealg.CountString", "internal/bytealg.IndexString"], unfollowed := true, recurses := true, named := ["internal/strconv.uint64pow10", "math/bits.deBruijn32tab", "math/bits.deBruijn64tab", "stirrup/schedule.forms", "unicode/utf8.first", "unicode/utf8.acceptRanges", "internal/bytealg.MaxLen"], apart := false, laid := [("math/bits.deBruijn32tab", laid_math_bits_deBruijn32tab), ("math/bits.deBruijn64tab", laid_math_bits_deBruijn64tab), ("internal/strconv.uint64pow10", laid_internal_strconv_uint64pow10), ("unicode/utf8.acceptRanges", laid_unicode_utf8_acceptRanges), ("stirrup/schedule.forms", laid_stirrup_schedule_forms), ("unicode/utf8.first", laid_unicode_utf8_first)] }
def ScheduleTextsSaid : Prop := scheduleTextsRow.holds Tryz.pinned (OpenSpec.ofChange scheduleTextsSpec)

/-- ITS FALSE NEIGHBOUR: 'it returns false'. Refute it at one input. -/
def scheduleTextsWrong : ChangeSpec := { name := "scheduleTexts", fn := fun _ => fun
  | [d1, d2] => { results := [.lit (.bool false)], args := [d1, d2] }
  | _ => none }
def ScheduleTextsWrongFalsely : Prop := scheduleTextsRow.holds Tryz.pinned (OpenSpec.ofChange scheduleTextsWrong)

/-- 'stirruplaw14.SchedulePieces': WHATEVER THE INPUT: true; the input reads as it did. -/
def schedulePiecesSpec : ChangeSpec := { name := "schedulePieces", fn := fun _ => fun
  | [d1, d2] => { results := [.lit (.bool true)], args := [d1, d2] }
  | _ => none }
def schedulePiecesRow : OpenClaim := { program := "ythdafpbmmfelpaagreatdoor", sum := "2fa5338be70f6b40b3a48ade30bb375a74a86b7e5ed601e8ac74d45b5051a616", func := "stirrup/stirruplaw14.SchedulePieces", spec := "schedulePieces", inPlace := ["internal/bytealg.IndexByteString", "internal/abi.NoEscape", "internal/bytealg.MakeNoZero"], unfollowed := true, recurses := true, named := ["internal/strconv.uint64pow10", "math/bits.deBruijn32tab", "math/bits.deBruijn64tab"], apart := false, laid := [("math/bits.deBruijn32tab", laid_math_bits_deBruijn32tab), ("math/bits.deBruijn64tab", laid_math_bits_deBruijn64tab), ("internal/strconv.uint64pow10", laid_internal_strconv_uint64pow10)] }
def SchedulePiecesSaid : Prop := schedulePiecesRow.holds Tryz.pinned (OpenSpec.ofChange schedulePiecesSpec)

/-- ITS FALSE NEIGHBOUR: 'it returns false'. Refute it at one input. -/
def schedulePiecesWrong : ChangeSpec := { name := "schedulePieces", fn := fun _ => fun
  | [d1, d2] => { results := [.lit (.bool false)], args := [d1, d2] }
  | _ => none }
def SchedulePiecesWrongFalsely : Prop := schedulePiecesRow.holds Tryz.pinned (OpenSpec.ofChange schedulePiecesWrong)

/-- 'stirruplaw14.ScheduleMerges': WHATEVER THE INPUT: true; the input reads as it did. -/
def scheduleMergesSpec : ChangeSpec := { name := "scheduleMerges", fn := fun _ => fun
  | [d1, d2] => { results := [.lit (.bool true)], args := [d1, d2] }
  | _ => none }
def scheduleMergesRow : OpenClaim := { program := "ythdafpbmmfelpaagreatdoor", sum := "2fa5338be70f6b40b3a48ade30bb375a74a86b7e5ed601e8ac74d45b5051a616", func := "stirrup/stirruplaw14.ScheduleMerges", spec := "scheduleMerges", inPlace := ["internal/bytealg.IndexByteString", "internal/abi.NoEscape", "internal/bytealg.MakeNoZero"], unfollowed := true, recurses := true, named := ["internal/strconv.uint64pow10", "math/bits.deBruijn32tab", "math/bits.deBruijn64tab"], apart := false, laid := [("math/bits.deBruijn32tab", laid_math_bits_deBruijn32tab), ("math/bits.deBruijn64tab", laid_math_bits_deBruijn64tab), ("internal/strconv.uint64pow10", laid_internal_strconv_uint64pow10)] }
def ScheduleMergesSaid : Prop := scheduleMergesRow.holds Tryz.pinned (OpenSpec.ofChange scheduleMergesSpec)

/-- ITS FALSE NEIGHBOUR: 'it returns false'. Refute it at one input. -/
def scheduleMergesWrong : ChangeSpec := { name := "scheduleMerges", fn := fun _ => fun
  | [d1, d2] => { results := [.lit (.bool false)], args := [d1, d2] }
  | _ => none }
def ScheduleMergesWrongFalsely : Prop := scheduleMergesRow.holds Tryz.pinned (OpenSpec.ofChange scheduleMergesWrong)

/-- 'stirruplaw14.ScheduleBack': WHATEVER THE INPUT: true; the input reads as it did. -/
def scheduleBackSpec : ChangeSpec := { name := "scheduleBack", fn := fun _ => fun
  | [d1, d2] => { results := [.lit (.bool true)], args := [d1, d2] }
  | _ => none }
def scheduleBackRow : OpenClaim := { program := "ythdafpbmmfelpaagreatdoor", sum := "2fa5338be70f6b40b3a48ade30bb375a74a86b7e5ed601e8ac74d45b5051a616", func := "stirrup/stirruplaw14.ScheduleBack", spec := "scheduleBack", inPlace := ["internal/bytealg.IndexByteString", "internal/abi.NoEscape", "internal/bytealg.MakeNoZero", "internal/bytealg.CountString", "internal/bytealg.IndexString"], unfollowed := true, recurses := true, named := ["internal/strconv.uint64pow10", "math/bits.deBruijn32tab", "math/bits.deBruijn64tab", "stirrup/schedule.forms", "unicode/utf8.first", "unicode/utf8.acceptRanges", "internal/bytealg.MaxLen"], apart := false, laid := [("math/bits.deBruijn32tab", laid_math_bits_deBruijn32tab), ("math/bits.deBruijn64tab", laid_math_bits_deBruijn64tab), ("internal/strconv.uint64pow10", laid_internal_strconv_uint64pow10), ("unicode/utf8.acceptRanges", laid_unicode_utf8_acceptRanges), ("stirrup/schedule.forms", laid_stirrup_schedule_forms), ("unicode/utf8.first", laid_unicode_utf8_first)] }
def ScheduleBackSaid : Prop := scheduleBackRow.holds Tryz.pinned (OpenSpec.ofChange scheduleBackSpec)

/-- ITS FALSE NEIGHBOUR: 'it returns false'. Refute it at one input. -/
def scheduleBackWrong : ChangeSpec := { name := "scheduleBack", fn := fun _ => fun
  | [d1, d2] => { results := [.lit (.bool false)], args := [d1, d2] }
  | _ => none }
def ScheduleBackWrongFalsely : Prop := scheduleBackRow.holds Tryz.pinned (OpenSpec.ofChange scheduleBackWrong)

/-- 'stirruplaw14.ScheduleCounts': WHATEVER THE INPUT: true; the input reads as it did. -/
def scheduleCountsSpec : ChangeSpec := { name := "scheduleCounts", fn := fun _ => fun
  | [d] => { results := [.lit (.bool true)], args := [d] }
  | _ => none }
def scheduleCountsRow : OpenClaim := { program := "ythdafpbmmfelpaagreatdoor", sum := "2fa5338be70f6b40b3a48ade30bb375a74a86b7e5ed601e8ac74d45b5051a616", func := "stirrup/stirruplaw14.ScheduleCounts", spec := "scheduleCounts", inPlace := ["internal/bytealg.IndexByteString", "internal/abi.NoEscape", "internal/bytealg.MakeNoZero"], unfollowed := true, recurses := true, named := ["internal/strconv.uint64pow10", "math/bits.deBruijn32tab", "math/bits.deBruijn64tab"], apart := false, laid := [("math/bits.deBruijn32tab", laid_math_bits_deBruijn32tab), ("math/bits.deBruijn64tab", laid_math_bits_deBruijn64tab), ("internal/strconv.uint64pow10", laid_internal_strconv_uint64pow10)] }
def ScheduleCountsSaid : Prop := scheduleCountsRow.holds Tryz.pinned (OpenSpec.ofChange scheduleCountsSpec)

/-- ITS FALSE NEIGHBOUR: 'it returns false'. Refute it at one input. -/
def scheduleCountsWrong : ChangeSpec := { name := "scheduleCounts", fn := fun _ => fun
  | [d] => { results := [.lit (.bool false)], args := [d] }
  | _ => none }
def ScheduleCountsWrongFalsely : Prop := scheduleCountsRow.holds Tryz.pinned (OpenSpec.ofChange scheduleCountsWrong)

/-- 'stirruplaw14.ScheduleAdds': WHATEVER THE INPUT: true; the input reads as it did. -/
def scheduleAddsSpec : ChangeSpec := { name := "scheduleAdds", fn := fun _ => fun
  | [d1, d2] => { results := [.lit (.bool true)], args := [d1, d2] }
  | _ => none }
def scheduleAddsRow : OpenClaim := { program := "ythdafpbmmfelpaagreatdoor", sum := "2fa5338be70f6b40b3a48ade30bb375a74a86b7e5ed601e8ac74d45b5051a616", func := "stirrup/stirruplaw14.ScheduleAdds", spec := "scheduleAdds", inPlace := ["internal/bytealg.IndexByteString", "internal/abi.NoEscape", "internal/bytealg.MakeNoZero"], unfollowed := true, recurses := true, named := ["internal/strconv.uint64pow10", "math/bits.deBruijn32tab", "math/bits.deBruijn64tab"], apart := false, laid := [("math/bits.deBruijn32tab", laid_math_bits_deBruijn32tab), ("math/bits.deBruijn64tab", laid_math_bits_deBruijn64tab), ("internal/strconv.uint64pow10", laid_internal_strconv_uint64pow10)] }
def ScheduleAddsSaid : Prop := scheduleAddsRow.holds Tryz.pinned (OpenSpec.ofChange scheduleAddsSpec)

/-- ITS FALSE NEIGHBOUR: 'it returns false'. Refute it at one input. -/
def scheduleAddsWrong : ChangeSpec := { name := "scheduleAdds", fn := fun _ => fun
  | [d1, d2] => { results := [.lit (.bool false)], args := [d1, d2] }
  | _ => none }
def ScheduleAddsWrongFalsely : Prop := scheduleAddsRow.holds Tryz.pinned (OpenSpec.ofChange scheduleAddsWrong)

/- THE SECOND FORM. 'bulk': how many values and letters a reading holds, each counted each time it is reached (what is shared counts as often as it is met; a slice's spare places count too). A statement '..UptoSaid' is the law's where the arguments, and the package variables that the reading takes, are together of bulk at most 1048576: NARROWER than '..Said'. Prove '..Said' where nothing that the law and all that it calls make is longer than what came in: it says more and counts as full. Else prove '..UptoSaid'. A law counts once. -/
mutual
def uptoBulk {H : Type} : DataW H → Nat
  | .lit (.string bytes) => bytes.length + 1
  | .lit _ => 1
  | .nil => 1
  | .ptr d => uptoBulk d + 1
  | .slice elems spare => uptoBulkAll elems + uptoBulkAll spare + 1
  | .agg parts => uptoBulkAll parts + 1
  | .iface _ d => uptoBulk d + 1
  | .map entries => uptoBulkEntries entries + 1
  | .held _ => 1
def uptoBulkAll {H : Type} : List (DataW H) → Nat
  | [] => 0
  | d :: r => uptoBulk d + uptoBulkAll r
def uptoBulkEntries {H : Type} : List (Lit × DataW H) → Nat
  | [] => 0
  | x :: r => uptoBulkEntry x + uptoBulkEntries r
def uptoBulkEntry {H : Type} : Lit × DataW H → Nat
  | (.string bytes, d) => bytes.length + uptoBulk d + 1
  | (_, d) => uptoBulk d + 1
 end
def uptoSmall : (H : Type) → List (DataW H) → Bool := fun _ ds => decide (uptoBulkAll ds ≤ 1048576)
def OpenSpec.upto (s : _root_.Go.ChangeSpec) : _root_.Go.OpenSpec := { _root_.Go.OpenSpec.ofChange s with cond := some uptoSmall }

/-- 'stirruplaw14.ScheduleForms', WHERE WHAT IT READS IS OF BULK AT MOST 1048576: true; the input reads as it did. -/
def scheduleFormsUptoRow : OpenClaim := { program := "ythdafpbmmfelpaagreatdoor", sum := "2fa5338be70f6b40b3a48ade30bb375a74a86b7e5ed601e8ac74d45b5051a616", func := "stirrup/stirruplaw14.ScheduleForms", spec := "scheduleForms", inPlace := ["internal/bytealg.IndexByteString", "internal/abi.NoEscape", "internal/bytealg.MakeNoZero"], unfollowed := true, recurses := true, named := ["internal/strconv.uint64pow10", "math/bits.deBruijn32tab", "math/bits.deBruijn64tab"], apart := false, laid := [("math/bits.deBruijn32tab", laid_math_bits_deBruijn32tab), ("math/bits.deBruijn64tab", laid_math_bits_deBruijn64tab), ("internal/strconv.uint64pow10", laid_internal_strconv_uint64pow10)], narrowed := true }
def ScheduleFormsUptoSaid : Prop := scheduleFormsUptoRow.holds Tryz.pinned (OpenSpec.upto scheduleFormsSpec)

/-- 'stirruplaw14.ScheduleTexts', WHERE WHAT IT READS IS OF BULK AT MOST 1048576: true; the input reads as it did. -/
def scheduleTextsUptoRow : OpenClaim := { program := "ythdafpbmmfelpaagreatdoor", sum := "2fa5338be70f6b40b3a48ade30bb375a74a86b7e5ed601e8ac74d45b5051a616", func := "stirrup/stirruplaw14.ScheduleTexts", spec := "scheduleTexts", inPlace := ["internal/bytealg.IndexByteString", "internal/abi.NoEscape", "internal/bytealg.MakeNoZero", "internal/bytealg.CountString", "internal/bytealg.IndexString"], unfollowed := true, recurses := true, named := ["internal/strconv.uint64pow10", "math/bits.deBruijn32tab", "math/bits.deBruijn64tab", "stirrup/schedule.forms", "unicode/utf8.first", "unicode/utf8.acceptRanges", "internal/bytealg.MaxLen"], apart := false, laid := [("math/bits.deBruijn32tab", laid_math_bits_deBruijn32tab), ("math/bits.deBruijn64tab", laid_math_bits_deBruijn64tab), ("internal/strconv.uint64pow10", laid_internal_strconv_uint64pow10), ("unicode/utf8.acceptRanges", laid_unicode_utf8_acceptRanges), ("stirrup/schedule.forms", laid_stirrup_schedule_forms), ("unicode/utf8.first", laid_unicode_utf8_first)], narrowed := true }
def ScheduleTextsUptoSaid : Prop := scheduleTextsUptoRow.holds Tryz.pinned (OpenSpec.upto scheduleTextsSpec)

/-- 'stirruplaw14.SchedulePieces', WHERE WHAT IT READS IS OF BULK AT MOST 1048576: true; the input reads as it did. -/
def schedulePiecesUptoRow : OpenClaim := { program := "ythdafpbmmfelpaagreatdoor", sum := "2fa5338be70f6b40b3a48ade30bb375a74a86b7e5ed601e8ac74d45b5051a616", func := "stirrup/stirruplaw14.SchedulePieces", spec := "schedulePieces", inPlace := ["internal/bytealg.IndexByteString", "internal/abi.NoEscape", "internal/bytealg.MakeNoZero"], unfollowed := true, recurses := true, named := ["internal/strconv.uint64pow10", "math/bits.deBruijn32tab", "math/bits.deBruijn64tab"], apart := false, laid := [("math/bits.deBruijn32tab", laid_math_bits_deBruijn32tab), ("math/bits.deBruijn64tab", laid_math_bits_deBruijn64tab), ("internal/strconv.uint64pow10", laid_internal_strconv_uint64pow10)], narrowed := true }
def SchedulePiecesUptoSaid : Prop := schedulePiecesUptoRow.holds Tryz.pinned (OpenSpec.upto schedulePiecesSpec)

/-- 'stirruplaw14.ScheduleMerges', WHERE WHAT IT READS IS OF BULK AT MOST 1048576: true; the input reads as it did. -/
def scheduleMergesUptoRow : OpenClaim := { program := "ythdafpbmmfelpaagreatdoor", sum := "2fa5338be70f6b40b3a48ade30bb375a74a86b7e5ed601e8ac74d45b5051a616", func := "stirrup/stirruplaw14.ScheduleMerges", spec := "scheduleMerges", inPlace := ["internal/bytealg.IndexByteString", "internal/abi.NoEscape", "internal/bytealg.MakeNoZero"], unfollowed := true, recurses := true, named := ["internal/strconv.uint64pow10", "math/bits.deBruijn32tab", "math/bits.deBruijn64tab"], apart := false, laid := [("math/bits.deBruijn32tab", laid_math_bits_deBruijn32tab), ("math/bits.deBruijn64tab", laid_math_bits_deBruijn64tab), ("internal/strconv.uint64pow10", laid_internal_strconv_uint64pow10)], narrowed := true }
def ScheduleMergesUptoSaid : Prop := scheduleMergesUptoRow.holds Tryz.pinned (OpenSpec.upto scheduleMergesSpec)

/-- 'stirruplaw14.ScheduleBack', WHERE WHAT IT READS IS OF BULK AT MOST 1048576: true; the input reads as it did. -/
def scheduleBackUptoRow : OpenClaim := { program := "ythdafpbmmfelpaagreatdoor", sum := "2fa5338be70f6b40b3a48ade30bb375a74a86b7e5ed601e8ac74d45b5051a616", func := "stirrup/stirruplaw14.ScheduleBack", spec := "scheduleBack", inPlace := ["internal/bytealg.IndexByteString", "internal/abi.NoEscape", "internal/bytealg.MakeNoZero", "internal/bytealg.CountString", "internal/bytealg.IndexString"], unfollowed := true, recurses := true, named := ["internal/strconv.uint64pow10", "math/bits.deBruijn32tab", "math/bits.deBruijn64tab", "stirrup/schedule.forms", "unicode/utf8.first", "unicode/utf8.acceptRanges", "internal/bytealg.MaxLen"], apart := false, laid := [("math/bits.deBruijn32tab", laid_math_bits_deBruijn32tab), ("math/bits.deBruijn64tab", laid_math_bits_deBruijn64tab), ("internal/strconv.uint64pow10", laid_internal_strconv_uint64pow10), ("unicode/utf8.acceptRanges", laid_unicode_utf8_acceptRanges), ("stirrup/schedule.forms", laid_stirrup_schedule_forms), ("unicode/utf8.first", laid_unicode_utf8_first)], narrowed := true }
def ScheduleBackUptoSaid : Prop := scheduleBackUptoRow.holds Tryz.pinned (OpenSpec.upto scheduleBackSpec)

/-- 'stirruplaw14.ScheduleCounts', WHERE WHAT IT READS IS OF BULK AT MOST 1048576: true; the input reads as it did. -/
def scheduleCountsUptoRow : OpenClaim := { program := "ythdafpbmmfelpaagreatdoor", sum := "2fa5338be70f6b40b3a48ade30bb375a74a86b7e5ed601e8ac74d45b5051a616", func := "stirrup/stirruplaw14.ScheduleCounts", spec := "scheduleCounts", inPlace := ["internal/bytealg.IndexByteString", "internal/abi.NoEscape", "internal/bytealg.MakeNoZero"], unfollowed := true, recurses := true, named := ["internal/strconv.uint64pow10", "math/bits.deBruijn32tab", "math/bits.deBruijn64tab"], apart := false, laid := [("math/bits.deBruijn32tab", laid_math_bits_deBruijn32tab), ("math/bits.deBruijn64tab", laid_math_bits_deBruijn64tab), ("internal/strconv.uint64pow10", laid_internal_strconv_uint64pow10)], narrowed := true }
def ScheduleCountsUptoSaid : Prop := scheduleCountsUptoRow.holds Tryz.pinned (OpenSpec.upto scheduleCountsSpec)

/-- 'stirruplaw14.ScheduleAdds', WHERE WHAT IT READS IS OF BULK AT MOST 1048576: true; the input reads as it did. -/
def scheduleAddsUptoRow : OpenClaim := { program := "ythdafpbmmfelpaagreatdoor", sum := "2fa5338be70f6b40b3a48ade30bb375a74a86b7e5ed601e8ac74d45b5051a616", func := "stirrup/stirruplaw14.ScheduleAdds", spec := "scheduleAdds", inPlace := ["internal/bytealg.IndexByteString", "internal/abi.NoEscape", "internal/bytealg.MakeNoZero"], unfollowed := true, recurses := true, named := ["internal/strconv.uint64pow10", "math/bits.deBruijn32tab", "math/bits.deBruijn64tab"], apart := false, laid := [("math/bits.deBruijn32tab", laid_math_bits_deBruijn32tab), ("math/bits.deBruijn64tab", laid_math_bits_deBruijn64tab), ("internal/strconv.uint64pow10", laid_internal_strconv_uint64pow10)], narrowed := true }
def ScheduleAddsUptoSaid : Prop := scheduleAddsUptoRow.holds Tryz.pinned (OpenSpec.upto scheduleAddsSpec)

end Rows
end Go.Proofs.YthdafpbmmfelpaaGreatDoor
