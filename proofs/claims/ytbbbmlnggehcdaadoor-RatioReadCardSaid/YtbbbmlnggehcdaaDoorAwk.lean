/- The contract of awake: the examples of the chapter hold. -/
import Derived.Test.YtbbbmlnggehcdaaDoorAe
import Derived.Test.YtbbbmlnggehcdaaDoorTx
namespace Go.Proofs.YtbbbmlnggehcdaaDoor
open Go.ChangeShapes Go.WideShapes Go.ChangeAt Go.RowKit Go.Shelf
set_option linter.unusedVariables false

theorem awk_add (w : World) : Calls Tryd.prog 21 #[.agg #[.int .i64 1, .int .i64 6], .agg #[.int .i64 1, .int .i64 10]] w fun e w' => e = .returned (.tuple #[.agg #[.int .i64 4, .int .i64 15], .int .i64 0]) ∧ Below w.heap.size w w' :=
  add_any 1 6 1 10 w (by unfold All4 I64; omega) (by decide +kernel)
theorem awk_mul (w : World) : Calls Tryd.prog 23 #[.agg #[.int .i64 1152921504606846976, .int .i64 1], .agg #[.int .i64 1, .int .i64 1152921504606846976]] w fun e w' => e = .returned (.tuple #[.agg #[.int .i64 1, .int .i64 1], .int .i64 0]) ∧ Below w.heap.size w w' :=
  mul_any _ _ _ _ w (by unfold All4 I64; omega) (by decide +kernel)
theorem awk_make (w : World) : Calls Tryd.prog 12 #[.int .i64 (-6), .int .i64 4] w fun e w' => e = .returned (.tuple #[.agg #[.int .i64 (-3), .int .i64 2], .int .i64 0]) ∧ Below w.heap.size w w' :=
  make_any _ _ w (by omega) (by omega) (by omega) (by omega) (by decide +kernel)
theorem awk_valid (w : World) : Calls Tryd.prog 17 #[.agg #[.int .i64 4, .int .i64 15]] w fun e w' => e = .returned (.bool true) ∧ Below w.heap.size w w' := by
  have h := valid_any 4 15 w (by omega) (by omega) (by omega) (by omega)
  rw [show vB 4 15 = true by decide +kernel] at h
  exact h
theorem awk_text (w : World) (ht : Tab w) : Calls Tryd.prog 34 #[.agg #[.int .i64 (-3), .int .i64 2]] w fun e w' => e = .returned (.tuple #[.string ⟨#[45, 51, 47, 50]⟩, .int .i64 0]) ∧ Below w.heap.size w w' := by
  have h := text_ok (-3) 2 w (by decide +kernel) ht
  have e : textL (-3) 2 = [45, 51, 47, 50] := by
    unfold textL Lib.itoa
    simp [Lib.decDigits_one]
  rw [e] at h
  exact h

theorem Has.on {w w1 : World} {g : Nat} {t : TypeId} {cs : Array Value} (h : Has w g t cs) (hb : Below w.heap.size w w1) : Has w1 g t cs := h.below_ hb h.size_

theorem awake_any (w : World) (ht : Tab w) : Calls Tryd.prog 11 #[] w fun e w' => e = .returned (.bool true) ∧ Below w.heap.size w w' := by
  go_enter Tryd.func11, Tryd.ntmps11
  go_wp2_with (first | (go_at_call 21; refine (awk_add _).mono ?_; rintro e w1 ⟨rfl, hb1⟩) | (go_at_call 23; refine (awk_mul _).mono ?_; rintro e w2 ⟨rfl, hb2⟩) | (go_at_call 12; refine (awk_make _).mono ?_; rintro e w3 ⟨rfl, hb3⟩) | (go_at_call 34; refine (awk_text _ ((((((ht.on hb1).on (al1 _ _)).on hb2).on (al1 _ _)).on hb3).on (al1 _ _))).mono ?_; rintro e w4 ⟨rfl, hb4⟩; have H1 := Has.on (Has.alloc_ (Has.on (Has.alloc_ (Has.on (Has.new_ w1 23 #[.int .i64 4, .int .i64 15]) hb2) _) hb3) _) hb4; have H2 := Has.on (Has.alloc_ (Has.on (Has.new_ w2 23 #[.int .i64 1, .int .i64 1]) hb3) _) hb4; obtain ⟨c0, c1, f0, f1⟩ := Has.two H1; obtain ⟨d0, d1, g0, g1⟩ := Has.two H2) | (go_at_call 17; refine (awk_valid _).mono ?_; rintro e w5 ⟨rfl, hb5⟩))
  go_ret
  exact ⟨rfl, belows (belows (belows (belows (belows (belows (belows hb1 (al1 _ _)) hb2) (al1 _ _)) hb3) (al1 _ _)) hb4) hb5⟩
end Go.Proofs.YtbbbmlnggehcdaaDoor
