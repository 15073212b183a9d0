/- awake. -/
import Derived.Test.YtkgaahmehmbfjaaWl
namespace Go.Proofs.Ytkgaahmehmbfjaa
open Go.ChangeShapes Go.WideShapes Go.ChangeAt Go.RowKit Go.Maps Go.Shelf
set_option linter.unusedVariables false
set_option linter.unusedSimpArgs false

set_option maxHeartbeats 8000000 in
set_option maxRecDepth 100000 in
theorem awake_9 (w : World) : Calls Try.prog 9 #[] w fun e w' => e = .returned (.bool true) ∧ Below w.heap.size w w' := by
  have vol : ∀ {g1 g2 : Nat} W, Sl W (some ⟨g1, 0, none⟩) [wB] → Sl W (some ⟨g2, 0, none⟩) [wH] → Calls Try.prog 22 #[.agg #[.slice (some ⟨g1, 0, none⟩) 1 1, .slice (some ⟨g2, 0, none⟩) 1 1]] W fun e w' => e = .returned (.tuple #[.int .i64 560000000, .int .i64 0]) ∧ Below W.heap.size W w' := fun W a b => by
    have := Volume_ok _ _ _ _ 1 1 W a b w_ok
    rw [w_volR] at this
    exact this
  have sec : ∀ {g1 g2 : Nat} W, Sl W (some ⟨g1, 0, none⟩) [wB] → Sl W (some ⟨g2, 0, none⟩) [wH] → Calls Try.prog 23 #[.agg #[.slice (some ⟨g1, 0, none⟩) 1 1, .slice (some ⟨g2, 0, none⟩) 1 1], .int .i64 400] W fun e w' => e = .returned (.tuple #[.int .i64 400000, .int .i64 0]) ∧ Below W.heap.size W w' := fun W a b => by
    have := Section_ok _ _ _ _ 1 1 400 W a b w_ok (by omega)
    rw [w_sec] at this
    exact this
  have ina : ∀ {g1 g2 : Nat} W, Sl W (some ⟨g1, 0, none⟩) [wB] → Sl W (some ⟨g2, 0, none⟩) [wH] → Calls Try.prog 12 #[.agg #[.slice (some ⟨g1, 0, none⟩) 1 1, .slice (some ⟨g2, 0, none⟩) 1 1], .agg #[.int .i64 400, .int .i64 100, .int .i64 1500]] W fun e w' => e = .returned (.tuple #[.bool true, .int .i64 0]) ∧ Below W.heap.size W w' := fun W a b => by
    have := Inside_ok _ _ _ _ 1 1 400 100 1500 W a b w_ok (by decide)
    rw [w_in] at this
    exact this
  have inb : ∀ {g1 g2 : Nat} W, Sl W (some ⟨g1, 0, none⟩) [wB] → Sl W (some ⟨g2, 0, none⟩) [wH] → Calls Try.prog 12 #[.agg #[.slice (some ⟨g1, 0, none⟩) 1 1, .slice (some ⟨g2, 0, none⟩) 1 1], .agg #[.int .i64 401, .int .i64 100, .int .i64 1500]] W fun e w' => e = .returned (.tuple #[.bool false, .int .i64 0]) ∧ Below W.heap.size W w' := fun W a b => by
    have := Inside_ok _ _ _ _ 1 1 401 100 1500 W a b w_ok (by decide)
    rw [w_out] at this
    exact this
  have val : ∀ {g1 g2 : Nat} W, Sl W (some ⟨g1, 0, none⟩) [wB] → Sl W (some ⟨g2, 0, none⟩) [wH] → Calls Try.prog 14 #[.agg #[.slice (some ⟨g1, 0, none⟩) 1 1, .slice (some ⟨g2, 0, none⟩) 1 1]] W fun e w' => e = .returned (.bool true) ∧ Below W.heap.size W w' := fun W a b => by
    have := val14 _ _ _ _ 1 1 W a b
    rw [w_ok] at this
    exact this
  have wall : ∀ W, Calls Try.prog 43 #[] W fun e w' => ∃ g1 g2, e = .returned (.agg #[.slice (some ⟨g1, 0, none⟩) 1 1, .slice (some ⟨g2, 0, none⟩) 1 1]) ∧ Sl w' (some ⟨g1, 0, none⟩) [wB] ∧ Sl w' (some ⟨g2, 0, none⟩) [wH] ∧ Below W.heap.size W w' := wall_any
  have B0 := Below.refl w.heap.size w
  go_enter Try.func9, Try.ntmps9
  go_wp2_with (first
    | (go_at_call 43; (with_reducible refine (wall _).mono ?_); rintro X wq ⟨g1, g2, rfl, hS, hT, hb⟩; replace B0 := belows B0 hb; clear hb)
    | (go_at_call 22; (with_reducible refine (vol _ hS hT).mono ?_); rintro X wq ⟨rfl, hb⟩; replace B0 := belows B0 hb; clear hb)
    | (go_at_call 23; (with_reducible refine (sec _ hS hT).mono ?_); rintro X wq ⟨rfl, hb⟩; replace B0 := belows B0 hb; clear hb)
    | (go_at_call 12; (with_reducible refine (ina _ hS hT).mono ?_); rintro X wq ⟨rfl, hb⟩; replace B0 := belows B0 hb; clear hb)
    | (go_at_call 12; (with_reducible refine (inb _ hS hT).mono ?_); rintro X wq ⟨rfl, hb⟩; replace B0 := belows B0 hb; clear hb)
    | (go_at_call 14; (with_reducible refine (val _ hS hT).mono ?_); rintro X wq ⟨rfl, hb⟩; replace B0 := belows B0 hb; clear hb))
  go_ret
  exact ⟨rfl, B0⟩
end Go.Proofs.Ytkgaahmehmbfjaa
