/- The example; awake; Equal of two rows of sizes. -/
import Derived.Test.YteehgkjhdaknmaaA3
namespace Go.Proofs.Yteehgkjhdaknmaa
open Go.ChangeShapes Go.WideShapes Go.ChangeAt Go.RowKit
set_option linter.unusedVariables false
set_option linter.unusedSimpArgs false

theorem ex_area (w : World) : Calls Try.prog 14 #[.int .i64 16] w fun e w' => e = .returned (.tuple #[.int .i64 20106, .int .i64 0]) ∧ Below w.heap.size w w' := by
  have h := area_ok 16 rfl w
  rwa [show ar 16 = 20106 by decide] at h
theorem ex_mass (w : World) : Calls Try.prog 22 #[.int .i64 16, .int .i64 1000] w fun e w' => e = .returned (.tuple #[.int .i64 1578, .int .i64 0]) ∧ Below w.heap.size w w' := by
  have h := mass_ok 16 1000 rfl (by decide) (by decide) w
  rwa [show ms 16 1000 = 1578 by decide] at h
theorem ex_bend (w : World) : Calls Try.prog 15 #[.int .i64 16] w fun e w' => e = .returned (.tuple #[.int .i64 40, .int .i64 0]) ∧ Below w.heap.size w w' := by
  have h := bend_ok 16 rfl w
  rwa [show bn 16 = 40 by decide] at h
theorem ex_round (w : World) : Calls Try.prog 16 #[.int .i64 25] w fun e w' => e = .returned (.tuple #[.int .i64 13, .int .i64 0]) ∧ Below w.heap.size w w' := by
  have h := round_ok 25 rfl w
  rwa [show hf 25 = 13 by decide] at h
theorem ex_least3 (w : World) : Calls Try.prog 24 #[.int .i64 60000, .int .i64 3] w fun e w' => e = .returned (.tuple #[.int .i64 16, .int .i64 0]) ∧ Below w.heap.size w w' := by
  have h := least_in 60000 3 (by decide) (by decide) w
  rwa [show lv 60000 3 = 16 by decide +kernel, show lc 60000 3 = 0 by decide +kernel] at h
theorem ex_least2 (w : World) : Calls Try.prog 24 #[.int .i64 60000, .int .i64 2] w fun e w' => e = .returned (.tuple #[.int .i64 20, .int .i64 0]) ∧ Below w.heap.size w w' := by
  have h := least_in 60000 2 (by decide) (by decide) w
  rwa [show lv 60000 2 = 20 by decide +kernel, show lc 60000 2 = 0 by decide +kernel] at h
theorem ex_size16 (w : World) : Calls Try.prog 17 #[.int .i64 16] w fun e w' => e = .returned (.bool true) ∧ Below w.heap.size w w' := size_any 16 w
theorem ex_size14 (w : World) : Calls Try.prog 17 #[.int .i64 14] w fun e w' => e = .returned (.bool false) ∧ Below w.heap.size w w' := size_any 14 w
set_option maxRecDepth 100000 in
theorem awake_any (w : World) : Calls Try.prog 10 #[] w fun e w' => e = .returned (.bool true) ∧ Below w.heap.size w w' := by
  have B := Below.refl w.heap.size w
  go_enter Try.func10, Try.ntmps10
  go_wp2_with (first
    | (go_at_call 14; (with_reducible refine (ex_area _).mono ?_); rintro e w1 ⟨rfl, hb⟩; replace B := belows B hb; clear hb)
    | (go_at_call 22; (with_reducible refine (ex_mass _).mono ?_); rintro e w2 ⟨rfl, hb⟩; replace B := belows B hb; clear hb)
    | (go_at_call 15; (with_reducible refine (ex_bend _).mono ?_); rintro e w3 ⟨rfl, hb⟩; replace B := belows B hb; clear hb)
    | (go_at_call 16; (with_reducible refine (ex_round _).mono ?_); rintro e w4 ⟨rfl, hb⟩; replace B := belows B hb; clear hb)
    | (go_at_call 24; (with_reducible refine (ex_least3 _).mono ?_); rintro e w5 ⟨rfl, hb⟩; replace B := belows B hb; clear hb)
    | (go_at_call 24; (with_reducible refine (ex_least2 _).mono ?_); rintro e w6 ⟨rfl, hb⟩; replace B := belows B hb; clear hb)
    | (go_at_call 17; (with_reducible refine (ex_size16 _).mono ?_); rintro e w7 ⟨rfl, hb⟩; replace B := belows B hb; clear hb)
    | (go_at_call 17; (with_reducible refine (ex_size14 _).mono ?_); rintro e w8 ⟨rfl, hb⟩; replace B := belows B hb; clear hb))
  go_ret
  exact ⟨rfl, B⟩
set_option maxRecDepth 100000 in
theorem equal_sz (g g' : Nat) (w : World) (h1 : Zs w g) (h2 : Zs w g') :
    Calls Try.prog 12 #[.slice (some ⟨g, 0, none⟩) 9 9, .slice (some ⟨g', 0, none⟩) 9 9] w fun e w' => e = .returned (.bool true) ∧ Below w.heap.size w w' := by
  go_enter Try.func12, Try.ntmps12
  go_wp2
  go_loopw [13] (fun v wr => ∃ k : Nat, v = .int .i64 k ∧ k ≤ 9 ∧ ∃ n, wr = w.drewN n) (fun v _ => 9 - (intOf v).toNat)
  case atStart => exact ⟨0, rfl, Nat.zero_le _, 0, rfl⟩
  case round =>
    obtain ⟨k, rfl, hk, nd, rfl⟩ := hrel
    by_cases hlt : k < 9
    · have g1 : decide ((k : Int) < 9) = true := by simp; omega
      have W1 : IntKind.i64.wrap ((k : Int) + 1) = ((k + 1 : Nat) : Int) := by rw [IntWalk.i64_in _ (by omega)]; omega
      have q1 : (0 : Int) ≤ (k : Int) := by omega
      have q2 : (k : Int) < 9 := by omega
      have c1 := h1.read hlt
      have c2 := h2.read hlt
      generalize sz[k]'hlt = x at *
      have t2 : (x != x) = false := by simp
      go_wp2_with fail
      go_quiet (fail)
      go_wp2
      exact ⟨⟨k + 1, rfl, hlt, _, rfl⟩, by simp [intOf]; omega⟩
    · have g1 : decide ((k : Int) < 9) = false := by simp; omega
      go_wp2
      go_ret
      exact ⟨rfl, below_drewN (Below.refl _ _) _⟩
end Go.Proofs.Yteehgkjhdaknmaa
