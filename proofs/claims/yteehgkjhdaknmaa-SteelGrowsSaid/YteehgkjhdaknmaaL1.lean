/- SteelSizes, SteelMasses, SteelLeast, SteelHalves: the walks. -/
import Derived.Test.YteehgkjhdaknmaaA4
namespace Go.Proofs.Yteehgkjhdaknmaa
open Go.ChangeShapes Go.WideShapes Go.ChangeAt Go.RowKit
set_option linter.unusedVariables false
set_option linter.unusedSimpArgs false

theorem put_below {w0 w : World} {g : Nat} (hb : Below w0.heap.size w0 w) (hg : w0.heap.size ≤ g) (i : Nat) (u : Value) : Below w0.heap.size w0 (w.setCell ⟨g, i, none⟩ u) :=
  hb.trans (((At.refl g w).put i u).below hg)
set_option maxRecDepth 100000 in
theorem sizes_walk (d : Int) (w : World) (hd : I64 d) :
    Calls Try.prog 3 #[.int .i64 d] w fun e w' => e = .returned (.bool true) ∧ Below w.heap.size w w' := by
  have B := Below.refl w.heap.size w
  have hs := fun W => size_any d W
  have hr := fun W => rsize_any d W
  cases h : isz d
  · rw [h] at hs hr
    have h1 := fun W => area_no d h W
    have h2 := fun W => bend_no d h W
    have h3 := fun W => round_no d h W
    clear h hd
    have F1 : True := trivial
    go_enter Try.func3, Try.ntmps3
    go_wp2_with (first
      | (go_at_call 10; (with_reducible refine (awake_any _).mono ?_); rintro e w1 ⟨rfl, hb⟩; replace B := belows B hb; clear hb)
      | (go_at_call 11; (with_reducible refine (sizes_any _).mono ?_); rintro e w2 ⟨g, rfl, hZ, hb, hg⟩; replace hg := Nat.le_trans B.size hg; replace B := belows B hb; clear hb)
      | (go_at_call 13; (with_reducible refine (rsizes_any _).mono ?_); rintro e w3 ⟨g', rfl, hZ', hb, hg'⟩; replace hZ := hZ.on hb; replace B := belows B hb; clear hb hg')
      | (go_at_call 12; clear F1; (with_reducible refine (equal_sz g g' _ hZ hZ').mono ?_); rintro e w4 ⟨rfl, hb⟩; replace hZ := hZ.on hb; replace B := belows B hb; clear hb hZ'; have hF := Has.open_ hZ 0; have hL := hZ.size_; have hY := Has.read hZ 0; replace B := put_below B hg 0 (.int .i64 0); clear hZ)
      | (go_at_call 12; (with_reducible refine (equal_sz g g' _ hZ hZ').mono ?_); rintro e w4 ⟨rfl, hb⟩; replace B := belows B hb; clear hb hZ' hZ hg)
      | (go_at_call 14; (with_reducible refine (h1 _).mono ?_); rintro e w5 ⟨rfl, hb⟩; replace B := belows B hb; clear hb hF hY hL hg h1)
      | (go_at_call 15; (with_reducible refine (h2 _).mono ?_); rintro e w6 ⟨rfl, hb⟩; replace B := belows B hb; clear hb h2)
      | (go_at_call 16; (with_reducible refine (h3 _).mono ?_); rintro e w7 ⟨rfl, hb⟩; replace B := belows B hb; clear hb h3)
      | (go_at_call 17; (with_reducible refine (hs _).mono ?_); rintro e w8 ⟨rfl, hb⟩; replace B := belows B hb; clear hb)
      | (go_at_call 18; (with_reducible refine (hr _).mono ?_); rintro e w9 ⟨rfl, hb⟩; replace B := belows B hb; clear hb))
    go_ret
    exact ⟨rfl, B⟩
  · rw [h] at hs hr
    have h1 := fun W => area_ok d h W
    have h2 := fun W => bend_ok d h W
    have h3 := fun W => round_ok d h W
    have k1 := fun W => rarea_ok d h W
    have k2 := fun W => rbend_ok d h W
    have k3 := fun W => rround_ok d h W
    generalize ar d = x at *
    generalize bn d = y at *
    generalize hf d = z at *
    clear h hd
    have F1 : True := trivial
    go_enter Try.func3, Try.ntmps3
    go_wp2_with (first
      | (go_at_call 10; (with_reducible refine (awake_any _).mono ?_); rintro e w1 ⟨rfl, hb⟩; replace B := belows B hb; clear hb)
      | (go_at_call 11; (with_reducible refine (sizes_any _).mono ?_); rintro e w2 ⟨g, rfl, hZ, hb, hg⟩; replace hg := Nat.le_trans B.size hg; replace B := belows B hb; clear hb)
      | (go_at_call 13; (with_reducible refine (rsizes_any _).mono ?_); rintro e w3 ⟨g', rfl, hZ', hb, hg'⟩; replace hZ := hZ.on hb; replace B := belows B hb; clear hb hg')
      | (go_at_call 12; clear F1; (with_reducible refine (equal_sz g g' _ hZ hZ').mono ?_); rintro e w4 ⟨rfl, hb⟩; replace hZ := hZ.on hb; replace B := belows B hb; clear hb hZ'; have hF := Has.open_ hZ 0; have hL := hZ.size_; have hY := Has.read hZ 0; replace B := put_below B hg 0 (.int .i64 0); clear hZ)
      | (go_at_call 12; (with_reducible refine (equal_sz g g' _ hZ hZ').mono ?_); rintro e w4 ⟨rfl, hb⟩; replace B := belows B hb; clear hb hZ' hZ hg)
      | (go_at_call 14; (with_reducible refine (h1 _).mono ?_); rintro e w5 ⟨rfl, hb⟩; replace B := belows B hb; clear hb hF hY hL hg h1)
      | (go_at_call 15; (with_reducible refine (h2 _).mono ?_); rintro e w6 ⟨rfl, hb⟩; replace B := belows B hb; clear hb h2)
      | (go_at_call 16; (with_reducible refine (h3 _).mono ?_); rintro e w7 ⟨rfl, hb⟩; replace B := belows B hb; clear hb h3)
      | (go_at_call 17; (with_reducible refine (hs _).mono ?_); rintro e w8 ⟨rfl, hb⟩; replace B := belows B hb; clear hb)
      | (go_at_call 18; (with_reducible refine (hr _).mono ?_); rintro e w9 ⟨rfl, hb⟩; replace B := belows B hb; clear hb)
      | (go_at_call 19; (with_reducible refine (k1 _).mono ?_); rintro e w10 ⟨rfl, rfl⟩)
      | (go_at_call 20; (with_reducible refine (k2 _).mono ?_); rintro e w11 ⟨rfl, rfl⟩)
      | (go_at_call 21; (with_reducible refine (k3 _).mono ?_); rintro e w12 ⟨rfl, rfl⟩))
    go_ret
    exact ⟨by simp, B⟩
set_option maxRecDepth 100000 in
theorem masses_walk (d n : Int) (w : World) (hd : I64 d) (hn : I64 n) :
    Calls Try.prog 4 #[.int .i64 d, .int .i64 n] w fun e w' => e = .returned (.bool true) ∧ Below w.heap.size w w' := by
  have B := Below.refl w.heap.size w
  have hr := fun W => rsize_any d W
  cases h : isz d
  · rw [h] at hr
    have h1 := fun W => mass_no d n h W
    clear h hd hn
    go_enter Try.func4, Try.ntmps4
    go_wp2_with (first
      | (go_at_call 10; (with_reducible refine (awake_any _).mono ?_); rintro e w1 ⟨rfl, hb⟩; replace B := belows B hb; clear hb)
      | (go_at_call 22; (with_reducible refine (h1 _).mono ?_); rintro e w5 ⟨rfl, hb⟩; replace B := belows B hb; clear hb)
      | (go_at_call 18; (with_reducible refine (hr _).mono ?_); rintro e w9 ⟨rfl, hb⟩; replace B := belows B hb; clear hb))
    go_ret
    exact ⟨rfl, B⟩
  · rw [h] at hr
    by_cases hx : n < 0
    · have h1 := fun W => mass_out d n h (.inl hx) W
      have g1 : decide (n < 0) = true := decide_eq_true hx
      clear h hd hn
      go_enter Try.func4, Try.ntmps4
      go_wp2_with (first
        | (go_at_call 10; (with_reducible refine (awake_any _).mono ?_); rintro e w1 ⟨rfl, hb⟩; replace B := belows B hb; clear hb)
        | (go_at_call 22; (with_reducible refine (h1 _).mono ?_); rintro e w5 ⟨rfl, hb⟩; replace B := belows B hb; clear hb)
        | (go_at_call 18; (with_reducible refine (hr _).mono ?_); rintro e w9 ⟨rfl, hb⟩; replace B := belows B hb; clear hb))
      go_ret
      exact ⟨rfl, B⟩
    · have g1 : decide (n < 0) = false := decide_eq_false hx
      by_cases hy : 1048576 < n
      · have h1 := fun W => mass_out d n h (.inr hy) W
        have g2 : decide (1048576 < n) = true := decide_eq_true hy
        clear h hd hn
        go_enter Try.func4, Try.ntmps4
        go_wp2_with (first
          | (go_at_call 10; (with_reducible refine (awake_any _).mono ?_); rintro e w1 ⟨rfl, hb⟩; replace B := belows B hb; clear hb)
          | (go_at_call 22; (with_reducible refine (h1 _).mono ?_); rintro e w5 ⟨rfl, hb⟩; replace B := belows B hb; clear hb)
          | (go_at_call 18; (with_reducible refine (hr _).mono ?_); rintro e w9 ⟨rfl, hb⟩; replace B := belows B hb; clear hb))
        go_ret
        exact ⟨rfl, B⟩
      · have g2 : decide (1048576 < n) = false := decide_eq_false hy
        have h1 := fun W => mass_ok d n h (by omega) (by omega) W
        have h2 := fun W => rmass_ok d n h (by omega) (by omega) W
        generalize ms d n = m at *
        clear h hd hn
        go_enter Try.func4, Try.ntmps4
        go_wp2_with (first
          | (go_at_call 10; (with_reducible refine (awake_any _).mono ?_); rintro e w1 ⟨rfl, hb⟩; replace B := belows B hb; clear hb)
          | (go_at_call 22; (with_reducible refine (h1 _).mono ?_); rintro e w5 ⟨rfl, hb⟩; replace B := belows B hb; clear hb)
          | (go_at_call 18; (with_reducible refine (hr _).mono ?_); rintro e w9 ⟨rfl, hb⟩; replace B := belows B hb; clear hb)
          | (go_at_call 23; (with_reducible refine (h2 _).mono ?_); rintro e w6 ⟨rfl, rfl⟩))
        go_ret
        exact ⟨by simp, B⟩
theorem rleast_below (a n : Int) (x y : Int) (w : World) (h : Calls Try.prog 25 #[.int .i64 a, .int .i64 n] w fun e w' => e = .returned (.tuple #[.int .i64 x, .int .i64 y]) ∧ w = w') : Calls Try.prog 25 #[.int .i64 a, .int .i64 n] w fun e w' => e = .returned (.tuple #[.int .i64 x, .int .i64 y]) ∧ Below w.heap.size w w' :=
  h.mono fun e w' h => ⟨h.1, h.2 ▸ Below.refl _ _⟩
theorem least_below (a n : Int) (x y : Int) (w : World) (h : Calls Try.prog 24 #[.int .i64 a, .int .i64 n] w fun e w' => e = .returned (.tuple #[.int .i64 x, .int .i64 y]) ∧ w = w') : Calls Try.prog 24 #[.int .i64 a, .int .i64 n] w fun e w' => e = .returned (.tuple #[.int .i64 x, .int .i64 y]) ∧ Below w.heap.size w w' :=
  h.mono fun e w' h => ⟨h.1, h.2 ▸ Below.refl _ _⟩
theorem both_least (a n : Int) : ∃ x y, (∀ W, Calls Try.prog 24 #[.int .i64 a, .int .i64 n] W fun e w' => e = .returned (.tuple #[.int .i64 x, .int .i64 y]) ∧ Below W.heap.size W w') ∧
    ∀ W, Calls Try.prog 25 #[.int .i64 a, .int .i64 n] W fun e w' => e = .returned (.tuple #[.int .i64 x, .int .i64 y]) ∧ Below W.heap.size W w' := by
  by_cases h : a < 0 ∨ 1099511627776 < a ∨ n < 1 ∨ 1000 < n
  · exact ⟨0, 2, fun W => least_below _ _ _ _ _ (least_out a n h W), fun W => rleast_below _ _ _ _ _ (rleast_out a n h W)⟩
  · exact ⟨_, _, fun W => least_in a n (by omega) (by omega) W, fun W => rleast_in a n (by omega) (by omega) W⟩
set_option maxRecDepth 100000 in
theorem least_walk (a n : Int) (w : World) (ha : I64 a) (hn : I64 n) :
    Calls Try.prog 5 #[.int .i64 a, .int .i64 n] w fun e w' => e = .returned (.bool true) ∧ Below w.heap.size w w' := by
  have B := Below.refl w.heap.size w
  obtain ⟨x, y, h1, h2⟩ := both_least a n
  clear ha hn
  go_enter Try.func5, Try.ntmps5
  go_wp2_with (first
    | (go_at_call 10; (with_reducible refine (awake_any _).mono ?_); rintro e w1 ⟨rfl, hb⟩; replace B := belows B hb; clear hb)
    | (go_at_call 24; (with_reducible refine (h1 _).mono ?_); rintro e w5 ⟨rfl, hb⟩; replace B := belows B hb; clear hb)
    | (go_at_call 25; (with_reducible refine (h2 _).mono ?_); rintro e w9 ⟨rfl, hb⟩; replace B := belows B hb; clear hb))
  go_ret
  exact ⟨by simp, B⟩
set_option maxRecDepth 100000 in
theorem halves_walk (n : Int) (w : World) (hn : 0 ≤ n ∧ n ≤ 255) :
    Calls Try.prog 9 #[.int .u8 n] w fun e w' => e = .returned (.bool true) ∧ Below w.heap.size w w' := by
  have B := Below.refl w.heap.size w
  have W0 : IntKind.i64.wrap n = n := IntWalk.i64_in _ (by omega)
  obtain ⟨k, hk, hk9⟩ : ∃ k : Nat, n.tmod 9 = (k : Int) ∧ k < 9 := ⟨(n % 9).toNat, by rw [Int.tmod_eq_emod_of_nonneg hn.1]; omega, by omega⟩
  have W1 : IntKind.i64.wrap (k : Int) = (k : Int) := IntWalk.i64_in _ (by omega)
  have q1 : (0 : Int) ≤ (k : Int) := by omega
  have q2 : (k : Int) < 9 := by omega
  have hi := isz_at hk9
  have hr := fun g W (h : Zs W g) => h.read hk9
  have hh : (0 ≤ hf (sz[k]'hk9) ∧ hf (sz[k]'hk9) ≤ 20) ∧ (sz[k]'hk9) ≤ 2 * hf (sz[k]'hk9) ∧ 2 * hf (sz[k]'hk9) ≤ (sz[k]'hk9) + 1 ∧ 0 ≤ (sz[k]'hk9) ∧ (sz[k]'hk9) ≤ 40 := by
    rcases isz_cases hi with e | e | e | e | e | e | e | e | e <;> rw [e] <;> decide
  generalize sz[k]'hk9 = d at *
  have h1 := fun W => round_ok d hi W
  generalize hf d = h at *
  obtain ⟨⟨b0, b1⟩, b2, b3, b4, b5⟩ := hh
  have W2 : IntKind.i64.wrap (2 * h) = 2 * h := IntWalk.i64_in _ (by omega)
  have W3 : IntKind.i64.wrap (d + 1) = d + 1 := IntWalk.i64_in _ (by omega)
  have g1 : decide (d ≤ 2 * h) = true := decide_eq_true b2
  have g2 : decide (2 * h ≤ d + 1) = true := decide_eq_true b3
  clear b0 b1 b4 b5 hi hk9
  go_enter Try.func9, Try.ntmps9
  go_wp2_with (first
    | (go_at_call 10; (with_reducible refine (awake_any _).mono ?_); rintro e w1 ⟨rfl, hb⟩; replace B := belows B hb; clear hb)
    | (go_at_call 11; (with_reducible refine (sizes_any _).mono ?_); rintro e w2 ⟨g, rfl, hZ, hb, hg⟩; have hz := hr g _ hZ; replace B := belows B hb; clear hb hg)
    | (go_at_call 16; (with_reducible refine (h1 _).mono ?_); rintro e w9 ⟨rfl, hb⟩; replace B := belows B hb; clear hb))
  go_ret
  exact ⟨rfl, B⟩
end Go.Proofs.Yteehgkjhdaknmaa
