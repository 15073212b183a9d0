/- SteelGrows, SteelAdds: the walks. -/
import Derived.Test.YteehgkjhdaknmaaL1
namespace Go.Proofs.Yteehgkjhdaknmaa
open Go.ChangeShapes Go.WideShapes Go.ChangeAt Go.RowKit
set_option linter.unusedVariables false
set_option linter.unusedSimpArgs false

theorem ms_grow {c d n : Int} (hc : 0 ≤ c) (h : 6165 * c * c * 1000 + 1000000 ≤ 6165 * d * d * 1000) (hn : 1000 ≤ n) : ms c n < ms d n := by
  have k1 : 0 ≤ 6165 * c * c := Int.mul_nonneg (by omega) hc
  have k2 : 6165 * c * c + 1000 ≤ 6165 * d * d := by omega
  obtain ⟨a, ha⟩ : ∃ a, a = 6165 * c * c := ⟨_, rfl⟩
  obtain ⟨b, hb⟩ : ∃ b, b = 6165 * d * d := ⟨_, rfl⟩
  unfold ms
  rw [← ha] at k1 k2 ⊢
  rw [← hb] at k2 ⊢
  have k3 : a * n + 1000000 ≤ b * n := by
    have h1 : (a + 1000) * n ≤ b * n := Int.mul_le_mul_of_nonneg_right k2 (by omega)
    rw [Int.add_mul] at h1
    omega
  have k4 : 0 ≤ a * n := Int.mul_nonneg k1 (by omega)
  generalize a * n = x at *
  generalize b * n = y at *
  rw [Int.tdiv_eq_ediv_of_nonneg (by omega), Int.tdiv_eq_ediv_of_nonneg (by omega)]
  omega
theorem grows {k : Nat} (hk : k + 1 < 9) {n : Int} (hn : 1000 ≤ n) :
    (sz[k]'(show k < 9 by omega)) < (sz[k + 1]'hk) ∧ ar (sz[k]'(show k < 9 by omega)) < ar (sz[k + 1]'hk) ∧ bn (sz[k]'(show k < 9 by omega)) < bn (sz[k + 1]'hk) ∧ ms (sz[k]'(show k < 9 by omega)) n < ms (sz[k + 1]'hk) n := by
  match k, hk with
  | 0, _ => exact (show (6 : Int) < 8 ∧ ar 6 < ar 8 ∧ bn 6 < bn 8 ∧ ms 6 n < ms 8 n from ⟨by decide, by decide, by decide, ms_grow (by decide) (by decide) hn⟩)
  | 1, _ => exact (show (8 : Int) < 10 ∧ ar 8 < ar 10 ∧ bn 8 < bn 10 ∧ ms 8 n < ms 10 n from ⟨by decide, by decide, by decide, ms_grow (by decide) (by decide) hn⟩)
  | 2, _ => exact (show (10 : Int) < 12 ∧ ar 10 < ar 12 ∧ bn 10 < bn 12 ∧ ms 10 n < ms 12 n from ⟨by decide, by decide, by decide, ms_grow (by decide) (by decide) hn⟩)
  | 3, _ => exact (show (12 : Int) < 16 ∧ ar 12 < ar 16 ∧ bn 12 < bn 16 ∧ ms 12 n < ms 16 n from ⟨by decide, by decide, by decide, ms_grow (by decide) (by decide) hn⟩)
  | 4, _ => exact (show (16 : Int) < 20 ∧ ar 16 < ar 20 ∧ bn 16 < bn 20 ∧ ms 16 n < ms 20 n from ⟨by decide, by decide, by decide, ms_grow (by decide) (by decide) hn⟩)
  | 5, _ => exact (show (20 : Int) < 25 ∧ ar 20 < ar 25 ∧ bn 20 < bn 25 ∧ ms 20 n < ms 25 n from ⟨by decide, by decide, by decide, ms_grow (by decide) (by decide) hn⟩)
  | 6, _ => exact (show (25 : Int) < 32 ∧ ar 25 < ar 32 ∧ bn 25 < bn 32 ∧ ms 25 n < ms 32 n from ⟨by decide, by decide, by decide, ms_grow (by decide) (by decide) hn⟩)
  | 7, _ => exact (show (32 : Int) < 40 ∧ ar 32 < ar 40 ∧ bn 32 < bn 40 ∧ ms 32 n < ms 40 n from ⟨by decide, by decide, by decide, ms_grow (by decide) (by decide) hn⟩)
theorem size_ok (d : Int) (h : isz d = true) (w : World) : Calls Try.prog 17 #[.int .i64 d] w fun e w' => e = .returned (.bool true) ∧ Below w.heap.size w w' := by
  have k := size_any d w
  rwa [h] at k
set_option maxHeartbeats 2000000 in
set_option maxRecDepth 100000 in
theorem grows_walk (m : Int) (w : World) (hm : 0 ≤ m ∧ m ≤ 4294967295) :
    Calls Try.prog 6 #[.int .u32 m] w fun e w' => e = .returned (.bool true) ∧ Below w.heap.size w w' := by
  have B := Below.refl w.heap.size w
  have W0 : IntKind.i64.wrap m = m := IntWalk.i64_in _ (by omega)
  obtain ⟨x, hx, hx0, hx1⟩ : ∃ x : Int, m.tmod 1047577 = x ∧ 0 ≤ x ∧ x ≤ 1047576 := ⟨_, rfl, by rw [Int.tmod_eq_emod_of_nonneg hm.1]; omega, by rw [Int.tmod_eq_emod_of_nonneg hm.1]; omega⟩
  have W1 : IntKind.i64.wrap x = x := IntWalk.i64_in _ (by omega)
  obtain ⟨n, W2, hn0, hn1⟩ : ∃ n, IntKind.i64.wrap (1000 + x) = n ∧ 1000 ≤ n ∧ n ≤ 1048576 := ⟨1000 + x, IntWalk.i64_in _ (by omega), by omega, by omega⟩
  have HM := Lib.hid hm
  have HN := Lib.hid (And.intro hn0 hn1)
  clear hx0 hx1 hm hn0 hn1
  go_enter Try.func6, Try.ntmps6
  go_wp2_with (first
    | (go_at_call 10; (with_reducible refine (awake_any _).mono ?_); rintro e w1 ⟨rfl, hb⟩; replace B := belows B hb; clear hb)
    | (go_at_call 11; (with_reducible refine (sizes_any _).mono ?_); rintro e w2 ⟨g, rfl, hZ, hb, hg⟩; replace B := belows B hb; clear hb hg))
  go_loopw [28] (fun v wr => ∃ k : Nat, v = .int .i64 k ∧ k ≤ 9 ∧ Below w2.heap.size w2 wr) (fun v _ => 9 - (intOf v).toNat)
  case atStart => exact ⟨0, rfl, Nat.zero_le _, Below.refl _ _⟩
  case round =>
    obtain ⟨k, rfl, hk, hB⟩ := hrel
    by_cases hlt : k < 9
    · have g1 : decide ((k : Int) < 9) = true := by simp; omega
      have V1 : IntKind.i64.wrap ((k : Int) + 1) = ((k + 1 : Nat) : Int) := by rw [IntWalk.i64_in _ (by omega)]; omega
      have q1 : (0 : Int) ≤ (k : Int) := by omega
      have q2 : (k : Int) < 9 := by omega
      have hz := hZ.on hB
      have d0 := hz.read hlt
      have hi := isz_at hlt
      have HG := Lib.hid (fun (j : Nat) (e : k = j + 1) => grows (k := j) (by omega) HN.out.1)
      rcases Nat.eq_zero_or_pos k with rfl | hp
      · generalize sz[0]'hlt = d at *
        have h1 := fun W => area_ok d hi W
        have h2 := fun W => mass_ok d n hi (by have := HN.out; omega) HN.out.2 W
        have h3 := fun W => bend_ok d hi W
        have h4 := fun W => size_ok d hi W
        clear hi HG
        generalize ar d = a at *
        generalize ms d n = b at *
        generalize bn d = c at *
        go_wp2_with (first
          | (go_at_call 14; (with_reducible refine (h1 _).mono ?_); rintro e w3 ⟨rfl, hb⟩; replace hB := belows hB hb; clear hb h1)
          | (go_at_call 22; (with_reducible refine (h2 _).mono ?_); rintro e w4 ⟨rfl, hb⟩; replace hB := belows hB hb; clear hb h2)
          | (go_at_call 15; (with_reducible refine (h3 _).mono ?_); rintro e w5 ⟨rfl, hb⟩; replace hB := belows hB hb; clear hb h3)
          | (go_at_call 17; (with_reducible refine (h4 _).mono ?_); rintro e w6 ⟨rfl, hb⟩; replace hB := belows hB hb; clear hb h4))
        exact ⟨⟨1, rfl, by omega, hB⟩, by simp [intOf]⟩
      · obtain ⟨j, rfl⟩ : ∃ j, k = j + 1 := ⟨k - 1, by omega⟩
        have g2 : (((j + 1 : Nat) : Int) == 0) = false := by simp; omega
        have g3 : ((j : Int) + 1 == 0) = false := by simp; omega
        have g4 : ¬ ((j : Int) + 1 = 0) := by omega
        have V2 : IntKind.i64.wrap (((j + 1 : Nat) : Int) - 1) = (j : Int) := by rw [IntWalk.i64_in _ (by omega)]; omega
        have V3 : IntKind.i64.wrap ((j : Int) + 1 - 1) = (j : Int) := by rw [IntWalk.i64_in _ (by omega)]; omega
        have q3 : (0 : Int) ≤ (j : Int) := by omega
        have q4 : (j : Int) < 9 := by omega
        have c0 := hz.read (show j < 9 by omega)
        have hj := isz_at (show j < 9 by omega)
        obtain ⟨r1, r2, r3, r4⟩ := HG.out j rfl
        clear HG
        generalize sz[j + 1]'hlt = d at *
        generalize sz[j]'(show j < 9 by omega) = u at *
        have h1 := fun W => area_ok d hi W
        have h2 := fun W => mass_ok d n hi (by have := HN.out; omega) HN.out.2 W
        have h3 := fun W => bend_ok d hi W
        have h4 := fun W => size_ok d hi W
        have i1 := fun W => area_ok u hj W
        have i2 := fun W => mass_ok u n hj (by have := HN.out; omega) HN.out.2 W
        have i3 := fun W => bend_ok u hj W
        clear hi hj
        generalize ar d = a at *
        generalize ms d n = b at *
        generalize bn d = c at *
        generalize ar u = a' at *
        generalize ms u n = b' at *
        generalize bn u = c' at *
        have t1 : decide (d ≤ u) = false := decide_eq_false (by omega)
        have t2 : decide (a ≤ a') = false := decide_eq_false (by omega)
        have t3 : decide (b ≤ b') = false := decide_eq_false (by omega)
        have t4 : decide (c ≤ c') = false := decide_eq_false (by omega)
        clear r1 r2 r3 r4
        go_wp2_with (first
          | (go_at_call 14; (with_reducible refine (h1 _).mono ?_); rintro e w3 ⟨rfl, hb⟩; replace hB := belows hB hb; replace c0 := cell_later hb c0; clear hb h1)
          | (go_at_call 22; (with_reducible refine (h2 _).mono ?_); rintro e w4 ⟨rfl, hb⟩; replace hB := belows hB hb; replace c0 := cell_later hb c0; clear hb h2)
          | (go_at_call 15; (with_reducible refine (h3 _).mono ?_); rintro e w5 ⟨rfl, hb⟩; replace hB := belows hB hb; replace c0 := cell_later hb c0; clear hb h3)
          | (go_at_call 17; (with_reducible refine (h4 _).mono ?_); rintro e w6 ⟨rfl, hb⟩; replace hB := belows hB hb; replace c0 := cell_later hb c0; clear hb h4)
          | (go_at_call 14; (with_reducible refine (i1 _).mono ?_); rintro e w7 ⟨rfl, hb⟩; replace hB := belows hB hb; replace c0 := cell_later hb c0; clear hb)
          | (go_at_call 22; (with_reducible refine (i2 _).mono ?_); rintro e w8 ⟨rfl, hb⟩; replace hB := belows hB hb; replace c0 := cell_later hb c0; clear hb)
          | (go_at_call 15; (with_reducible refine (i3 _).mono ?_); rintro e w9 ⟨rfl, hb⟩; replace hB := belows hB hb; replace c0 := cell_later hb c0; clear hb))
        exact ⟨⟨j + 1 + 1, rfl, by omega, hB⟩, by simp [intOf]; omega⟩
    · have g1 : decide ((k : Int) < 9) = false := by simp; omega
      go_wp2
      go_ret
      exact ⟨rfl, belows B hB⟩
theorem ms_add {d x y : Int} (hd : isz d = true) (hx : 0 ≤ x ∧ x ≤ 524288) (hy : 0 ≤ y ∧ y ≤ 524288) :
    ms d (x + y) - ms d x - ms d y ≤ 1 ∧ ms d x + ms d y - ms d (x + y) ≤ 1 := by
  have b1 := ms_b hd hx.1 (by omega)
  have b2 := ms_b hd hy.1 (by omega)
  unfold ms
  rw [Int.mul_add]
  generalize 6165 * d * d * x = a at *
  generalize 6165 * d * d * y = b at *
  rw [Int.tdiv_eq_ediv_of_nonneg (by omega), Int.tdiv_eq_ediv_of_nonneg (by omega), Int.tdiv_eq_ediv_of_nonneg (by omega)]
  omega
set_option maxRecDepth 100000 in
theorem adds_walk (q a b : Int) (w : World) (hq : 0 ≤ q ∧ q ≤ 255) (ha : 0 ≤ a ∧ a ≤ 4294967295) (hb : 0 ≤ b ∧ b ≤ 4294967295) :
    Calls Try.prog 7 #[.int .u8 q, .int .u32 a, .int .u32 b] w fun e w' => e = .returned (.bool true) ∧ Below w.heap.size w w' := by
  have B := Below.refl w.heap.size w
  have W0 : IntKind.i64.wrap q = q := IntWalk.i64_in _ (by omega)
  have W01 : IntKind.i64.wrap a = a := IntWalk.i64_in _ (by omega)
  have W02 : IntKind.i64.wrap b = b := IntWalk.i64_in _ (by omega)
  obtain ⟨k, hk, hk9⟩ : ∃ k : Nat, q.tmod 9 = (k : Int) ∧ k < 9 := ⟨(q % 9).toNat, by rw [Int.tmod_eq_emod_of_nonneg hq.1]; omega, by omega⟩
  obtain ⟨x, hx, hx0⟩ : ∃ x : Int, a.tmod 524289 = x ∧ 0 ≤ x ∧ x ≤ 524288 := ⟨_, rfl, by rw [Int.tmod_eq_emod_of_nonneg ha.1]; omega⟩
  obtain ⟨y, hy, hy0⟩ : ∃ y : Int, b.tmod 524289 = y ∧ 0 ≤ y ∧ y ≤ 524288 := ⟨_, rfl, by rw [Int.tmod_eq_emod_of_nonneg hb.1]; omega⟩
  have W1 : IntKind.i64.wrap (k : Int) = (k : Int) := IntWalk.i64_in _ (by omega)
  have W2 : IntKind.i64.wrap x = x := IntWalk.i64_in _ (by omega)
  have W3 : IntKind.i64.wrap y = y := IntWalk.i64_in _ (by omega)
  have W4 : IntKind.i64.wrap (x + y) = x + y := IntWalk.i64_in _ (by omega)
  have q1 : (0 : Int) ≤ (k : Int) := by omega
  have q2 : (k : Int) < 9 := by omega
  have hi := isz_at hk9
  have hr := fun g W (h : Zs W g) => h.read hk9
  generalize sz[k]'hk9 = d at *
  have h1 := fun W => mass_ok d x hi hx0.1 (by omega) W
  have h2 := fun W => mass_ok d y hi hy0.1 (by omega) W
  have h3 := fun W => mass_ok d (x + y) hi (by omega) (by omega) W
  have b1 := (ms_b (n := x) hi hx0.1 (by omega)).2.2.2
  have b2 := (ms_b (n := y) hi hy0.1 (by omega)).2.2.2
  have b3 := (ms_b (n := x + y) hi (by omega) (by omega)).2.2.2
  have b4 := ms_add hi hx0 hy0
  generalize ms d x = m at *
  generalize ms d y = n at *
  generalize ms d (x + y) = p at *
  have V1 : IntKind.i64.wrap (p - m) = p - m := IntWalk.i64_in _ (by omega)
  have V2 : IntKind.i64.wrap (p - m - n) = p - m - n := IntWalk.i64_in _ (by omega)
  have V3 : IntKind.i64.wrap (m + n) = m + n := IntWalk.i64_in _ (by omega)
  have V4 : IntKind.i64.wrap (m + n - p) = m + n - p := IntWalk.i64_in _ (by omega)
  have g1 : decide (p - m - n ≤ 1) = true := decide_eq_true b4.1
  have g2 : decide (m + n - p ≤ 1) = true := decide_eq_true b4.2
  clear hq ha hb hx0 hy0 hi hk9 b1 b2 b3 b4
  by_cases hc : p - m - n < m + n - p
  · go_enter Try.func7, Try.ntmps7
    go_wp2_with (first
      | (go_at_call 10; (with_reducible refine (awake_any _).mono ?_); rintro e w1 ⟨rfl, hb⟩; replace B := belows B hb; clear hb)
      | (go_at_call 11; (with_reducible refine (sizes_any _).mono ?_); rintro e w2 ⟨g, rfl, hZ, hb, hg⟩; have hz := hr g _ hZ; replace B := belows B hb; clear hb hg)
      | (go_at_call 22; (with_reducible refine (h1 _).mono ?_); rintro e w4 ⟨rfl, hb⟩; replace B := belows B hb; clear hb)
      | (go_at_call 22; (with_reducible refine (h2 _).mono ?_); rintro e w5 ⟨rfl, hb⟩; replace B := belows B hb; clear hb)
      | (go_at_call 22; (with_reducible refine (h3 _).mono ?_); rintro e w6 ⟨rfl, hb⟩; replace B := belows B hb; clear hb))
    go_ret
    exact ⟨rfl, B⟩
  · go_enter Try.func7, Try.ntmps7
    go_wp2_with (first
      | (go_at_call 10; (with_reducible refine (awake_any _).mono ?_); rintro e w1 ⟨rfl, hb⟩; replace B := belows B hb; clear hb)
      | (go_at_call 11; (with_reducible refine (sizes_any _).mono ?_); rintro e w2 ⟨g, rfl, hZ, hb, hg⟩; have hz := hr g _ hZ; replace B := belows B hb; clear hb hg)
      | (go_at_call 22; (with_reducible refine (h1 _).mono ?_); rintro e w4 ⟨rfl, hb⟩; replace B := belows B hb; clear hb)
      | (go_at_call 22; (with_reducible refine (h2 _).mono ?_); rintro e w5 ⟨rfl, hb⟩; replace B := belows B hb; clear hb)
      | (go_at_call 22; (with_reducible refine (h3 _).mono ?_); rintro e w6 ⟨rfl, hb⟩; replace B := belows B hb; clear hb))
    go_ret
    exact ⟨rfl, B⟩
end Go.Proofs.Yteehgkjhdaknmaa
