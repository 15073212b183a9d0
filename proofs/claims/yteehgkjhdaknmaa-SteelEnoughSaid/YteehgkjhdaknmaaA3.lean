/- The least size of an area. -/
import Derived.Test.YteehgkjhdaknmaaA2
namespace Go.Proofs.Yteehgkjhdaknmaa
open Go.ChangeShapes Go.WideShapes Go.ChangeAt Go.RowKit
set_option linter.unusedVariables false
set_option linter.unusedSimpArgs false

/-- The least size of which n bars have the area a. -/
def lst (a n : Int) : Option Int := sz.find? fun d => decide (a ≤ n * ar d)
def lv (a n : Int) : Int := (lst a n).getD 0
def lc (a n : Int) : Int := if (lst a n).isSome then 0 else 12
theorem lst_hit {a n : Int} {k : Nat} (hk : k < 9) (h : ∀ (j : Nat) (hj : j < 9), j < k → n * ar (sz[j]'hj) < a) (e : a ≤ n * ar (sz[k]'hk)) : lst a n = some (sz[k]'hk) := by
  unfold lst
  rw [List.find?_eq_some_iff_getElem]
  exact ⟨decide_eq_true e, k, hk, rfl, fun j hj => by
    have := h j (by omega) hj
    have h2 : decide (a ≤ n * ar (sz[j]'(show j < 9 by omega))) = false := decide_eq_false (by omega)
    exact congrArg not h2⟩
theorem lst_miss {a n : Int} (h : ∀ (j : Nat) (hj : j < 9), n * ar (sz[j]'hj) < a) : lst a n = none := by
  unfold lst
  rw [List.find?_eq_none]
  intro y hy
  obtain ⟨j, hj, rfl⟩ := List.getElem_of_mem hy
  have := h j hj
  simpa using this
theorem isz_at {k : Nat} (hk : k < 9) : isz (sz[k]'hk) = true := by
  unfold isz; rw [List.contains_iff_mem]; exact List.getElem_mem hk
theorem ar_b {d n : Int} (h : isz d = true) (h0 : 1 ≤ n) (h1 : n ≤ 1000) : (2827 ≤ ar d ∧ ar d ≤ 125664) ∧ (0 ≤ n * ar d ∧ n * ar d ≤ 125664000) := by
  have k : 2827 ≤ ar d ∧ ar d ≤ 125664 := by
    rcases isz_cases h with rfl | rfl | rfl | rfl | rfl | rfl | rfl | rfl | rfl <;> exact ⟨by decide, by decide⟩
  refine ⟨k, Int.mul_nonneg (by omega) (by omega), ?_⟩
  have := Int.mul_le_mul h1 k.2 (by omega) (by omega)
  omega
theorem least_out (a n : Int) (h : a < 0 ∨ 1099511627776 < a ∨ n < 1 ∨ 1000 < n) (w : World) : Calls Try.prog 24 #[.int .i64 a, .int .i64 n] w fun e w' => e = .returned (.tuple #[.int .i64 0, .int .i64 2]) ∧ w = w' := by
  by_cases h1 : a < 0
  · have g1 : decide (a < 0) = true := decide_eq_true h1
    clear h
    go_enter Try.func24, Try.ntmps24
    go_wp2
    exact bodyPost_ret (v := .tuple #[.int .i64 0, .int .i64 2]) (by simp [results, Try.results24, go_sem]) rfl ⟨rfl, rfl⟩
  · have g1 : decide (a < 0) = false := decide_eq_false h1
    by_cases h2 : 1099511627776 < a
    · have g2 : decide (1099511627776 < a) = true := decide_eq_true h2
      clear h
      go_enter Try.func24, Try.ntmps24
      go_wp2
      exact bodyPost_ret (v := .tuple #[.int .i64 0, .int .i64 2]) (by simp [results, Try.results24, go_sem]) rfl ⟨rfl, rfl⟩
    · have g2 : decide (1099511627776 < a) = false := decide_eq_false h2
      by_cases h3 : n < 1
      · have g3 : decide (n < 1) = true := decide_eq_true h3
        clear h
        go_enter Try.func24, Try.ntmps24
        go_wp2
        exact bodyPost_ret (v := .tuple #[.int .i64 0, .int .i64 2]) (by simp [results, Try.results24, go_sem]) rfl ⟨rfl, rfl⟩
      · have h4 : 1000 < n := by omega
        have g3 : decide (n < 1) = false := decide_eq_false h3
        have g4 : decide (1000 < n) = true := decide_eq_true h4
        clear h
        go_enter Try.func24, Try.ntmps24
        go_wp2
        exact bodyPost_ret (v := .tuple #[.int .i64 0, .int .i64 2]) (by simp [results, Try.results24, go_sem]) rfl ⟨rfl, rfl⟩
theorem rleast_out (a n : Int) (h : a < 0 ∨ 1099511627776 < a ∨ n < 1 ∨ 1000 < n) (w : World) : Calls Try.prog 25 #[.int .i64 a, .int .i64 n] w fun e w' => e = .returned (.tuple #[.int .i64 0, .int .i64 2]) ∧ w = w' := by
  by_cases h1 : a < 0
  · have g1 : decide (a < 0) = true := decide_eq_true h1
    clear h
    go_enter Try.func25, Try.ntmps25
    go_wp2
    exact bodyPost_ret (v := .tuple #[.int .i64 0, .int .i64 2]) (by simp [results, Try.results25, go_sem]) rfl ⟨rfl, rfl⟩
  · have g1 : decide (a < 0) = false := decide_eq_false h1
    by_cases h2 : 1099511627776 < a
    · have g2 : decide (1099511627776 < a) = true := decide_eq_true h2
      clear h
      go_enter Try.func25, Try.ntmps25
      go_wp2
      exact bodyPost_ret (v := .tuple #[.int .i64 0, .int .i64 2]) (by simp [results, Try.results25, go_sem]) rfl ⟨rfl, rfl⟩
    · have g2 : decide (1099511627776 < a) = false := decide_eq_false h2
      by_cases h3 : n < 1
      · have g3 : decide (n < 1) = true := decide_eq_true h3
        clear h
        go_enter Try.func25, Try.ntmps25
        go_wp2
        exact bodyPost_ret (v := .tuple #[.int .i64 0, .int .i64 2]) (by simp [results, Try.results25, go_sem]) rfl ⟨rfl, rfl⟩
      · have h4 : 1000 < n := by omega
        have g3 : decide (n < 1) = false := decide_eq_false h3
        have g4 : decide (1000 < n) = true := decide_eq_true h4
        clear h
        go_enter Try.func25, Try.ntmps25
        go_wp2
        exact bodyPost_ret (v := .tuple #[.int .i64 0, .int .i64 2]) (by simp [results, Try.results25, go_sem]) rfl ⟨rfl, rfl⟩
set_option maxRecDepth 100000 in
theorem least_in (a n : Int) (ha : 0 ≤ a ∧ a ≤ 1099511627776) (hn : 1 ≤ n ∧ n ≤ 1000) (w : World) : Calls Try.prog 24 #[.int .i64 a, .int .i64 n] w fun e w' => e = .returned (.tuple #[.int .i64 (lv a n), .int .i64 (lc a n)]) ∧ Below w.heap.size w w' := by
  have g1 : decide (a < 0) = false := decide_eq_false (by omega)
  have g2 : decide (1099511627776 < a) = false := decide_eq_false (by omega)
  have g3 : decide (n < 1) = false := decide_eq_false (by omega)
  have g4 : decide (1000 < n) = false := decide_eq_false (by omega)
  obtain ⟨ha1, ha2⟩ := ha
  obtain ⟨hn1, hn2⟩ := hn
  go_enter Try.func24, Try.ntmps24
  go_wp2_with (go_at_call 11; (with_reducible refine (sizes_any _).mono ?_); rintro e w1 ⟨g, rfl, hZ, hb, hg⟩)
  go_loop [24] (fun v => ∃ k : Nat, v = .int .i64 k ∧ k ≤ 9 ∧ Hid (∀ (j : Nat) (hj : j < 9), j < k → n * ar (sz[j]'hj) < a)) (fun v => 9 - (intOf v).toNat)
  case atStart => exact ⟨0, rfl, Nat.zero_le _, Lib.hid (fun j _ h => absurd h (Nat.not_lt_zero j))⟩
  case round =>
    obtain ⟨k, rfl, hk, hG⟩ := hrel
    by_cases hlt : k < 9
    · have g5 : decide ((k : Int) < 9) = true := by simp; omega
      have W1 : IntKind.i64.wrap ((k : Int) + 1) = ((k + 1 : Nat) : Int) := by rw [IntWalk.i64_in _ (by omega)]; omega
      have q1 : (0 : Int) ≤ (k : Int) := by omega
      have q2 : (k : Int) < 9 := by omega
      have d0 := hZ.read hlt
      have hs := isz_at hlt
      have HI := Lib.hid (fun e => lst_hit hlt hG.out e)
      have HG : Hid (n * ar (sz[k]'hlt) < a → ∀ (j : Nat) (hj : j < 9), j < k + 1 → n * ar (sz[j]'hj) < a) := Lib.hid fun h0 j hj h => by
        rcases Nat.lt_or_ge j k with h1 | h1
        · exact hG.out j hj h1
        · have : j = k := by omega
          subst this
          exact h0
      generalize sz[k]'hlt = d at *
      obtain ⟨-, b0, b1⟩ := ar_b hs hn1 hn2
      have W2 : IntKind.i64.wrap (n * ar d) = n * ar d := IntWalk.i64_in _ (by omega)
      have ho := fun W => areaof_ok d hs W
      clear b0 b1
      generalize ar d = r at *
      by_cases e : a ≤ n * r
      · have g6 : decide (a ≤ n * r) = true := decide_eq_true e
        have HE : Hid (lst a n = some d) := Lib.hid (HI.out e)
        clear e HG
        go_wp2_with (go_at_call 28; (with_reducible refine (ho _).mono ?_); rintro e' w2 ⟨rfl, rfl⟩)
        exact bodyPost_ret (v := .tuple #[.int .i64 d, .int .i64 0]) (by simp [results, Try.results24, go_sem]) rfl ⟨by unfold lv lc; rw [HE.out]; rfl, hb⟩
      · have g6 : decide (a ≤ n * r) = false := decide_eq_false e
        have HE := Lib.hid (HG.out (by omega))
        clear e HG HI
        go_wp2_with (go_at_call 28; (with_reducible refine (ho _).mono ?_); rintro e' w2 ⟨rfl, rfl⟩)
        exact ⟨⟨k + 1, rfl, hlt, HE⟩, by simp [intOf]; omega⟩
    · have g5 : decide ((k : Int) < 9) = false := by simp; omega
      have HE : Hid (lst a n = none) := Lib.hid (lst_miss fun j hj => hG.out j hj (by omega))
      go_wp2
      exact bodyPost_ret (v := .tuple #[.int .i64 0, .int .i64 12]) (by simp [results, Try.results24, go_sem]) rfl ⟨by unfold lv lc; rw [HE.out]; rfl, hb⟩
set_option maxRecDepth 100000 in
theorem rleast_in (a n : Int) (ha : 0 ≤ a ∧ a ≤ 1099511627776) (hn : 1 ≤ n ∧ n ≤ 1000) (w : World) : Calls Try.prog 25 #[.int .i64 a, .int .i64 n] w fun e w' => e = .returned (.tuple #[.int .i64 (lv a n), .int .i64 (lc a n)]) ∧ Below w.heap.size w w' := by
  have g1 : decide (a < 0) = false := decide_eq_false (by omega)
  have g2 : decide (1099511627776 < a) = false := decide_eq_false (by omega)
  have g3 : decide (n < 1) = false := decide_eq_false (by omega)
  have g4 : decide (1000 < n) = false := decide_eq_false (by omega)
  obtain ⟨ha1, ha2⟩ := ha
  obtain ⟨hn1, hn2⟩ := hn
  go_enter Try.func25, Try.ntmps25
  go_wp2_with (go_at_call 13; (with_reducible refine (rsizes_any _).mono ?_); rintro e w1 ⟨g, rfl, hZ, hb, hg⟩)
  go_loop [7] (fun v => ∃ k : Nat, v = .int .i64 k ∧ k ≤ 9 ∧ Hid (∀ (j : Nat) (hj : j < 9), j < k → n * ar (sz[j]'hj) < a)) (fun v => 9 - (intOf v).toNat)
  case atStart => exact ⟨0, rfl, Nat.zero_le _, Lib.hid (fun j _ h => absurd h (Nat.not_lt_zero j))⟩
  case round =>
    obtain ⟨k, rfl, hk, hG⟩ := hrel
    by_cases hlt : k < 9
    · have g5 : decide ((k : Int) < 9) = true := by simp; omega
      have W1 : IntKind.i64.wrap ((k : Int) + 1) = ((k + 1 : Nat) : Int) := by rw [IntWalk.i64_in _ (by omega)]; omega
      have q1 : (0 : Int) ≤ (k : Int) := by omega
      have q2 : (k : Int) < 9 := by omega
      have d0 := hZ.read hlt
      have hs := isz_at hlt
      have HI := Lib.hid (fun e => lst_hit hlt hG.out e)
      have HG : Hid (n * ar (sz[k]'hlt) < a → ∀ (j : Nat) (hj : j < 9), j < k + 1 → n * ar (sz[j]'hj) < a) := Lib.hid fun h0 j hj h => by
        rcases Nat.lt_or_ge j k with h1 | h1
        · exact hG.out j hj h1
        · have : j = k := by omega
          subst this
          exact h0
      generalize sz[k]'hlt = d at *
      obtain ⟨-, b0, b1⟩ := ar_b hs hn1 hn2
      have W2 : IntKind.i64.wrap (n * ar d) = n * ar d := IntWalk.i64_in _ (by omega)
      have ho := fun W => rarea_ok d hs W
      clear b0 b1
      generalize ar d = r at *
      by_cases e : a ≤ n * r
      · have g6 : decide (a ≤ n * r) = true := decide_eq_true e
        have HE : Hid (lst a n = some d) := Lib.hid (HI.out e)
        clear e HG
        go_wp2_with (go_at_call 19; (with_reducible refine (ho _).mono ?_); rintro e' w2 ⟨rfl, rfl⟩)
        exact bodyPost_ret (v := .tuple #[.int .i64 d, .int .i64 0]) (by simp [results, Try.results25, go_sem]) rfl ⟨by unfold lv lc; rw [HE.out]; rfl, hb⟩
      · have g6 : decide (a ≤ n * r) = false := decide_eq_false e
        have HE := Lib.hid (HG.out (by omega))
        clear e HG HI
        go_wp2_with (go_at_call 19; (with_reducible refine (ho _).mono ?_); rintro e' w2 ⟨rfl, rfl⟩)
        exact ⟨⟨k + 1, rfl, hlt, HE⟩, by simp [intOf]; omega⟩
    · have g5 : decide ((k : Int) < 9) = false := by simp; omega
      have HE : Hid (lst a n = none) := Lib.hid (lst_miss fun j hj => hG.out j hj (by omega))
      go_wp2
      exact bodyPost_ret (v := .tuple #[.int .i64 0, .int .i64 12]) (by simp [results, Try.results25, go_sem]) rfl ⟨by unfold lv lc; rw [HE.out]; rfl, hb⟩
end Go.Proofs.Yteehgkjhdaknmaa
