/- SteelEnough: the walk. -/
import Derived.Test.YteehgkjhdaknmaaL2
namespace Go.Proofs.Yteehgkjhdaknmaa
open Go.ChangeShapes Go.WideShapes Go.ChangeAt Go.RowKit
set_option linter.unusedVariables false
set_option linter.unusedSimpArgs false

theorem sz_asc : sz.Pairwise (· < ·) := by decide
theorem sz_lt {j k : Nat} (hk : k < 9) (h : j < k) : sz[j]'(show j < 9 by omega) < sz[k]'hk := List.pairwise_iff_getElem.1 sz_asc j k (show j < 9 by omega) hk h
theorem lst_some {a n d : Int} (h : lst a n = some d) : ∃ (k : Nat) (hk : k < 9), sz[k]'hk = d ∧ a ≤ n * ar d ∧ ∀ (j : Nat) (hj : j < 9), j < k → n * ar (sz[j]'hj) < a := by
  unfold lst at h
  rw [List.find?_eq_some_iff_getElem] at h
  obtain ⟨h1, k, hk, e, h2⟩ := h
  refine ⟨k, hk, e, of_decide_eq_true h1, fun j hj hjk => ?_⟩
  have h3 := h2 j hjk
  have h4 : decide (a ≤ n * ar (sz[j]'hj)) = false := by
    cases h5 : decide (a ≤ n * ar (sz[j]'hj))
    · rfl
    · have h6 : (!decide (a ≤ n * ar (sz[j]'hj))) = true := h3
      rw [h5] at h6
      cases h6
  have := of_decide_eq_false h4
  omega
theorem lst_none {a n : Int} (h : lst a n = none) : n * ar 40 < a := by
  unfold lst at h
  rw [List.find?_eq_none] at h
  have := h 40 (by decide)
  simpa using this
theorem lst_le {a n d a' n' : Int} (h : lst a n = some d) (ha : a' ≤ a) (hn : n ≤ n') (h1 : 1 ≤ n) : ∃ d', lst a' n' = some d' ∧ d' ≤ d := by
  obtain ⟨k, hk, rfl, h2, h3⟩ := lst_some h
  have b := (ar_b (d := sz[k]'hk) (n := 1) (isz_at hk) (by omega) (by omega)).1
  have h4 : a' ≤ n' * ar (sz[k]'hk) := by
    have := Int.mul_le_mul_of_nonneg_right hn (show 0 ≤ ar (sz[k]'hk) by omega)
    omega
  cases e : lst a' n' with
  | none =>
    exfalso
    unfold lst at e
    rw [List.find?_eq_none] at e
    exact e _ (List.getElem_mem hk) (decide_eq_true h4)
  | some d' =>
    refine ⟨d', rfl, ?_⟩
    obtain ⟨j, hj, rfl, h5, h6⟩ := lst_some e
    rcases Nat.lt_trichotomy j k with c | c | c
    · exact Int.le_of_lt (sz_lt hk c)
    · subst c; exact Int.le_refl _
    · have := h6 k hk c
      omega
theorem ixo_at {k : Nat} (hk : k < 9) : ixo sz (sz[k]'hk) = k :=
  findIdx_some hk (fun j hj h e => by
    have := sz_lt hk h
    exact absurd e (Int.ne_of_lt this)) rfl
/-- What the calls answer that a walk of SteelEnough makes. -/
theorem enough_out (a n b m : Int) (ha : 0 ≤ a ∧ a ≤ 4294967295) (hn : 1 ≤ n ∧ n ≤ 1000) :
    (lst a n = none ∧ (∀ W, Calls Try.prog 24 #[.int .i64 a, .int .i64 n] W fun e w' => e = .returned (.tuple #[.int .i64 0, .int .i64 12]) ∧ Below W.heap.size W w')) ∨
    (∃ d, lst a n = some d ∧ (∀ W, Calls Try.prog 24 #[.int .i64 a, .int .i64 n] W fun e w' => e = .returned (.tuple #[.int .i64 d, .int .i64 0]) ∧ Below W.heap.size W w')) := by
  have h := fun W => least_in a n (by omega) hn W
  cases e : lst a n with
  | none =>
    refine .inl ⟨rfl, fun W => ?_⟩
    have := h W
    unfold lv lc at this
    rw [e] at this
    exact this
  | some d =>
    refine .inr ⟨d, rfl, fun W => ?_⟩
    have := h W
    unfold lv lc at this
    rw [e] at this
    exact this
/-- What is known of the second and the third call. -/
theorem enough_more (n m s : Int) (hm : 0 ≤ m) (hn : 1 ≤ n ∧ n ≤ 1000) (hs : s = n + m) : ∃ u, (s < 1000 ∧ u = s ∨ ¬ s < 1000 ∧ u = 1000) ∧ n ≤ u ∧ 1 ≤ u ∧ u ≤ 1000 := by
  by_cases h : s < 1000
  · exact ⟨s, .inl ⟨h, rfl⟩, by omega, by omega, by omega⟩
  · exact ⟨1000, .inr ⟨h, rfl⟩, by omega, by omega, by omega⟩
theorem enough_less (a m t : Int) (ha : 0 ≤ a ∧ a ≤ 4294967295) (hm : 0 ≤ m) (ht : t = a - m) : ∃ v, (0 < t ∧ v = t ∨ ¬ 0 < t ∧ v = 0) ∧ v ≤ a ∧ 0 ≤ v ∧ v ≤ 4294967295 := by
  by_cases h : 0 < t
  · exact ⟨t, .inl ⟨h, rfl⟩, by omega, by omega, by omega⟩
  · exact ⟨0, .inr ⟨h, rfl⟩, by omega, by omega, by omega⟩
set_option maxHeartbeats 2000000 in
set_option maxRecDepth 100000 in
theorem enough_walk (a c m : Int) (w : World) (ha : 0 ≤ a ∧ a ≤ 4294967295) (hc : 0 ≤ c ∧ c ≤ 65535) (hm : 0 ≤ m ∧ m ≤ 65535) :
    Calls Try.prog 8 #[.int .u32 a, .int .u16 c, .int .u16 m] w fun e w' => e = .returned (.bool true) ∧ Below w.heap.size w w' := by
  have B := Below.refl w.heap.size w
  have Wa : IntKind.i64.wrap a = a := IntWalk.i64_in _ (by omega)
  have Wc : IntKind.i64.wrap c = c := IntWalk.i64_in _ (by omega)
  have Wm : IntKind.i64.wrap m = m := IntWalk.i64_in _ (by omega)
  obtain ⟨x, hx, hx0, hx1⟩ : ∃ x : Int, c.tmod 1000 = x ∧ 0 ≤ x ∧ x ≤ 999 := ⟨_, rfl, by rw [Int.tmod_eq_emod_of_nonneg hc.1]; omega, by rw [Int.tmod_eq_emod_of_nonneg hc.1]; omega⟩
  have Wx : IntKind.i64.wrap x = x := IntWalk.i64_in _ (by omega)
  obtain ⟨n, Wn, hn⟩ : ∃ n, IntKind.i64.wrap (1 + x) = n ∧ 1 ≤ n ∧ n ≤ 1000 := ⟨1 + x, IntWalk.i64_in _ (by omega), by omega⟩
  obtain ⟨s, Ws, hs⟩ : ∃ s, IntKind.i64.wrap (n + m) = s ∧ s = n + m := ⟨n + m, IntWalk.i64_in _ (by omega), rfl⟩
  obtain ⟨t, Wt, ht⟩ : ∃ t, IntKind.i64.wrap (a - m) = t ∧ t = a - m := ⟨a - m, IntWalk.i64_in _ (by omega), rfl⟩
  obtain ⟨u, hu, u1, u2, u3⟩ := enough_more n m s hm.1 hn hs
  obtain ⟨v, hv, v1, v2, v3⟩ := enough_less a m t ha hm.1 ht
  clear hs ht hx0 hx1
  rcases enough_out a n 0 0 ha hn with ⟨l1, h1⟩ | ⟨d, l1, h1⟩
  · obtain ⟨x2, y2, h2, -⟩ := both_least a u
    obtain ⟨x3, y3, h3, -⟩ := both_least v n
    have k1 := lst_none l1
    have h4 := fun W => area_ok 40 rfl W
    have k2 := (ar_b (d := 40) (n := n) rfl hn.1 hn.2).2
    generalize ar 40 = r at *
    have Wr : IntKind.i64.wrap (n * r) = n * r := IntWalk.i64_in _ (by omega)
    have g1 : decide (n * r < a) = true := decide_eq_true k1
    clear k1 k2 l1 u1 u2 u3 v1 v2 v3 ha hc hm hn
    rcases hu with ⟨hu, rfl⟩ | ⟨hu, rfl⟩ <;> rcases hv with ⟨hv, rfl⟩ | ⟨hv, rfl⟩
    all_goals (
      go_enter Try.func8, Try.ntmps8
      go_wp2_with (first
        | (go_at_call 10; (with_reducible refine (awake_any _).mono ?_); rintro e w1 ⟨rfl, hb⟩; replace B := belows B hb; clear hb)
        | (go_at_call 11; (with_reducible refine (sizes_any _).mono ?_); rintro e w2 ⟨g, rfl, hZ, hb, hg⟩; replace B := belows B hb; clear hb hg)
        | (go_at_call 24; (with_reducible refine (h1 _).mono ?_); rintro e w3 ⟨rfl, hb⟩; replace B := belows B hb; replace hZ := hZ.on hb; clear hb)
        | (go_at_call 24; (with_reducible refine (h2 _).mono ?_); rintro e w4 ⟨rfl, hb⟩; replace B := belows B hb; replace hZ := hZ.on hb; clear hb)
        | (go_at_call 24; (with_reducible refine (h3 _).mono ?_); rintro e w5 ⟨rfl, hb⟩; replace B := belows B hb; replace hZ := hZ.on hb; clear hb; have z8 : w5.cell? ⟨g, 8, none⟩ = some (.int .i64 40) := hZ.read (k := 8) (by decide))
        | (go_at_call 14; (with_reducible refine (h4 _).mono ?_); rintro e w6 ⟨rfl, hb⟩; replace B := belows B hb; clear hb))
      go_ret
      exact ⟨rfl, B⟩)
  · obtain ⟨d2, l2, e2⟩ := lst_le l1 (Int.le_refl a) u1 hn.1
    obtain ⟨d3, l3, e3⟩ := lst_le l1 v1 (Int.le_refl n) hn.1
    obtain ⟨h2⟩ : ∃ _ : (∀ W, Calls Try.prog 24 #[.int .i64 a, .int .i64 u] W fun e w' => e = .returned (.tuple #[.int .i64 d2, .int .i64 0]) ∧ Below W.heap.size W w'), True := by
      rcases enough_out a u 0 0 ha ⟨u2, u3⟩ with ⟨l, -⟩ | ⟨d', l, h⟩
      · rw [l] at l2; cases l2
      · rw [l] at l2; cases l2; exact ⟨h, trivial⟩
    obtain ⟨h3⟩ : ∃ _ : (∀ W, Calls Try.prog 24 #[.int .i64 v, .int .i64 n] W fun e w' => e = .returned (.tuple #[.int .i64 d3, .int .i64 0]) ∧ Below W.heap.size W w'), True := by
      rcases enough_out v n 0 0 ⟨v2, v3⟩ hn with ⟨l, -⟩ | ⟨d', l, h⟩
      · rw [l] at l3; cases l3
      · rw [l] at l3; cases l3; exact ⟨h, trivial⟩
    obtain ⟨k, hk, ed, k1, k2⟩ := lst_some l1
    have hi : isz d = true := by rw [← ed]; exact isz_at hk
    have h4 := fun W => area_ok d hi W
    have k3 := (ar_b hi hn.1 hn.2).2
    have h5 := fun g W (h : Zs W g) => index_any (.slice (some ⟨g, 0, none⟩) 9 9) sz d W h.rdz (by decide)
    rw [show ixo sz d = k by rw [← ed]; exact ixo_at hk] at h5
    have Wr : IntKind.i64.wrap (n * ar d) = n * ar d := IntWalk.i64_in _ (by omega)
    have g1 : decide (n * ar d < a) = false := decide_eq_false (by omega)
    have g2 : decide (d < d2) = false := decide_eq_false (by omega)
    have g3 : decide (d < d3) = false := decide_eq_false (by omega)
    have g4 : decide ((k : Int) < 0) = false := decide_eq_false (by omega)
    rcases Nat.eq_zero_or_pos k with rfl | hp
    · clear k1 k2 k3 l1 l2 l3 e2 e3 hi ed u1 u2 u3 v1 v2 v3 ha hc hm hn hk
      generalize ar d = r at *
      rcases hu with ⟨hu, rfl⟩ | ⟨hu, rfl⟩ <;> rcases hv with ⟨hv, rfl⟩ | ⟨hv, rfl⟩
      all_goals (
        go_enter Try.func8, Try.ntmps8
        go_wp2_with (first
          | (go_at_call 10; (with_reducible refine (awake_any _).mono ?_); rintro e w1 ⟨rfl, hb⟩; replace B := belows B hb; clear hb)
          | (go_at_call 11; (with_reducible refine (sizes_any _).mono ?_); rintro e w2 ⟨g, rfl, hZ, hb, hg⟩; replace B := belows B hb; clear hb hg)
          | (go_at_call 24; (with_reducible refine (h1 _).mono ?_); rintro e w3 ⟨rfl, hb⟩; replace B := belows B hb; replace hZ := hZ.on hb; clear hb)
          | (go_at_call 24; (with_reducible refine (h2 _).mono ?_); rintro e w4 ⟨rfl, hb⟩; replace B := belows B hb; replace hZ := hZ.on hb; clear hb)
          | (go_at_call 24; (with_reducible refine (h3 _).mono ?_); rintro e w5 ⟨rfl, hb⟩; replace B := belows B hb; replace hZ := hZ.on hb; clear hb)
          | (go_at_call 14; (with_reducible refine (h4 _).mono ?_); rintro e w6 ⟨rfl, hb⟩; replace B := belows B hb; replace hZ := hZ.on hb; clear hb)
          | (go_at_call 26; (with_reducible refine (h5 g _ hZ).mono ?_); rintro e w7 ⟨rfl, rfl⟩))
        go_ret
        exact ⟨rfl, B⟩)
    · obtain ⟨j, rfl⟩ : ∃ j, k = j + 1 := ⟨k - 1, by omega⟩
      have hj9 : j < 9 := by omega
      have hj := isz_at hj9
      have k4 := k2 j hj9 (by omega)
      have hr := fun g W (h : Zs W g) => h.read hj9
      generalize sz[j]'hj9 = p at *
      have h6 := fun W => area_ok p hj W
      have k5 := (ar_b hj hn.1 hn.2).2
      have Wp : IntKind.i64.wrap (n * ar p) = n * ar p := IntWalk.i64_in _ (by omega)
      have g5 : decide (n * ar p < a) = true := decide_eq_true k4
      have g6 : (((j + 1 : Nat) : Int) == 0) = false := by simp; omega
      have g7 : ((j : Int) + 1 == 0) = false := by simp; omega
      have g8 : ¬ ((j : Int) + 1 = 0) := by omega
      have V2 : IntKind.i64.wrap (((j + 1 : Nat) : Int) - 1) = (j : Int) := by rw [IntWalk.i64_in _ (by omega)]; omega
      have V3 : IntKind.i64.wrap ((j : Int) + 1 - 1) = (j : Int) := by rw [IntWalk.i64_in _ (by omega)]; omega
      have q3 : (0 : Int) ≤ (j : Int) := by omega
      have q4 : (j : Int) < 9 := by omega
      have g9 : decide ((j : Int) + 1 < 0) = false := decide_eq_false (by omega)
      clear k1 k2 k3 k4 k5 l1 l2 l3 e2 e3 hi ed u1 u2 u3 v1 v2 v3 ha hc hm hn hk hp
      generalize ar d = r at *
      generalize ar p = y at *
      rcases hu with ⟨hu, rfl⟩ | ⟨hu, rfl⟩ <;> rcases hv with ⟨hv, rfl⟩ | ⟨hv, rfl⟩
      all_goals (
        go_enter Try.func8, Try.ntmps8
        go_wp2_with (first
          | (go_at_call 10; (with_reducible refine (awake_any _).mono ?_); rintro e w1 ⟨rfl, hb⟩; replace B := belows B hb; clear hb)
          | (go_at_call 11; (with_reducible refine (sizes_any _).mono ?_); rintro e w2 ⟨g, rfl, hZ, hb, hg⟩; replace B := belows B hb; clear hb hg)
          | (go_at_call 24; (with_reducible refine (h1 _).mono ?_); rintro e w3 ⟨rfl, hb⟩; replace B := belows B hb; replace hZ := hZ.on hb; clear hb)
          | (go_at_call 24; (with_reducible refine (h2 _).mono ?_); rintro e w4 ⟨rfl, hb⟩; replace B := belows B hb; replace hZ := hZ.on hb; clear hb)
          | (go_at_call 24; (with_reducible refine (h3 _).mono ?_); rintro e w5 ⟨rfl, hb⟩; replace B := belows B hb; replace hZ := hZ.on hb; clear hb)
          | (go_at_call 14; (with_reducible refine (h4 _).mono ?_); rintro e w6 ⟨rfl, hb⟩; replace B := belows B hb; replace hZ := hZ.on hb; clear hb; have hz := hr g _ hZ)
          | (go_at_call 26; (with_reducible refine (h5 g _ hZ).mono ?_); rintro e w7 ⟨rfl, rfl⟩)
          | (go_at_call 14; (with_reducible refine (h6 _).mono ?_); rintro e w8 ⟨rfl, hb⟩; replace B := belows B hb; clear hb))
        go_ret
        exact ⟨rfl, B⟩)
end Go.Proofs.Yteehgkjhdaknmaa
