/- slices.Equal at turns and at points. -/
import Derived.Test.YtmfclelnaceonaaG
namespace Go.Proofs.Ytmfclelnaceonaa
open Go.ChangeShapes Go.WideShapes Go.ChangeAt Go.RowKit
set_option linter.unusedVariables false
set_option linter.unusedSimpArgs false

theorem ne23 (x y : Tn) (W : World) : (binOp .neq 23 x.val y.val).run Try.prog W = .ok (.bool (!decide (x = y))) W := by
  unfold Tn.val
  rw [run_neq_struct, run_equalIn_agg (ht := by kernel_rfl) (hp := by kernel_rfl)]
  simp [go_sem, Program.fieldsOf, Try.underlying23]
  obtain ⟨a, b⟩ := x
  obtain ⟨a', b'⟩ := y
  simp only [Tn.mk.injEq]
  by_cases h1 : a = a' <;> by_cases h2 : b = b' <;> simp [h1, h2]
set_option maxRecDepth 100000 in
set_option maxHeartbeats 2000000 in
theorem equalt_any (v v' : Value) (xs ys : List Tn) (w : World) (h1 : Rd tc 2 w v xs) (h2 : Rd tc 2 w v' ys) (hx : xs.length ≤ 100000) :
    Calls Try.prog 13 #[v, v'] w fun e w' => e = .returned (.bool (decide (xs = ys))) ∧ Below w.heap.size w w' := by
  obtain ⟨q, c, rfl, k1⟩ := h1
  obtain ⟨q', c', rfl, k2⟩ := h2
  by_cases hl : xs.length = ys.length
  · have t1 : ((xs.length : Int) != (ys.length : Int)) = false := by simp; omega
    have HL := Lib.hid hl
    have K1 := Lib.hid k1
    have K2 := Lib.hid k2
    clear hl k1 k2
    go_enter Try.func13, Try.ntmps13
    go_wp2
    go_loopw [13] (fun v wr => ∃ k : Nat, v = .int .i64 k ∧ k ≤ xs.length ∧ Hid (∀ j (a : j < xs.length) (b : j < ys.length), j < k → xs[j] = ys[j]) ∧ ∃ n, wr = w.drewN n) (fun v _ => xs.length - (intOf v).toNat)
    case atStart => exact ⟨0, rfl, Nat.zero_le _, Lib.hid (fun j a b h => absurd h (Nat.not_lt_zero j)), 0, rfl⟩
    case round =>
      obtain ⟨k, rfl, hk, hE, nd, rfl⟩ := hrel
      by_cases hlt : k < xs.length
      · have g1 : decide ((k : Int) < (xs.length : Int)) = true := by simp [hlt]
        have hlt2 : k < ys.length := by rw [← HL.out]; exact hlt
        have W1 : IntKind.i64.wrap ((k : Int) + 1) = ((k + 1 : Nat) : Int) := by rw [IntWalk.i64_in _ (by omega)]; omega
        obtain ⟨g, rfl, c1⟩ := K1.out k hlt
        obtain ⟨g', rfl, c2⟩ := K2.out k hlt2
        obtain ⟨x, hxx⟩ : ∃ x, x = xs[k] := ⟨_, rfl⟩
        obtain ⟨y, hyy⟩ : ∃ y, y = ys[k] := ⟨_, rfl⟩
        rw [← hxx] at c1
        rw [← hyy] at c2
        have HX := Lib.hid hxx
        have HY := Lib.hid hyy
        clear hxx hyy
        have a0 := c1 0 (by omega)
        have b0 := c2 0 (by omega)
        have a1 := c1 1 (by omega)
        have b1 := c2 1 (by omega)
        simp [tc] at a0 b0 a1 b1
        clear c1 c2
        have q1 : (0 : Int) ≤ (k : Int) := by omega
        have q2 : (k : Int) < (xs.length : Int) := by omega
        have q3 : (k : Int) < (ys.length : Int) := by omega
        by_cases e : x = y
        · have HE : Hid (∀ j (a : j < xs.length) (b : j < ys.length), j < k + 1 → xs[j] = ys[j]) := Lib.hid fun j a b h => by
            rcases Nat.lt_or_ge j k with h1 | h1
            · exact hE.out j a b h1
            · have : j = k := by omega
              subst this
              rw [← HX.out, ← HY.out, e]
          subst e
          have hne : ∀ W, (binOp .neq 23 (.agg #[.int .i64 x.x, .int .i64 x.y]) (.agg #[.int .i64 x.x, .int .i64 x.y])).run Try.prog W = .ok (.bool false) W := fun W => (ne23 x x W).trans (by rw [decide_eq_true rfl]; rfl)
          go_wp2_with fail
          go_quiet (fail)
          go_wp2
          exact ⟨⟨k + 1, rfl, hlt, HE, _, rfl⟩, by simp [intOf]; omega⟩
        · have HN := Lib.hid e
          have hne : ∀ W, (binOp .neq 23 (.agg #[.int .i64 x.x, .int .i64 x.y]) (.agg #[.int .i64 y.x, .int .i64 y.y])).run Try.prog W = .ok (.bool true) W := fun W => (ne23 x y W).trans (by rw [decide_eq_false e]; rfl)
          clear e
          go_wp2_with fail
          go_quiet (fail)
          go_wp2
          go_ret
          refine ⟨?_, by first | exact below_drewN (Below.refl _ _) _ | exact below_drewN (below_drewN (Below.refl _ _) _) _⟩
          have : decide (xs = ys) = false := by
            apply decide_eq_false
            intro h
            subst h
            exact HN.out (by rw [HX.out, HY.out])
          rw [this]; rfl
      · have g1 : decide ((k : Int) < (xs.length : Int)) = false := by simp; omega
        go_wp2
        go_ret
        refine ⟨?_, below_drewN (Below.refl _ _) _⟩
        have : decide (xs = ys) = true := decide_eq_true (List.ext_getElem HL.out fun j a b => hE.out j a b (by omega))
        rw [this]; rfl
  · have t1 : ((xs.length : Int) != (ys.length : Int)) = true := by simp; omega
    have HN := Lib.hid hl
    clear hl k1 k2
    go_enter Try.func13, Try.ntmps13
    go_wp2
    go_ret
    refine ⟨?_, Below.refl _ _⟩
    have : decide (xs = ys) = false := by
      apply decide_eq_false
      intro h
      exact HN.out (by rw [h])
    rw [this]; rfl
set_option maxRecDepth 100000 in
set_option maxHeartbeats 2000000 in
theorem equalp_any (v v' : Value) (xs ys : List Pt) (w : World) (h1 : Rd pc 3 w v xs) (h2 : Rd pc 3 w v' ys) (hx : xs.length ≤ 100000) :
    Calls Try.prog 27 #[v, v'] w fun e w' => e = .returned (.bool (decide (xs = ys))) ∧ Below w.heap.size w w' := by
  obtain ⟨q, c, rfl, k1⟩ := h1
  obtain ⟨q', c', rfl, k2⟩ := h2
  by_cases hl : xs.length = ys.length
  · have t1 : ((xs.length : Int) != (ys.length : Int)) = false := by simp; omega
    have HL := Lib.hid hl
    have K1 := Lib.hid k1
    have K2 := Lib.hid k2
    clear hl k1 k2
    go_enter Try.func27, Try.ntmps27
    go_wp2
    go_loopw [13] (fun v wr => ∃ k : Nat, v = .int .i64 k ∧ k ≤ xs.length ∧ Hid (∀ j (a : j < xs.length) (b : j < ys.length), j < k → xs[j] = ys[j]) ∧ ∃ n, wr = w.drewN n) (fun v _ => xs.length - (intOf v).toNat)
    case atStart => exact ⟨0, rfl, Nat.zero_le _, Lib.hid (fun j a b h => absurd h (Nat.not_lt_zero j)), 0, rfl⟩
    case round =>
      obtain ⟨k, rfl, hk, hE, nd, rfl⟩ := hrel
      by_cases hlt : k < xs.length
      · have g1 : decide ((k : Int) < (xs.length : Int)) = true := by simp [hlt]
        have hlt2 : k < ys.length := by rw [← HL.out]; exact hlt
        have W1 : IntKind.i64.wrap ((k : Int) + 1) = ((k + 1 : Nat) : Int) := by rw [IntWalk.i64_in _ (by omega)]; omega
        obtain ⟨g, rfl, c1⟩ := K1.out k hlt
        obtain ⟨g', rfl, c2⟩ := K2.out k hlt2
        obtain ⟨x, hxx⟩ : ∃ x, x = xs[k] := ⟨_, rfl⟩
        obtain ⟨y, hyy⟩ : ∃ y, y = ys[k] := ⟨_, rfl⟩
        rw [← hxx] at c1
        rw [← hyy] at c2
        have HX := Lib.hid hxx
        have HY := Lib.hid hyy
        clear hxx hyy
        have a0 := c1 0 (by omega)
        have b0 := c2 0 (by omega)
        have a1 := c1 1 (by omega)
        have b1 := c2 1 (by omega)
        have a2 := c1 2 (by omega)
        have b2 := c2 2 (by omega)
        simp [pc] at a0 b0 a1 b1 a2 b2
        clear c1 c2
        have q1 : (0 : Int) ≤ (k : Int) := by omega
        have q2 : (k : Int) < (xs.length : Int) := by omega
        have q3 : (k : Int) < (ys.length : Int) := by omega
        by_cases e : x = y
        · have HE : Hid (∀ j (a : j < xs.length) (b : j < ys.length), j < k + 1 → xs[j] = ys[j]) := Lib.hid fun j a b h => by
            rcases Nat.lt_or_ge j k with h1 | h1
            · exact hE.out j a b h1
            · have : j = k := by omega
              subst this
              rw [← HX.out, ← HY.out, e]
          subst e
          have hne : ∀ W, (binOp .neq 37 (.agg #[.int .i64 x.x, .int .i64 x.y, .int .i64 x.z]) (.agg #[.int .i64 x.x, .int .i64 x.y, .int .i64 x.z])).run Try.prog W = .ok (.bool false) W := fun W => (ne37 x x W).trans (by rw [decide_eq_true rfl]; rfl)
          go_wp2_with fail
          go_quiet (fail)
          go_wp2
          exact ⟨⟨k + 1, rfl, hlt, HE, _, rfl⟩, by simp [intOf]; omega⟩
        · have HN := Lib.hid e
          have hne : ∀ W, (binOp .neq 37 (.agg #[.int .i64 x.x, .int .i64 x.y, .int .i64 x.z]) (.agg #[.int .i64 y.x, .int .i64 y.y, .int .i64 y.z])).run Try.prog W = .ok (.bool true) W := fun W => (ne37 x y W).trans (by rw [decide_eq_false e]; rfl)
          clear e
          go_wp2_with fail
          go_quiet (fail)
          go_wp2
          go_ret
          refine ⟨?_, by first | exact below_drewN (Below.refl _ _) _ | exact below_drewN (below_drewN (Below.refl _ _) _) _⟩
          have : decide (xs = ys) = false := by
            apply decide_eq_false
            intro h
            subst h
            exact HN.out (by rw [HX.out, HY.out])
          rw [this]; rfl
      · have g1 : decide ((k : Int) < (xs.length : Int)) = false := by simp; omega
        go_wp2
        go_ret
        refine ⟨?_, below_drewN (Below.refl _ _) _⟩
        have : decide (xs = ys) = true := decide_eq_true (List.ext_getElem HL.out fun j a b => hE.out j a b (by omega))
        rw [this]; rfl
  · have t1 : ((xs.length : Int) != (ys.length : Int)) = true := by simp; omega
    have HN := Lib.hid hl
    clear hl k1 k2
    go_enter Try.func27, Try.ntmps27
    go_wp2
    go_ret
    refine ⟨?_, Below.refl _ _⟩
    have : decide (xs = ys) = false := by
      apply decide_eq_false
      intro h
      exact HN.out (by rw [h])
    rw [this]; rfl
end Go.Proofs.Ytmfclelnaceonaa
