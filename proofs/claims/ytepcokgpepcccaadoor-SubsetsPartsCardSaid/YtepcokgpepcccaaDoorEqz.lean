/- Equal lists, and lists in their order. -/
import Derived.Test.YtepcokgpepcccaaDoorRi
namespace Go.Proofs.YtepcokgpepcccaaDoor
open Go.ChangeShapes Go.WideShapes Go.ChangeAt Go.RowKit
set_option linter.unusedVariables false
set_option linter.unusedSimpArgs false

set_option maxRecDepth 100000 in
set_option maxHeartbeats 2000000 in
theorem equal_any (v v' : Value) (xs ys : List Int) (w : World) (h1 : Rdz w v xs) (h2 : Rdz w v' ys) (hx : xs.length ≤ 100000) :
    Calls Tryd.prog 14 #[v, v'] w fun e w' => e = .returned (.bool (decide (xs = ys))) ∧ ∃ n, w' = w.drewN n := by
  obtain ⟨q, c, rfl, k1⟩ := h1
  obtain ⟨q', c', rfl, k2⟩ := h2
  by_cases hl : xs.length = ys.length
  · have t1 : ((xs.length : Int) != (ys.length : Int)) = false := by simp; omega
    have HL := Lib.hid hl
    have K1 := Lib.hid k1
    have K2 := Lib.hid k2
    clear hl k1 k2
    go_enter Tryd.func14, Tryd.ntmps14
    go_wp2
    go_loopw [13] (fun v wr => ∃ k : Nat, v = .int .i64 k ∧ k ≤ xs.length ∧ Hid (∀ j (a : j < xs.length) (b : j < ys.length), j < k → xs[j] = ys[j]) ∧ ∃ n, wr = w.drewN n) (fun v _ => xs.length - (intOf v).toNat)
    case atStart => exact ⟨0, rfl, Nat.zero_le _, Lib.hid (fun j a b h => absurd h (Nat.not_lt_zero j)), 0, rfl⟩
    case round =>
      obtain ⟨k, rfl, hk, hE, nd, rfl⟩ := hrel
      by_cases hlt : k < xs.length
      · have g1 : decide ((k : Int) < (xs.length : Int)) = true := by simp [hlt]
        have hlt2 : k < ys.length := by rw [← HL.out]; exact hlt
        have W1 : IntKind.i64.wrap ((k : Int) + 1) = ((k + 1 : Nat) : Int) := by rw [IntWalk.i64_in _ (by omega)]; omega
        obtain ⟨a, rfl, c1⟩ := K1.out k hlt
        obtain ⟨a', rfl, c2⟩ := K2.out k hlt2
        have q1 : (0 : Int) ≤ (k : Int) := by omega
        have q2 : (k : Int) < (xs.length : Int) := by omega
        have q3 : (k : Int) < (ys.length : Int) := by omega
        obtain ⟨x, hxx⟩ : ∃ x, x = xs[k] := ⟨_, rfl⟩
        obtain ⟨y, hyy⟩ : ∃ y, y = ys[k] := ⟨_, rfl⟩
        rw [← hxx] at c1
        rw [← hyy] at c2
        have HX := Lib.hid hxx
        have HY := Lib.hid hyy
        clear hxx hyy
        by_cases e : x = y
        · subst e
          have t2 : (x != x) = false := by simp
          have HE : Hid (∀ j (a : j < xs.length) (b : j < ys.length), j < k + 1 → xs[j] = ys[j]) := Lib.hid fun j a b h => by
            rcases Nat.lt_or_ge j k with h1 | h1
            · exact hE.out j a b h1
            · have : j = k := by omega
              subst this
              rw [← HX.out, ← HY.out]
          go_wp2_with fail
          go_quiet (fail)
          go_wp2
          exact ⟨⟨k + 1, rfl, hlt, HE, _, rfl⟩, by simp [intOf]; omega⟩
        · have t2 : (x != y) = true := by simp; omega
          have HN := Lib.hid e
          clear e
          go_wp2_with fail
          go_quiet (fail)
          go_wp2
          go_ret
          have hne : xs ≠ ys := fun e => HN.out (by subst e; rw [HX.out, HY.out])
          rw [decide_eq_false hne]
          exact ⟨rfl, _, World.drewN_drewN _ _ _⟩
      · have g1 : decide ((k : Int) < (xs.length : Int)) = false := by simp; omega
        have e : k = xs.length := by omega
        go_wp2
        go_ret
        have : xs = ys := List.ext_getElem HL.out fun j a b => hE.out j a b (by omega)
        rw [decide_eq_true this]
        exact ⟨rfl, _, rfl⟩
  · have t1 : ((xs.length : Int) != (ys.length : Int)) = true := by simp; omega
    have HL := Lib.hid hl
    clear hl
    go_enter Tryd.func14, Tryd.ntmps14
    go_wp2
    go_ret
    have : xs ≠ ys := fun e => HL.out (by rw [e])
    rw [decide_eq_false this]
    exact ⟨rfl, 0, rfl⟩

/-- Whether a list comes before another one. -/
def earl : List Int → List Int → Bool
  | [], [] => false
  | [], _ :: _ => true
  | _ :: _, [] => false
  | x :: xs, y :: ys => if x = y then earl xs ys else decide (x < y)
theorem earl_same {xs ys : List Int} {k : Nat} (h1 : k < xs.length) (h2 : k < ys.length) (e : xs[k] = ys[k]) : earl (xs.drop k) (ys.drop k) = earl (xs.drop (k + 1)) (ys.drop (k + 1)) := by
  rw [List.drop_eq_getElem_cons h1, List.drop_eq_getElem_cons h2]
  simp [earl, e]
theorem earl_ne {xs ys : List Int} {k : Nat} (h1 : k < xs.length) (h2 : k < ys.length) (e : xs[k] ≠ ys[k]) : earl (xs.drop k) (ys.drop k) = decide (xs[k] < ys[k]) := by
  rw [List.drop_eq_getElem_cons h1, List.drop_eq_getElem_cons h2]
  simp [earl, e]
theorem earl_end {xs ys : List Int} {k : Nat} (h1 : k ≤ xs.length) (h2 : k ≤ ys.length) (h : k = xs.length ∨ k = ys.length) : earl (xs.drop k) (ys.drop k) = decide (xs.length < ys.length) := by
  rcases h with rfl | rfl
  · rw [List.drop_length]
    by_cases hl : xs.length < ys.length
    · rw [List.drop_eq_getElem_cons hl, decide_eq_true hl]; rfl
    · rw [List.drop_of_length_le (by omega), decide_eq_false hl]; rfl
  · rw [List.drop_length, decide_eq_false (by omega)]
    cases xs.drop ys.length <;> rfl
set_option maxRecDepth 100000 in
set_option maxHeartbeats 2000000 in
theorem earl_any (v v' : Value) (xs ys : List Int) (w : World) (h1 : Rdz w v xs) (h2 : Rdz w v' ys) (hx : xs.length ≤ 100000) :
    Calls Tryd.prog 51 #[v, v'] w fun e w' => e = .returned (.bool (earl xs ys)) ∧ ∃ n, w' = w.drewN n := by
  obtain ⟨q, c, rfl, k1⟩ := h1
  obtain ⟨q', c', rfl, k2⟩ := h2
  have K1 := Lib.hid k1
  have K2 := Lib.hid k2
  clear k1 k2
  go_enter Tryd.func51, Tryd.ntmps51
  go_wp2
  go_loopw [5] (fun v wr => ∃ k : Nat, v = .int .i64 k ∧ k ≤ xs.length ∧ k ≤ ys.length ∧ Hid (earl xs ys = earl (xs.drop k) (ys.drop k)) ∧ ∃ n, wr = w.drewN n) (fun v _ => xs.length - (intOf v).toNat)
  case atStart => exact ⟨0, rfl, Nat.zero_le _, Nat.zero_le _, Lib.hid (by simp), 0, rfl⟩
  case round =>
    obtain ⟨k, rfl, hk, hk2, hE, nd, rfl⟩ := hrel
    by_cases hlt : k < xs.length
    · have g1 : decide ((k : Int) < (xs.length : Int)) = true := by simp [hlt]
      by_cases hlt2 : k < ys.length
      · have g2 : decide ((k : Int) < (ys.length : Int)) = true := by simp [hlt2]
        have W1 : IntKind.i64.wrap ((k : Int) + 1) = ((k + 1 : Nat) : Int) := by rw [IntWalk.i64_in _ (by omega)]; omega
        obtain ⟨a, rfl, c1⟩ := K1.out k hlt
        obtain ⟨a', rfl, c2⟩ := K2.out k hlt2
        have q1 : (0 : Int) ≤ (k : Int) := by omega
        have q2 : (k : Int) < (xs.length : Int) := by omega
        have q3 : (k : Int) < (ys.length : Int) := by omega
        have S := fun e => earl_same hlt hlt2 e
        have N := fun e => earl_ne hlt hlt2 e
        obtain ⟨x, hxx⟩ : ∃ x, x = xs[k] := ⟨_, rfl⟩
        obtain ⟨y, hyy⟩ : ∃ y, y = ys[k] := ⟨_, rfl⟩
        rw [← hxx] at c1 S N
        rw [← hyy] at c2 S N
        clear hxx hyy
        by_cases e : x = y
        · subst e
          have t2 : (x != x) = false := by simp
          have S := S rfl
          have HE : Hid (earl xs ys = earl (xs.drop (k + 1)) (ys.drop (k + 1))) := Lib.hid (by rw [hE.out, S])
          clear S N hE
          go_wp2_with fail
          go_quiet (fail)
          go_wp2
          exact ⟨⟨k + 1, rfl, hlt, hlt2, HE, _, rfl⟩, by simp [intOf]; omega⟩
        · have t2 : (x != y) = true := by simp; omega
          have N := N e
          have HE : Hid (earl xs ys = decide (x < y)) := Lib.hid (by rw [hE.out, N])
          clear S N hE e
          go_wp2_with fail
          go_quiet (fail)
          go_wp2_with fail
          go_quiet (fail)
          go_wp2
          go_ret
          rw [HE.out]
          exact ⟨rfl, _, by rw [World.drewN_drewN, World.drewN_drewN]⟩
      · have g2 : decide ((k : Int) < (ys.length : Int)) = false := by simp; omega
        have HE : Hid (earl xs ys = decide (xs.length < ys.length)) := Lib.hid (by rw [hE.out]; exact earl_end hk hk2 (.inr (by omega)))
        clear hE
        go_wp2
        go_ret
        rw [HE.out]
        exact ⟨by simp, _, rfl⟩
    · have g1 : decide ((k : Int) < (xs.length : Int)) = false := by simp; omega
      have HE : Hid (earl xs ys = decide (xs.length < ys.length)) := Lib.hid (by rw [hE.out]; exact earl_end hk hk2 (.inl (by omega)))
      clear hE
      go_wp2
      go_ret
      rw [HE.out]
      exact ⟨by simp, _, rfl⟩
end Go.Proofs.YtepcokgpepcccaaDoor
