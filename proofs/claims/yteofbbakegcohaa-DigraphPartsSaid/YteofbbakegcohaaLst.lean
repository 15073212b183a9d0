/- Lists of whole numbers: Index, Contains, Equal, Compare, ContainsFunc with the closures of the errors. -/
import Derived.Test.YteofbbakegcohaaGv
namespace Go.Proofs.Yteofbbakegcohaa
open Go.ChangeShapes Go.WideShapes Go.ChangeAt Go.RowKit
set_option linter.unusedVariables false
set_option linter.unusedSimpArgs false

def ixo (zs : List Int) (x : Int) : Int := match zs.findIdx? (· == x) with | some i => (i : Int) | none => -1
theorem findIdx_some {zs : List Int} {x : Int} {k : Nat} (hk : k < zs.length) (h : ∀ (j : Nat) (hj : j < zs.length), j < k → zs[j] ≠ x) (e : zs[k] = x) : ixo zs x = k := by
  have : zs.findIdx? (· == x) = some k := by
    rw [List.findIdx?_eq_some_iff_getElem]
    exact ⟨hk, by simp [e], fun j hj => by simpa using h j (by omega) hj⟩
  unfold ixo; rw [this]
theorem findIdx_none {zs : List Int} {x : Int} (h : ∀ (j : Nat) (hj : j < zs.length), zs[j] ≠ x) : ixo zs x = -1 := by
  have : zs.findIdx? (· == x) = none := by
    rw [List.findIdx?_eq_none_iff]
    intro y hy
    obtain ⟨j, hj, rfl⟩ := List.getElem_of_mem hy
    simpa using h j hj
  unfold ixo; rw [this]
set_option maxRecDepth 100000 in
theorem index_any (v : Value) (zs : List Int) (x : Int) (w : World) (hR : Rdz w v zs) (hl : zs.length ≤ 100000) :
    Calls Try.prog 29 #[v, .int .i64 x] w fun e w' => e = .returned (.int .i64 (ixo zs x)) ∧ w = w' := by
  obtain ⟨q, c, rfl, k1⟩ := hR
  have K1 := Lib.hid k1
  clear k1
  go_enter Try.func29, Try.ntmps29
  go_wp2
  go_loop [8] (fun v => ∃ k : Nat, v = .int .i64 k ∧ k ≤ zs.length ∧ Hid (∀ (j : Nat) (hj : j < zs.length), j < k → zs[j] ≠ x)) (fun v => zs.length - (intOf v).toNat)
  case atStart => exact ⟨0, rfl, Nat.zero_le _, Lib.hid (fun j _ h => absurd h (Nat.not_lt_zero j))⟩
  case round =>
    obtain ⟨k, rfl, hk, hG⟩ := hrel
    by_cases hlt : k < zs.length
    · have g1 : decide ((k : Int) < (zs.length : Int)) = true := by simp [hlt]
      have W1 : IntKind.i64.wrap ((k : Int) + 1) = ((k + 1 : Nat) : Int) := by rw [IntWalk.i64_in _ (by omega)]; omega
      have q1 : (0 : Int) ≤ (k : Int) := by omega
      have q2 : (k : Int) < (zs.length : Int) := by omega
      obtain ⟨a, rfl, d0⟩ := K1.out k hlt
      obtain ⟨y, hyy⟩ : ∃ y, y = zs[k] := ⟨_, rfl⟩
      rw [← hyy] at d0
      have HY := Lib.hid hyy
      clear hyy
      by_cases e : x = y
      · have t1 : (x == y) = true := by simp [e]
        have t2 : (y == x) = true := by simp [e]
        have HE : Hid (ixo zs x = k) := Lib.hid (findIdx_some hlt hG.out (by rw [← HY.out, e]))
        clear e
        go_wp2
        go_ret
        exact ⟨by rw [HE.out]; rfl, rfl⟩
      · have t1 : (x == y) = false := by simpa using e
        have t2 : (y == x) = false := by simpa using fun h => e h.symm
        have HG : Hid (∀ (j : Nat) (hj : j < zs.length), j < k + 1 → zs[j] ≠ x) := Lib.hid fun j hj h => by
          rcases Nat.lt_or_ge j k with h1 | h1
          · exact hG.out j hj h1
          · have : j = k := by omega
            subst this
            rw [← HY.out]; exact fun h => e h.symm
        clear e
        go_wp2
        exact ⟨⟨k + 1, rfl, hlt, HG⟩, by simp [intOf]; omega⟩
    · have g1 : decide ((k : Int) < (zs.length : Int)) = false := by simp; omega
      have HE : Hid (ixo zs x = -1) := Lib.hid (findIdx_none fun j hj => hG.out j hj (by omega))
      go_wp2
      go_ret
      exact ⟨by rw [HE.out]; rfl, rfl⟩
theorem ixo_pos (zs : List Int) (x : Int) : decide (0 ≤ ixo zs x) = zs.contains x := by
  unfold ixo
  cases h : zs.findIdx? (· == x) with
  | some i =>
    have := (List.findIdx?_eq_some_iff_getElem.1 h)
    obtain ⟨hi, e, -⟩ := this
    have : zs.contains x = true := by
      rw [List.contains_iff_mem]
      have e' : zs[i] = x := by simpa using e
      rw [← e']; exact List.getElem_mem hi
    rw [this]; simp
  | none =>
    have := List.findIdx?_eq_none_iff.1 h
    have : zs.contains x = false := by
      cases c : zs.contains x
      · rfl
      · have := this x (List.contains_iff_mem.1 c)
        simp at this
    rw [this]; rfl
set_option maxRecDepth 100000 in
theorem containsz_any (v : Value) (zs : List Int) (x : Int) (w : World) (hR : Rdz w v zs) (hl : zs.length ≤ 100000) :
    Calls Try.prog 34 #[v, .int .i64 x] w fun e w' => e = .returned (.bool (zs.contains x)) ∧ w = w' := by
  have hp := ixo_pos zs x
  obtain ⟨i, hi⟩ : ∃ i, i = ixo zs x := ⟨_, rfl⟩
  have hc := fun W h => index_any v zs x W h hl
  rw [← hi] at hp hc
  have HP := Lib.hid hp
  clear hi hp
  go_enter Try.func34, Try.ntmps34
  go_wp2_with (go_at_call 29; (with_reducible refine (hc _ hR).mono ?_); rintro e w' ⟨rfl, rfl⟩)
  go_ret
  exact ⟨by rw [← HP.out]; rfl, rfl⟩
theorem Rdl.z {w : World} {v : Value} {xs : List Nat} (h : Rdl w v xs) : Rdz w v (toZ xs) := by
  obtain ⟨q, c, rfl, k⟩ := h
  refine ⟨q, c, by rw [toZ_len], fun j hj => ?_⟩
  rw [toZ_len] at hj
  obtain ⟨g, e, hc⟩ := k j hj
  refine ⟨_, e, ?_⟩
  rw [Addr.add_lit, Nat.zero_add, hc]
  simp [toZ]
theorem contains_cast (xs : List Nat) (x : Nat) : (toZ xs).contains ((x : Nat) : Int) = xs.contains x := by
  unfold toZ
  induction xs with
  | nil => rfl
  | cons a t ih =>
    rw [List.map_cons, List.contains_cons, List.contains_cons, ih]
    congr 1
    by_cases h : x = a
    · subst h; rw [beq_self_eq_true, beq_self_eq_true]
    · rw [beq_eq_false_iff_ne.2 h, beq_eq_false_iff_ne.2 (show ((x : Nat) : Int) ≠ ((a : Nat) : Int) by omega)]
theorem contains_any (v : Value) (xs : List Nat) (x : Nat) (w : World) (h : Rdl w v xs) (hx : xs.length ≤ 100000) :
    Calls Try.prog 34 #[v, .int .i64 x] w fun e w' => e = .returned (.bool (xs.contains x)) ∧ w = w' := by
  have k := containsz_any v (toZ xs) x w h.z (by rw [toZ_len]; exact hx)
  rw [contains_cast] at k
  exact k
/-- How two numbers compare. -/
def cmpZ (a b : Int) : Int := if a < b then -1 else if b < a then 1 else 0
theorem nan_any (a : Int) (w : World) : Calls Try.prog 79 #[.int .i64 a] w fun e w' => e = .returned (.bool false) ∧ w = w' := by
  go_enter Try.func79, Try.ntmps79
  go_wp2
  go_ret
  exact ⟨by simp, rfl⟩
set_option maxRecDepth 100000 in
theorem compare_any (a b : Int) (w : World) : Calls Try.prog 66 #[.int .i64 a, .int .i64 b] w fun e w' => e = .returned (.int .i64 (cmpZ a b)) ∧ w = w' := by
  have ha := fun W => nan_any a W
  have hb := fun W => nan_any b W
  rcases Int.lt_trichotomy a b with h | h | h
  · have e : cmpZ a b = -1 := by unfold cmpZ; rw [if_pos h]
    rw [e]
    clear e
    go_enter Try.func66, Try.ntmps66
    go_wp2_with (go_at_call 79; first | ((with_reducible refine (ha _).mono ?_); rintro e w' ⟨rfl, rfl⟩) | ((with_reducible refine (hb _).mono ?_); rintro e w' ⟨rfl, rfl⟩))
    go_ret
    exact ⟨rfl, rfl⟩
  · subst h
    have e : cmpZ a a = 0 := by unfold cmpZ; rw [if_neg (by omega), if_neg (by omega)]
    rw [e]
    clear e
    go_enter Try.func66, Try.ntmps66
    go_wp2_with (go_at_call 79; first | ((with_reducible refine (ha _).mono ?_); rintro e w' ⟨rfl, rfl⟩) | ((with_reducible refine (hb _).mono ?_); rintro e w' ⟨rfl, rfl⟩))
    go_ret
    exact ⟨rfl, rfl⟩
  · have e : cmpZ a b = 1 := by unfold cmpZ; rw [if_neg (by omega), if_pos h]
    rw [e]
    clear e
    go_enter Try.func66, Try.ntmps66
    go_wp2_with (go_at_call 79; first | ((with_reducible refine (ha _).mono ?_); rintro e w' ⟨rfl, rfl⟩) | ((with_reducible refine (hb _).mono ?_); rintro e w' ⟨rfl, rfl⟩))
    go_ret
    exact ⟨rfl, rfl⟩
set_option maxRecDepth 100000 in
set_option maxHeartbeats 2000000 in
theorem equal_any (v v' : Value) (xs ys : List Nat) (w : World) (h1 : Rdl w v xs) (h2 : Rdl w v' ys) (hx : xs.length ≤ 100000) :
    Calls Try.prog 17 #[v, v'] w fun e w' => e = .returned (.bool (decide (xs = ys))) ∧ ∃ n, w' = w.drewN n := by
  obtain ⟨q, c, rfl, k1⟩ := h1
  obtain ⟨q', c', rfl, k2⟩ := h2
  by_cases hl : xs.length = ys.length
  · have t1 : ((xs.length : Int) != (ys.length : Int)) = false := by simp; omega
    have HL := Lib.hid hl
    have K1 := Lib.hid k1
    have K2 := Lib.hid k2
    clear hl k1 k2
    go_enter Try.func17, Try.ntmps17
    go_wp2
    go_loopw [13] (fun v wr => ∃ k : Nat, v = .int .i64 k ∧ k ≤ xs.length ∧ Hid (∀ j (a : j < xs.length) (b : j < ys.length), j < k → xs[j] = ys[j]) ∧ ∃ n, wr = w.drewN n) (fun v _ => xs.length - (intOf v).toNat)
    case atStart => exact ⟨0, rfl, Nat.zero_le _, Lib.hid (fun j a b h => absurd h (Nat.not_lt_zero j)), 0, rfl⟩
    case round =>
      obtain ⟨k, rfl, hk, hE, nd, rfl⟩ := hrel
      by_cases hlt : k < xs.length
      · have g1 : decide ((k : Int) < (xs.length : Int)) = true := by simp [hlt]
        have hlt2 : k < ys.length := by rw [← HL.out]; exact hlt
        have W1 : IntKind.i64.wrap ((k : Int) + 1) = ((k + 1 : Nat) : Int) := by rw [IntWalk.i64_in _ (by omega)]; omega
        obtain ⟨g, rfl, c1⟩ := K1.out k hlt
        obtain ⟨g', rfl, c2⟩ := K2.out k hlt2
        have q1 : (0 : Int) ≤ (k : Int) := by omega
        have q2 : (k : Int) < (xs.length : Int) := by omega
        have q3 : (k : Int) < (ys.length : Int) := by omega
        obtain ⟨x, hxx⟩ : ∃ x, x = xs[k] := ⟨_, rfl⟩
        obtain ⟨y, hyy⟩ : ∃ y, y = ys[k] := ⟨_, rfl⟩
        rw [← hxx] at c1
        rw [← hyy] at c2
        have HX := Lib.hid hxx
        have HY := Lib.hid hyy
        clear hxx hyy
        by_cases e : x = y
        · subst e
          have t2 : ((x : Int) != (x : Int)) = false := by simp
          have HE : Hid (∀ j (a : j < xs.length) (b : j < ys.length), j < k + 1 → xs[j] = ys[j]) := Lib.hid fun j a b h => by
            rcases Nat.lt_or_ge j k with h1 | h1
            · exact hE.out j a b h1
            · have : j = k := by omega
              subst this
              rw [← HX.out, ← HY.out]
          go_wp2_with fail
          go_quiet (fail)
          go_wp2
          exact ⟨⟨k + 1, rfl, hlt, HE, _, rfl⟩, by simp [intOf]; omega⟩
        · have t2 : ((x : Int) != (y : Int)) = true := by simp; omega
          have HN := Lib.hid e
          clear e
          go_wp2_with fail
          go_quiet (fail)
          go_wp2
          go_ret
          have : decide (xs = ys) = false := decide_eq_false fun h => HN.out (by rw [HX.out, HY.out]; simp [h])
          exact ⟨by rw [this]; rfl, _, World.drewN_drewN _ _ _⟩
      · have g1 : decide ((k : Int) < (xs.length : Int)) = false := by simp; omega
        go_wp2
        go_ret
        have : decide (xs = ys) = true := decide_eq_true (eq_of_take HL.out fun j a b => hE.out j a b (by omega))
        exact ⟨by rw [this]; rfl, _, rfl⟩
  · have t1 : ((xs.length : Int) != (ys.length : Int)) = true := by simp; omega
    have HL := Lib.hid hl
    clear hl k1 k2
    go_enter Try.func17, Try.ntmps17
    go_wp2
    go_ret
    have : decide (xs = ys) = false := decide_eq_false fun h => HL.out (by rw [h])
    exact ⟨by rw [this]; rfl, 0, rfl⟩

/-- Whether a number is none of the n first ones. -/
def outN (n : Int) (z : Int) : Bool := !wi z n
theorem clo44 (z n : Int) (g : Nat) (w : World) (hg : w.cell? ⟨g, 0, none⟩ = some (.int .i64 n)) :
    Calls Try.prog 44 #[.int .i64 z, .pointer (some ⟨g, 0, none⟩)] w fun e w' => e = .returned (.bool (outN n z)) ∧ w = w' := by
  have h := fun W => within_any z n W
  have e : outN n z = !wi z n := rfl
  rw [e]
  clear e
  cases hv : wi z n
  all_goals (
    rw [hv] at h
    go_enter Try.func44, Try.ntmps44
    go_wp2_with (go_at_call 45; (with_reducible refine (h _).mono ?_); rintro e w' ⟨rfl, rfl⟩)
    go_ret
    exact ⟨rfl, rfl⟩)
theorem clo49 (z : Int) (w : World) :
    Calls Try.prog 49 #[.int .i64 z] w fun e w' => e = .returned (.bool (outN 1073741825 z)) ∧ w = w' := by
  have h := fun W => within_any z 1073741825 W
  have e : outN 1073741825 z = !wi z 1073741825 := rfl
  rw [e]
  clear e
  cases hv : wi z 1073741825
  all_goals (
    rw [hv] at h
    go_enter Try.func49, Try.ntmps49
    go_wp2_with (go_at_call 45; (with_reducible refine (h _).mono ?_); rintro e w' ⟨rfl, rfl⟩)
    go_ret
    exact ⟨rfl, rfl⟩)

set_option maxRecDepth 100000 in
theorem out44_idx (v : Value) (zs : List Int) (w : World) (n : Int) (g : Nat) (hg : w.cell? ⟨g, 0, none⟩ = some (.int .i64 n)) (hR : Rdz w v zs) (hl : zs.length ≤ 100000) :
    Calls Try.prog 57 #[v, .func (.func 44) #[] #[.pointer (some ⟨g, 0, none⟩)]] w fun e w' => ∃ i : Int, e = .returned (.int .i64 i) ∧ decide (0 ≤ i) = zs.any (outN n) ∧ w = w' := by
  obtain ⟨q, c, rfl, k1⟩ := hR
  have K1 := Lib.hid k1
  clear k1
  go_enter Try.func57, Try.ntmps57
  go_wp2
  go_loop [8] (fun v => ∃ k : Nat, v = .int .i64 k ∧ k ≤ zs.length ∧ Hid (∀ x ∈ zs.take k, (outN n) x = false)) (fun v => zs.length - (intOf v).toNat)
  case atStart => exact ⟨0, rfl, Nat.zero_le _, Lib.hid (by simp)⟩
  case round =>
    obtain ⟨k, rfl, hk, hG⟩ := hrel
    by_cases hlt : k < zs.length
    · have g1 : decide ((k : Int) < (zs.length : Int)) = true := by simp [hlt]
      have W1 : IntKind.i64.wrap ((k : Int) + 1) = ((k + 1 : Nat) : Int) := by rw [IntWalk.i64_in _ (by omega)]; omega
      have q1 : (0 : Int) ≤ (k : Int) := by omega
      have q2 : (k : Int) < (zs.length : Int) := by omega
      obtain ⟨a, rfl, d0⟩ := K1.out k hlt
      have hm : zs[k] ∈ zs := List.getElem_mem hlt
      have HT : Hid (∀ x ∈ zs.take (k + 1), x ∈ zs.take k ∨ x = zs[k]) := Lib.hid fun x hx => by
        rw [List.take_succ_eq_append_getElem hlt, List.mem_append] at hx
        rcases hx with hx | hx
        · exact .inl hx
        · exact .inr (List.mem_singleton.1 hx)
      obtain ⟨y, hyy⟩ : ∃ y, y = zs[k] := ⟨_, rfl⟩
      rw [← hyy] at d0 hm HT
      have HY := Lib.hid hyy
      clear hyy
      have hf := fun W h => clo44 y n g W h
      cases hv : (outN n) y
      · have HG : Hid (∀ x ∈ zs.take (k + 1), (outN n) x = false) := Lib.hid fun x hx => by
          rcases HT.out x hx with h | h
          · exact hG.out x h
          · rw [h]; exact hv
        rw [hv] at hf
        clear hv
        go_wp2_with (go_at_call 44; (with_reducible refine (hf _ hg).mono ?_); rintro e1 w1 ⟨rfl, rfl⟩)
        exact ⟨⟨k + 1, rfl, hlt, HG⟩, by simp [intOf]; omega⟩
      · have HE : Hid (zs.any (outN n) = true) := Lib.hid (List.any_eq_true.2 ⟨y, hm, hv⟩)
        rw [hv] at hf
        clear hv
        go_wp2_with (go_at_call 44; (with_reducible refine (hf _ hg).mono ?_); rintro e1 w1 ⟨rfl, rfl⟩)
        go_ret
        exact ⟨_, rfl, by rw [HE.out]; simp, rfl⟩
    · have g1 : decide ((k : Int) < (zs.length : Int)) = false := by simp; omega
      have HE : Hid (zs.any (outN n) = false) := Lib.hid (List.any_eq_false.2 fun x hx => by
        have := hG.out x (by rw [List.take_of_length_le (by omega)]; exact hx)
        simp [this])
      go_wp2
      go_ret
      exact ⟨-1, rfl, by rw [HE.out]; rfl, rfl⟩
theorem out44_has (v : Value) (zs : List Int) (w : World) (n : Int) (g : Nat) (hg : w.cell? ⟨g, 0, none⟩ = some (.int .i64 n)) (hR : Rdz w v zs) (hl : zs.length ≤ 100000) :
    Calls Try.prog 32 #[v, .func (.func 44) #[] #[.pointer (some ⟨g, 0, none⟩)]] w fun e w' => e = .returned (.bool (zs.any (outN n))) ∧ w = w' := by
  go_enter Try.func32, Try.ntmps32
  go_wp2_with (go_at_call 57; (with_reducible refine (out44_idx v zs _ n g hg hR hl).mono ?_); rintro e1 w1 ⟨i, rfl, hi, rfl⟩)
  go_ret
  exact ⟨rfl, rfl⟩

set_option maxRecDepth 100000 in
theorem out49_idx (v : Value) (zs : List Int) (w : World)  (hR : Rdz w v zs) (hl : zs.length ≤ 100000) :
    Calls Try.prog 57 #[v, .func (.func 49) #[] #[]] w fun e w' => ∃ i : Int, e = .returned (.int .i64 i) ∧ decide (0 ≤ i) = zs.any (outN 1073741825) ∧ w = w' := by
  obtain ⟨q, c, rfl, k1⟩ := hR
  have K1 := Lib.hid k1
  clear k1
  go_enter Try.func57, Try.ntmps57
  go_wp2
  go_loop [8] (fun v => ∃ k : Nat, v = .int .i64 k ∧ k ≤ zs.length ∧ Hid (∀ x ∈ zs.take k, (outN 1073741825) x = false)) (fun v => zs.length - (intOf v).toNat)
  case atStart => exact ⟨0, rfl, Nat.zero_le _, Lib.hid (by simp)⟩
  case round =>
    obtain ⟨k, rfl, hk, hG⟩ := hrel
    by_cases hlt : k < zs.length
    · have g1 : decide ((k : Int) < (zs.length : Int)) = true := by simp [hlt]
      have W1 : IntKind.i64.wrap ((k : Int) + 1) = ((k + 1 : Nat) : Int) := by rw [IntWalk.i64_in _ (by omega)]; omega
      have q1 : (0 : Int) ≤ (k : Int) := by omega
      have q2 : (k : Int) < (zs.length : Int) := by omega
      obtain ⟨a, rfl, d0⟩ := K1.out k hlt
      have hm : zs[k] ∈ zs := List.getElem_mem hlt
      have HT : Hid (∀ x ∈ zs.take (k + 1), x ∈ zs.take k ∨ x = zs[k]) := Lib.hid fun x hx => by
        rw [List.take_succ_eq_append_getElem hlt, List.mem_append] at hx
        rcases hx with hx | hx
        · exact .inl hx
        · exact .inr (List.mem_singleton.1 hx)
      obtain ⟨y, hyy⟩ : ∃ y, y = zs[k] := ⟨_, rfl⟩
      rw [← hyy] at d0 hm HT
      have HY := Lib.hid hyy
      clear hyy
      have hf := fun W => clo49 y W
      cases hv : (outN 1073741825) y
      · have HG : Hid (∀ x ∈ zs.take (k + 1), (outN 1073741825) x = false) := Lib.hid fun x hx => by
          rcases HT.out x hx with h | h
          · exact hG.out x h
          · rw [h]; exact hv
        rw [hv] at hf
        clear hv
        go_wp2_with (go_at_call 49; (with_reducible refine (hf _).mono ?_); rintro e1 w1 ⟨rfl, rfl⟩)
        exact ⟨⟨k + 1, rfl, hlt, HG⟩, by simp [intOf]; omega⟩
      · have HE : Hid (zs.any (outN 1073741825) = true) := Lib.hid (List.any_eq_true.2 ⟨y, hm, hv⟩)
        rw [hv] at hf
        clear hv
        go_wp2_with (go_at_call 49; (with_reducible refine (hf _).mono ?_); rintro e1 w1 ⟨rfl, rfl⟩)
        go_ret
        exact ⟨_, rfl, by rw [HE.out]; simp, rfl⟩
    · have g1 : decide ((k : Int) < (zs.length : Int)) = false := by simp; omega
      have HE : Hid (zs.any (outN 1073741825) = false) := Lib.hid (List.any_eq_false.2 fun x hx => by
        have := hG.out x (by rw [List.take_of_length_le (by omega)]; exact hx)
        simp [this])
      go_wp2
      go_ret
      exact ⟨-1, rfl, by rw [HE.out]; rfl, rfl⟩
theorem out49_has (v : Value) (zs : List Int) (w : World)  (hR : Rdz w v zs) (hl : zs.length ≤ 100000) :
    Calls Try.prog 32 #[v, .func (.func 49) #[] #[]] w fun e w' => e = .returned (.bool (zs.any (outN 1073741825))) ∧ w = w' := by
  go_enter Try.func32, Try.ntmps32
  go_wp2_with (go_at_call 57; (with_reducible refine (out49_idx v zs _  hR hl).mono ?_); rintro e1 w1 ⟨i, rfl, hi, rfl⟩)
  go_ret
  exact ⟨rfl, rfl⟩
end Go.Proofs.Yteofbbakegcohaa
