/- Lists compared: slices.Equal, the reference's Same. -/
import Derived.Test.YtampfciacjifgaaRpt
namespace Go.Proofs.Ytampfciacjifgaa
open Go.ChangeShapes Go.WideShapes Go.ChangeAt Go.RowKit
set_option linter.unusedVariables false
set_option linter.unusedSimpArgs false

/-- A slice of whole numbers that can be read. -/
def Rdl (w : World) (v : Value) (xs : List Nat) : Prop := ∃ q c, v = .slice q xs.length c ∧ ∀ j (h : j < xs.length), ∃ g, q = some ⟨g, 0, none⟩ ∧ w.cell? ⟨g, j, none⟩ = some (.int .i64 (xs[j] : Nat))
theorem Own.rd {B : Nat} {w : World} {v : Value} {xs : List Nat} (h : Own B w v xs) : Rdl w v xs := by
  obtain ⟨q, c, rfl, k⟩ := own_form h
  refine ⟨q, c, rfl, fun j hj => ?_⟩
  rcases k with ⟨-, rfl⟩ | ⟨g, rfl, -, -⟩
  · simp at hj
  · exact ⟨g, rfl, Own.cell h rfl hj⟩
theorem Rdl.on {w w1 : World} {v : Value} {xs : List Nat} (h : Rdl w v xs) (hb : Below w.heap.size w w1) : Rdl w1 v xs := by
  obtain ⟨q, c, rfl, k⟩ := h
  refine ⟨q, c, rfl, fun j hj => ?_⟩
  obtain ⟨g, e, hc⟩ := k j hj
  exact ⟨g, e, cell_later hb hc⟩
theorem Rdl.drew {w : World} {v : Value} {xs : List Nat} (h : Rdl w v xs) (n : Nat) : Rdl (w.drewN n) v xs := h
def Rdn (w : World) (v : Value) (ls : List (List Nat)) : Prop := ∃ q c, v = .slice q ls.length c ∧ ∀ i (h : i < ls.length), ∃ g u, q = some ⟨g, 0, none⟩ ∧ w.cell? ⟨g, i, none⟩ = some u ∧ Rdl w u ls[i]
theorem Nest.rd {B : Nat} {w : World} {v : Value} {ls : List (List Nat)} (h : Nest B w v ls) : Rdn w v ls := by
  obtain ⟨vs, o, I⟩ := h
  have k := o
  rcases k with ⟨hl, ⟨rfl, h0⟩ | ⟨g, c, cur, rfl, -⟩⟩
  · exact ⟨none, 0, by rw [h0], fun i hi => absurd hi (by omega)⟩
  · refine ⟨_, c, rfl, fun i hi => ?_⟩
    have hu : vs[i]? = some (vs[i]'(by rw [I.len]; exact hi)) := List.getElem?_eq_getElem _
    exact ⟨g, _, rfl, by rw [World.ownsRow.cellAt o i (by omega)]; exact hu, (I.own i _ _ hu (List.getElem?_eq_getElem hi)).rd⟩
theorem Rdn.on {w w1 : World} {v : Value} {ls : List (List Nat)} (h : Rdn w v ls) (hb : Below w.heap.size w w1) : Rdn w1 v ls := by
  obtain ⟨q, c, rfl, k⟩ := h
  refine ⟨q, c, rfl, fun i hi => ?_⟩
  obtain ⟨g, u, e, hc, hr⟩ := k i hi
  exact ⟨g, u, e, cell_later hb hc, hr.on hb⟩

theorem eq_of_take {α : Type} {xs ys : List α} (hl : xs.length = ys.length) (h : ∀ j (a : j < xs.length) (b : j < ys.length), xs[j] = ys[j]) : xs = ys := List.ext_getElem hl fun j a b => h j a b
set_option maxRecDepth 100000 in
set_option maxHeartbeats 2000000 in
theorem equal_any (v v' : Value) (xs ys : List Nat) (w : World) (h1 : Rdl w v xs) (h2 : Rdl w v' ys) (hx : xs.length ≤ 100000) :
    Calls Try.prog 17 #[v, v'] w fun e w' => e = .returned (.bool (decide (xs = ys))) ∧ ∃ n, w' = w.drewN n := by
  obtain ⟨q, c, rfl, k1⟩ := h1
  obtain ⟨q', c', rfl, k2⟩ := h2
  by_cases hl : xs.length = ys.length
  · have t1 : ((xs.length : Int) != (ys.length : Int)) = false := by simp; omega
    have HL := Lib.hid hl
    have K1 := Lib.hid k1
    have K2 := Lib.hid k2
    clear hl k1 k2
    go_enter Try.func17, Try.ntmps17
    go_wp2
    go_loopw [13] (fun v wr => ∃ k : Nat, v = .int .i64 k ∧ k ≤ xs.length ∧ Hid (∀ j (a : j < xs.length) (b : j < ys.length), j < k → xs[j] = ys[j]) ∧ ∃ n, wr = w.drewN n) (fun v _ => xs.length - (intOf v).toNat)
    case atStart => exact ⟨0, rfl, Nat.zero_le _, Lib.hid (fun j a b h => absurd h (Nat.not_lt_zero j)), 0, rfl⟩
    case round =>
      obtain ⟨k, rfl, hk, hE, nd, rfl⟩ := hrel
      by_cases hlt : k < xs.length
      · have g1 : decide ((k : Int) < (xs.length : Int)) = true := by simp [hlt]
        have hlt2 : k < ys.length := by rw [← HL.out]; exact hlt
        have W1 : IntKind.i64.wrap ((k : Int) + 1) = ((k + 1 : Nat) : Int) := by rw [IntWalk.i64_in _ (by omega)]; omega
        obtain ⟨g, rfl, c1⟩ := K1.out k hlt
        obtain ⟨g', rfl, c2⟩ := K2.out k hlt2
        have q1 : (0 : Int) ≤ (k : Int) := by omega
        have q2 : (k : Int) < (xs.length : Int) := by omega
        have q3 : (k : Int) < (ys.length : Int) := by omega
        obtain ⟨x, hxx⟩ : ∃ x, x = xs[k] := ⟨_, rfl⟩
        obtain ⟨y, hyy⟩ : ∃ y, y = ys[k] := ⟨_, rfl⟩
        rw [← hxx] at c1
        rw [← hyy] at c2
        have HX := Lib.hid hxx
        have HY := Lib.hid hyy
        clear hxx hyy
        by_cases e : x = y
        · subst e
          have t2 : ((x : Int) != (x : Int)) = false := by simp
          have HE : Hid (∀ j (a : j < xs.length) (b : j < ys.length), j < k + 1 → xs[j] = ys[j]) := Lib.hid fun j a b h => by
            rcases Nat.lt_or_ge j k with h1 | h1
            · exact hE.out j a b h1
            · have : j = k := by omega
              subst this
              rw [← HX.out, ← HY.out]
          go_wp2_with fail
          go_quiet (fail)
          go_wp2
          exact ⟨⟨k + 1, rfl, hlt, HE, _, rfl⟩, by simp [intOf]; omega⟩
        · have t2 : ((x : Int) != (y : Int)) = true := by simp; omega
          have HN := Lib.hid e
          clear e
          go_wp2_with fail
          go_quiet (fail)
          go_wp2
          go_ret
          have : decide (xs = ys) = false := decide_eq_false fun h => HN.out (by rw [HX.out, HY.out]; simp [h])
          exact ⟨by rw [this]; rfl, _, World.drewN_drewN _ _ _⟩
      · have g1 : decide ((k : Int) < (xs.length : Int)) = false := by simp; omega
        go_wp2
        go_ret
        have : decide (xs = ys) = true := decide_eq_true (eq_of_take HL.out fun j a b => hE.out j a b (by omega))
        exact ⟨by rw [this]; rfl, _, rfl⟩
  · have t1 : ((xs.length : Int) != (ys.length : Int)) = true := by simp; omega
    have HL := Lib.hid hl
    clear hl k1 k2
    go_enter Try.func17, Try.ntmps17
    go_wp2
    go_ret
    have : decide (xs = ys) = false := decide_eq_false fun h => HL.out (by rw [h])
    exact ⟨by rw [this]; rfl, 0, rfl⟩

/-- Lists of lists that agree up to list i, and in that one up to place k. -/
def Agr (ls ms : List (List Nat)) (i : Nat) : Prop := ∀ j (a : j < ls.length) (b : j < ms.length), j < i → ls[j] = ms[j]
set_option maxRecDepth 100000 in
set_option maxHeartbeats 4000000 in
theorem same_any (v v' : Value) (ls ms : List (List Nat)) (w : World) (h1 : Rdn w v ls) (h2 : Rdn w v' ms) (hx : ls.length ≤ 100000) (hy : ∀ x ∈ ls, x.length ≤ 100000) :
    Calls Try.prog 15 #[v, v'] w fun e w' => e = .returned (.bool (decide (ls = ms))) ∧ ∃ n, w' = w.drewN n := by
  obtain ⟨q, c, rfl, k1⟩ := h1
  obtain ⟨q', c', rfl, k2⟩ := h2
  by_cases hl : ls.length = ms.length
  · have t1 : ((ls.length : Int) != (ms.length : Int)) = false := by simp; omega
    have HL := Lib.hid hl
    have K1 := Lib.hid k1
    have K2 := Lib.hid k2
    have HY := Lib.hid hy
    clear hl k1 k2 hy
    go_enter Try.func15, Try.ntmps15
    go_wp2
    go_loopw [5] (fun v wr => ∃ k : Nat, v = .int .i64 k ∧ k ≤ ls.length ∧ Hid (Agr ls ms k) ∧ ∃ n, wr = w.drewN n) (fun v _ => ls.length - (intOf v).toNat)
    case atStart => exact ⟨0, rfl, Nat.zero_le _, Lib.hid (fun j a b h => absurd h (Nat.not_lt_zero j)), 0, rfl⟩
    case round =>
      obtain ⟨i, rfl, hk, hE, nd, rfl⟩ := hrel
      by_cases hlt : i < ls.length
      · have g1 : decide ((i : Int) < (ls.length : Int)) = true := by simp [hlt]
        have hlt2 : i < ms.length := by rw [← HL.out]; exact hlt
        have W1 : IntKind.i64.wrap ((i : Int) + 1) = ((i + 1 : Nat) : Int) := by rw [IntWalk.i64_in _ (by omega)]; omega
        obtain ⟨g, u, rfl, cu, hu⟩ := K1.out i hlt
        obtain ⟨g', u', rfl, cu', hu'⟩ := K2.out i hlt2
        have hxl := HY.out _ (List.getElem_mem hlt)
        obtain ⟨xs, hxs⟩ : ∃ xs, xs = ls[i] := ⟨_, rfl⟩
        obtain ⟨ys, hys⟩ : ∃ ys, ys = ms[i] := ⟨_, rfl⟩
        rw [← hxs] at hu hxl
        rw [← hys] at hu'
        have HXS := Lib.hid hxs
        have HYS := Lib.hid hys
        clear hxs hys
        obtain ⟨q, c1, rfl, k1⟩ := hu
        obtain ⟨q', c1', rfl, k2⟩ := hu'
        have q1 : (0 : Int) ≤ (i : Int) := by omega
        have q2 : (i : Int) < (ls.length : Int) := by omega
        have q3 : (i : Int) < (ms.length : Int) := by omega
        by_cases hll : xs.length = ys.length
        · have t2 : ((xs.length : Int) != (ys.length : Int)) = false := by simp; omega
          have HLL := Lib.hid hll
          have K3 := Lib.hid k1
          have K4 := Lib.hid k2
          have HLT := Lib.hid hlt
          clear hll k1 k2
          go_wp2_with fail
          go_quiet (fail)
          go_wp2
          go_loopw [6] (fun v wr => ∃ k : Nat, v = .int .i64 k ∧ k ≤ xs.length ∧ Hid (∀ j (a : j < xs.length) (b : j < ys.length), j < k → xs[j] = ys[j]) ∧ ∃ n, wr = w.drewN n) (fun v _ => xs.length - (intOf v).toNat)
          case atStart => exact ⟨0, rfl, Nat.zero_le _, Lib.hid (fun j a b h => absurd h (Nat.not_lt_zero j)), _, World.drewN_drewN _ _ _⟩
          case round =>
            obtain ⟨k, rfl, hk2, hE2, nd2, rfl⟩ := hrel
            by_cases hltk : k < xs.length
            · have g1 : decide ((k : Int) < (xs.length : Int)) = true := by simp [hltk]
              have hltk2 : k < ys.length := by rw [← HLL.out]; exact hltk
              have W1 : IntKind.i64.wrap ((k : Int) + 1) = ((k + 1 : Nat) : Int) := by rw [IntWalk.i64_in _ (by omega)]; omega
              obtain ⟨G, rfl, c2⟩ := K3.out k hltk
              obtain ⟨G', rfl, c3⟩ := K4.out k hltk2
              have q4 : (0 : Int) ≤ (k : Int) := by omega
              have q5 : (k : Int) < (xs.length : Int) := by omega
              have q6 : (k : Int) < (ys.length : Int) := by omega
              obtain ⟨x, hxx⟩ : ∃ x, x = xs[k] := ⟨_, rfl⟩
              obtain ⟨y, hyy⟩ : ∃ y, y = ys[k] := ⟨_, rfl⟩
              rw [← hxx] at c2
              rw [← hyy] at c3
              have HX := Lib.hid hxx
              have HYY := Lib.hid hyy
              clear hxx hyy
              by_cases e : x = y
              · subst e
                have t3 : ((x : Int) != (x : Int)) = false := by simp
                have HE : Hid (∀ j (a : j < xs.length) (b : j < ys.length), j < k + 1 → xs[j] = ys[j]) := Lib.hid fun j a b h => by
                  rcases Nat.lt_or_ge j k with h1 | h1
                  · exact hE2.out j a b h1
                  · have : j = k := by omega
                    subst this
                    rw [← HX.out, ← HYY.out]
                go_wp2_with fail
                go_quiet (fail)
                go_wp2
                exact ⟨⟨k + 1, rfl, hltk, HE, _, rfl⟩, by simp [intOf]; omega⟩
              · have t3 : ((x : Int) != (y : Int)) = true := by simp; omega
                have HN := Lib.hid e
                clear e
                go_wp2_with fail
                go_quiet (fail)
                go_wp2
                go_ret
                have : decide (ls = ms) = false := decide_eq_false fun h => HN.out (by
                  rw [HX.out, HYY.out]
                  have e2 : xs = ys := by rw [HXS.out, HYS.out]; simp [h]
                  simp [e2])
                exact ⟨by rw [this]; rfl, _, World.drewN_drewN _ _ _⟩
            · have g1 : decide ((k : Int) < (xs.length : Int)) = false := by simp; omega
              have W1 : IntKind.i64.wrap ((i : Int) + 1) = ((i + 1 : Nat) : Int) := by rw [IntWalk.i64_in _ (by omega)]; omega
              have e2 : xs = ys := eq_of_take HLL.out fun j a b => hE2.out j a b (by omega)
              have HE : Hid (Agr ls ms (i + 1)) := Lib.hid fun j a b h => by
                rcases Nat.lt_or_ge j i with h1 | h1
                · exact hE.out j a b h1
                · have : j = i := by omega
                  subst this
                  rw [← HXS.out, ← HYS.out, e2]
              have hlt := HLT.out
              clear e2
              go_wp2
              exact ⟨⟨i + 1, rfl, hlt, HE, _, rfl⟩, by simp [intOf]; omega⟩
        · have t2 : ((xs.length : Int) != (ys.length : Int)) = true := by simp; omega
          have HLL := Lib.hid hll
          clear hll k1 k2
          go_wp2_with fail
          go_quiet (fail)
          go_wp2
          go_ret
          have : decide (ls = ms) = false := decide_eq_false fun h => HLL.out (by rw [HXS.out, HYS.out]; simp [h])
          exact ⟨by rw [this]; rfl, _, World.drewN_drewN _ _ _⟩
      · have g1 : decide ((i : Int) < (ls.length : Int)) = false := by simp; omega
        go_wp2
        go_ret
        have : decide (ls = ms) = true := decide_eq_true (eq_of_take HL.out fun j a b => hE.out j a b (by omega))
        exact ⟨by rw [this]; rfl, _, rfl⟩
  · have t1 : ((ls.length : Int) != (ms.length : Int)) = true := by simp; omega
    have HL := Lib.hid hl
    clear hl k1 k2
    go_enter Try.func15, Try.ntmps15
    go_wp2
    go_ret
    have : decide (ls = ms) = false := decide_eq_false fun h => HL.out (by rw [h])
    exact ⟨by rw [this]; rfl, 0, rfl⟩
end Go.Proofs.Ytampfciacjifgaa
