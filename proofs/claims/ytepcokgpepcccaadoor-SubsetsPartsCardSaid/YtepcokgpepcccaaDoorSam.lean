/- The reference's Same: lists of lists. -/
import Derived.Test.YtepcokgpepcccaaDoorSms
namespace Go.Proofs.YtepcokgpepcccaaDoor
open Go.ChangeShapes Go.WideShapes Go.ChangeAt Go.RowKit
set_option linter.unusedVariables false
set_option linter.unusedSimpArgs false

/-- The value is a list of these lists. -/
def Rdzz (w : World) (v : Value) (ls : List (List Int)) : Prop := ∃ q c, v = .slice q ls.length c ∧ ∀ j (h : j < ls.length), ∃ a u, q = some a ∧ w.cell? (a.add j) = some u ∧ Rdz w u ls[j]
theorem Rdzz.on {w w1 : World} {v : Value} {ls : List (List Int)} (h : Rdzz w v ls) (hb : Below w.heap.size w w1) : Rdzz w1 v ls := by
  obtain ⟨q, c, rfl, k⟩ := h
  refine ⟨q, c, rfl, fun j hj => ?_⟩
  obtain ⟨a, u, e, hc, hu⟩ := k j hj
  exact ⟨a, u, e, cell_later hb hc, hu.on hb⟩
theorem earl_irr : ∀ xs : List Int, earl xs xs = false
  | [] => rfl
  | x :: xs => by rw [earl, if_pos rfl, earl_irr xs]
theorem earl_tri : ∀ xs ys : List Int, earl xs ys = false → earl ys xs = false → xs = ys
  | [], [], _, _ => rfl
  | [], _ :: _, h, _ => by cases h
  | _ :: _, [], _, h => by cases h
  | x :: xs, y :: ys, h1, h2 => by
    by_cases e : x = y
    · subst e
      rw [earl, if_pos rfl] at h1 h2
      rw [earl_tri xs ys h1 h2]
    · rw [earl, if_neg e, decide_eq_false_iff_not] at h1
      rw [earl, if_neg (Ne.symm e), decide_eq_false_iff_not] at h2
      omega
set_option maxRecDepth 100000 in
set_option maxHeartbeats 1000000 in
theorem same_any (v v' : Value) (ls ms : List (List Int)) (w : World) (h1 : Rdzz w v ls) (h2 : Rdzz w v' ms) (hx : ls.length ≤ 100000) (hy : ∀ x ∈ ls, x.length ≤ 100000) (hy2 : ∀ x ∈ ms, x.length ≤ 100000) :
    Calls Tryd.prog 27 #[v, v'] w fun e w' => e = .returned (.bool (decide (ls = ms))) ∧ ∃ n, w' = w.drewN n := by
  obtain ⟨q, c, rfl, k1⟩ := h1
  obtain ⟨q', c', rfl, k2⟩ := h2
  by_cases hl : ls.length = ms.length
  · have t1 : ((ls.length : Int) != (ms.length : Int)) = false := by simp; omega
    have HL := Lib.hid hl
    have K1 := Lib.hid k1
    have K2 := Lib.hid k2
    have HY := Lib.hid hy
    have HY2 := Lib.hid hy2
    clear hl k1 k2 hy hy2
    go_enter Tryd.func27, Tryd.ntmps27
    go_wp2
    go_loopw [5] (fun v wr => ∃ k : Nat, v = .int .i64 k ∧ k ≤ ls.length ∧ Hid (∀ j (a : j < ls.length) (b : j < ms.length), j < k → ls[j] = ms[j]) ∧ ∃ n, wr = w.drewN n) (fun v _ => ls.length - (intOf v).toNat)
    case atStart => exact ⟨0, rfl, Nat.zero_le _, Lib.hid (fun j a b h => absurd h (Nat.not_lt_zero j)), 0, rfl⟩
    case round =>
      obtain ⟨i, rfl, hk, hE, nd, hw⟩ := hrel
      by_cases hlt : i < ls.length
      · have g1 : decide ((i : Int) < (ls.length : Int)) = true := by simp [hlt]
        have hlt2 : i < ms.length := by rw [← HL.out]; exact hlt
        have W1 : IntKind.i64.wrap ((i : Int) + 1) = ((i + 1 : Nat) : Int) := by rw [IntWalk.i64_in _ (by omega)]; omega
        have hbw : Below w.heap.size w wr := by rw [hw]; exact below_drewN (Below.refl _ _) _
        obtain ⟨a, u, rfl, cu, hu⟩ := K1.out i hlt
        obtain ⟨a', u', rfl, cu', hu'⟩ := K2.out i hlt2
        have cu := cell_later hbw cu
        have cu' := cell_later hbw cu'
        have hu := hu.on hbw
        have hu' := hu'.on hbw
        have hxl := HY.out _ (List.getElem_mem hlt)
        have hyl := HY2.out _ (List.getElem_mem hlt2)
        obtain ⟨xs, hxs⟩ : ∃ xs, xs = ls[i] := ⟨_, rfl⟩
        obtain ⟨ys, hys⟩ : ∃ ys, ys = ms[i] := ⟨_, rfl⟩
        rw [← hxs] at hu hxl
        rw [← hys] at hu' hyl
        have HXS := Lib.hid hxs
        have HYS := Lib.hid hys
        have q1 : (0 : Int) ≤ (i : Int) := by omega
        have q2 : (i : Int) < (ls.length : Int) := by omega
        have q3 : (i : Int) < (ms.length : Int) := by omega
        have e1 := fun m => earl_any u u' xs ys (wr.drewN m) (hu.on (below_drewN (Below.refl _ _) _)) (hu'.on (below_drewN (Below.refl _ _) _)) hxl
        have e2 := fun m => earl_any u' u ys xs (wr.drewN m) (hu'.on (below_drewN (Below.refl _ _) _)) (hu.on (below_drewN (Below.refl _ _) _)) hyl
        have HW := Lib.hid hw
        clear hxs hys hu hu' hxl hyl hw hbw
        cases b1 : earl xs ys
        · cases b2 : earl ys xs
          · have HE : Hid (∀ j (a : j < ls.length) (b : j < ms.length), j < i + 1 → ls[j] = ms[j]) := Lib.hid fun j a b h => by
              rcases Nat.lt_or_ge j i with h1 | h1
              · exact hE.out j a b h1
              · have : j = i := by omega
                subst this
                rw [← HXS.out, ← HYS.out]; exact earl_tri xs ys b1 b2
            rw [b1] at e1
            rw [b2] at e2
            clear b1 b2
            go_wp2_with fail
            go_quiet (first | (with_reducible exact Calls.quiet_of (e1 _)) | (with_reducible exact Calls.quiet_of (e2 _)))
            go_wp2
            exact ⟨⟨i + 1, rfl, hlt, HE, _, by rw [HW.out, World.drewN_drewN]⟩, by simp [intOf]; omega⟩
          · have hne : Hid (ls ≠ ms) := Lib.hid fun e => by
              have : xs = ys := by rw [HXS.out, HYS.out]; simp [e]
              rw [this, earl_irr] at b2; cases b2
            rw [b1] at e1
            rw [b2] at e2
            clear b1 b2
            go_wp2_with fail
            go_quiet (first | (with_reducible exact Calls.quiet_of (e1 _)) | (with_reducible exact Calls.quiet_of (e2 _)))
            go_wp2
            go_ret
            exact ⟨by rw [decide_eq_false hne.out]; rfl, _, by rw [HW.out, World.drewN_drewN]⟩
        · have hne : Hid (ls ≠ ms) := Lib.hid fun e => by
            have : xs = ys := by rw [HXS.out, HYS.out]; simp [e]
            rw [this, earl_irr] at b1; cases b1
          rw [b1] at e1
          clear b1
          go_wp2_with fail
          go_quiet (first | (with_reducible exact Calls.quiet_of (e1 _)) | (with_reducible exact Calls.quiet_of (e2 _)))
          go_wp2
          go_ret
          exact ⟨by rw [decide_eq_false hne.out]; rfl, _, by rw [HW.out, World.drewN_drewN]⟩
      · have g1 : decide ((i : Int) < (ls.length : Int)) = false := by simp; omega
        have HW := Lib.hid hw
        clear hw
        go_wp2
        go_ret
        have : ls = ms := List.ext_getElem HL.out fun j a b => hE.out j a b (by omega)
        exact ⟨by rw [decide_eq_true this]; rfl, _, HW.out⟩
  · have t1 : ((ls.length : Int) != (ms.length : Int)) = true := by simp; omega
    have HL := Lib.hid hl
    clear hl k1 k2
    go_enter Tryd.func27, Tryd.ntmps27
    go_wp2
    go_ret
    exact ⟨by rw [decide_eq_false (fun h => HL.out (by rw [h]))]; rfl, 0, rfl⟩
end Go.Proofs.YtepcokgpepcccaaDoor
