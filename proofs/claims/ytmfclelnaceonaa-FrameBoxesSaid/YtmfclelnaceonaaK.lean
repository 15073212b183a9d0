/- ContainsFunc at points; ready; the example. -/
import Derived.Test.YtmfclelnaceonaaJ
namespace Go.Proofs.Ytmfclelnaceonaa
open Go.ChangeShapes Go.WideShapes Go.ChangeAt Go.RowKit
set_option linter.unusedVariables false
set_option linter.unusedSimpArgs false

theorem eq37_same (x : Pt) (W : World) : (binOp .eql 37 x.val x.val).run Try.prog W = .ok (.bool true) W := by
  rw [eq37]; simp
theorem eq23_same (x y : Int) (W : World) : (binOp .eql 23 (.agg #[.int .i64 x, .int .i64 y]) (.agg #[.int .i64 x, .int .i64 y])).run Try.prog W = .ok (.bool true) W := by
  rw [eq23]; simp
theorem ne37_same (x : Pt) (W : World) : (binOp .neq 37 x.val x.val).run Try.prog W = .ok (.bool false) W := by
  rw [ne37]; simp
theorem ne23_same (x : Tn) (W : World) : (binOp .neq 23 x.val x.val).run Try.prog W = .ok (.bool false) W := by
  rw [ne23]; simp
set_option maxHeartbeats 8000000 in
set_option maxRecDepth 100000 in
theorem clo_54 (p : Pt) (w : World) : Calls Try.prog 54 #[p.val] w fun e w' => e = .returned (.bool (!nearB p)) ∧ Below w.heap.size w w' := by
  have hn := fun W => near_23 p W
  have b0 := al1 w (.cells p.cs 37)
  obtain ⟨x, y, z⟩ := p
  unfold Pt.val at *
  dsimp only [Pt.cs] at *
  go_enter Try.func54, Try.ntmps54
  go_wp2_with (go_at_call 23; (with_reducible refine (hn _).mono ?_); rintro e w1 ⟨rfl, hb⟩; replace b0 := belows b0 hb; clear hb)
  go_ret
  exact ⟨rfl, b0⟩
theorem all_drop {l : List Pt} {k : Nat} (hk : k < l.length) (h : ∀ x ∈ l.take k, nearB x = true) (hv : nearB l[k] = true) : ∀ x ∈ l.take (k + 1), nearB x = true := by
  intro x hx
  rw [List.take_succ_eq_append_getElem hk, List.mem_append] at hx
  rcases hx with hx | hx
  · exact h x hx
  · rw [List.mem_singleton.1 hx]; exact hv
set_option maxRecDepth 100000 in
theorem idx_43 (p : Option Addr) (l : List Pt) (cap : Nat) (w : World) (hS : Sl w p l) :
    Calls Try.prog 61 #[.slice p l.length cap, .func (.func 43) #[] #[]] w fun e w' => ∃ i : Int, e = .returned (.int .i64 i) ∧ decide (0 ≤ i) = !l.all nearB ∧ Below w.heap.size w w' := by
  have hm := hS.2.2
  unfold maxLen at hm
  go_enter Try.func61, Try.ntmps61
  go_wp2
  go_loopw [8] (fun v wr => ∃ k : Nat, v = .int .i64 k ∧ k ≤ l.length ∧ Hid (∀ x ∈ l.take k, nearB x = true) ∧ Below w.heap.size w wr) (fun v _ => l.length - (intOf v).toNat)
  case atStart => exact ⟨0, rfl, Nat.zero_le _, Lib.hid (by simp), Below.refl _ _⟩
  case round =>
    obtain ⟨k, rfl, hk, hG, hB⟩ := hrel
    by_cases hlt : k < l.length
    · have g1 : decide ((k : Int) < (l.length : Int)) = true := by simp [hlt]
      obtain ⟨a, rfl, c0, c1, c2⟩ := (hS.on hB).at hlt
      have W1 : IntKind.i64.wrap ((k : Int) + 1) = ((k + 1 : Nat) : Int) := by rw [IntWalk.i64_in _ (by omega)]; omega
      have hb := fun w => far_43 l[k] w
      unfold Pt.val at hb
      cases hv : nearB l[k]
      · have e : l.all nearB = false := List.all_eq_false.2 ⟨_, List.getElem_mem hlt, by simp [hv]⟩
        simp only [hv, Bool.not_false] at hb
        go_wp2_with (go_at_call 43; (with_reducible refine (hb _).mono ?_); rintro e1 w1 ⟨rfl, hb1⟩)
        go_ret
        exact ⟨_, rfl, by rw [e]; simp, belows hB hb1⟩
      · simp only [hv, Bool.not_true] at hb
        go_wp2_with (go_at_call 43; (with_reducible refine (hb _).mono ?_); rintro e1 w1 ⟨rfl, hb1⟩)
        exact ⟨⟨k + 1, rfl, hlt, Lib.hid (all_drop hlt hG.out hv), belows hB hb1⟩, by simp [intOf]; omega⟩
    · have g1 : decide ((k : Int) < (l.length : Int)) = false := by simp; omega
      go_wp2
      go_ret
      have := hG.out
      rw [List.take_of_length_le (by omega)] at this
      have e : l.all nearB = true := List.all_eq_true.2 this
      exact ⟨-1, rfl, by rw [e]; rfl, hB⟩
theorem con_43 (p : Option Addr) (l : List Pt) (cap : Nat) (w : World) (hS : Sl w p l) :
    Calls Try.prog 53 #[.slice p l.length cap, .func (.func 43) #[] #[]] w fun e w' => e = .returned (.bool (!l.all nearB)) ∧ Below w.heap.size w w' := by
  go_enter Try.func53, Try.ntmps53
  go_wp2_with (go_at_call 61; (with_reducible refine (idx_43 p l cap _ hS).mono ?_); rintro e1 w1 ⟨i, rfl, hi, hb1⟩)
  go_ret
  exact ⟨rfl, hb1⟩
set_option maxRecDepth 100000 in
theorem idx_54 (p : Option Addr) (l : List Pt) (cap : Nat) (w : World) (hS : Sl w p l) :
    Calls Try.prog 61 #[.slice p l.length cap, .func (.func 54) #[] #[]] w fun e w' => ∃ i : Int, e = .returned (.int .i64 i) ∧ decide (0 ≤ i) = !l.all nearB ∧ Below w.heap.size w w' := by
  have hm := hS.2.2
  unfold maxLen at hm
  go_enter Try.func61, Try.ntmps61
  go_wp2
  go_loopw [8] (fun v wr => ∃ k : Nat, v = .int .i64 k ∧ k ≤ l.length ∧ Hid (∀ x ∈ l.take k, nearB x = true) ∧ Below w.heap.size w wr) (fun v _ => l.length - (intOf v).toNat)
  case atStart => exact ⟨0, rfl, Nat.zero_le _, Lib.hid (by simp), Below.refl _ _⟩
  case round =>
    obtain ⟨k, rfl, hk, hG, hB⟩ := hrel
    by_cases hlt : k < l.length
    · have g1 : decide ((k : Int) < (l.length : Int)) = true := by simp [hlt]
      obtain ⟨a, rfl, c0, c1, c2⟩ := (hS.on hB).at hlt
      have W1 : IntKind.i64.wrap ((k : Int) + 1) = ((k + 1 : Nat) : Int) := by rw [IntWalk.i64_in _ (by omega)]; omega
      have hb := fun w => clo_54 l[k] w
      unfold Pt.val at hb
      cases hv : nearB l[k]
      · have e : l.all nearB = false := List.all_eq_false.2 ⟨_, List.getElem_mem hlt, by simp [hv]⟩
        simp only [hv, Bool.not_false] at hb
        go_wp2_with (go_at_call 54; (with_reducible refine (hb _).mono ?_); rintro e1 w1 ⟨rfl, hb1⟩)
        go_ret
        exact ⟨_, rfl, by rw [e]; simp, belows hB hb1⟩
      · simp only [hv, Bool.not_true] at hb
        go_wp2_with (go_at_call 54; (with_reducible refine (hb _).mono ?_); rintro e1 w1 ⟨rfl, hb1⟩)
        exact ⟨⟨k + 1, rfl, hlt, Lib.hid (all_drop hlt hG.out hv), belows hB hb1⟩, by simp [intOf]; omega⟩
    · have g1 : decide ((k : Int) < (l.length : Int)) = false := by simp; omega
      go_wp2
      go_ret
      have := hG.out
      rw [List.take_of_length_le (by omega)] at this
      have e : l.all nearB = true := List.all_eq_true.2 this
      exact ⟨-1, rfl, by rw [e]; rfl, hB⟩
theorem con_54 (p : Option Addr) (l : List Pt) (cap : Nat) (w : World) (hS : Sl w p l) :
    Calls Try.prog 53 #[.slice p l.length cap, .func (.func 54) #[] #[]] w fun e w' => e = .returned (.bool (!l.all nearB)) ∧ Below w.heap.size w w' := by
  go_enter Try.func53, Try.ntmps53
  go_wp2_with (go_at_call 61; (with_reducible refine (idx_54 p l cap _ hS).mono ?_); rintro e1 w1 ⟨i, rfl, hi, hb1⟩)
  go_ret
  exact ⟨rfl, hb1⟩
set_option maxHeartbeats 8000000 in
set_option maxRecDepth 100000 in
theorem ready_28 (t : Tn) (p : Option Addr) (l : List Pt) (cap : Nat) (w : World) (hS : Sl w p l) : Calls Try.prog 28 #[t.val, .slice p l.length cap] w fun e w' => e = .returned (.bool (vT t && l.all nearB)) ∧ Below w.heap.size w w' := by
  have hv := fun W => valid_12 t W
  have hc := fun W (h : Below w.heap.size w W) => con_54 p l cap W (hS.on h)
  clear hS
  generalize l.all nearB = B at *
  generalize l.length = n at *
  generalize vT t = T at *
  obtain ⟨x, y⟩ := t
  unfold Tn.val at *
  dsimp only at *
  have E := (Env.nil w).add w.heap.size 23 #[.int .i64 x, .int .i64 y] rfl
  have C := E.cells
  simp [BC, CF] at C
  cases T
  · go_enter Try.func28, Try.ntmps28
    go_wp2_with (first
      | (go_at_call 12; (with_reducible refine (hv _).mono ?_); rintro X wq ⟨rfl, hb⟩; replace E := E.on hb; replace C := E.cells; simp [BC, CF] at C; clear hb))
    go_ret
    exact ⟨rfl, envb E⟩
  · go_enter Try.func28, Try.ntmps28
    go_wp2_with (first
      | (go_at_call 12; (with_reducible refine (hv _).mono ?_); rintro X wq ⟨rfl, hb⟩; replace E := E.on hb; replace C := E.cells; simp [BC, CF] at C; clear hb)
      | (go_at_call 53; (with_reducible refine (hc _ (envb E)).mono ?_); rintro X wq ⟨rfl, hb⟩; replace E := E.on hb; replace C := E.cells; simp [BC, CF] at C; clear hb))
    go_ret
    exact ⟨by simp, envb E⟩
set_option maxHeartbeats 8000000 in
set_option maxRecDepth 100000 in
theorem awake_10 (w : World) : Calls Try.prog 10 #[] w fun e w' => e = .returned (.bool true) ∧ Below w.heap.size w w' := by
  have h1 : ∀ W, Calls Try.prog 20 #[.agg #[.int .i64 2, .int .i64 (-1)], .agg #[.int .i64 1, .int .i64 2, .int .i64 3]] W fun e w' => e = .returned (.tuple #[.agg #[.int .i64 (-2), .int .i64 1, .int .i64 3], .int .i64 0]) ∧ Below W.heap.size W w' := fun W => Apply_ok ⟨2, -1⟩ ⟨1, 2, 3⟩ W (by decide) (by decide)
  have h2 : ∀ W, Calls Try.prog 17 #[.agg #[.int .i64 2, .int .i64 (-1)]] W fun e w' => e = .returned (.tuple #[.agg #[.int .i64 (-2), .int .i64 1], .int .i64 0]) ∧ Below W.heap.size W w' := fun W => by
    have h := Back_ok ⟨2, -1⟩ W (by decide)
    rw [show bk ⟨2, -1⟩ = ⟨-2, 1⟩ by decide +kernel] at h
    exact h
  have h3 : ∀ W, Calls Try.prog 16 #[.agg #[.int .i64 2, .int .i64 (-1)], .agg #[.int .i64 2, .int .i64 (-1)]] W fun e w' => e = .returned (.tuple #[.agg #[.int .i64 (-1), .int .i64 (-2)], .int .i64 0]) ∧ Below W.heap.size W w' := fun W => by
    have h := Then_ok ⟨2, -1⟩ ⟨2, -1⟩ W (by decide) (by decide)
    rw [show aft ⟨2, -1⟩ ⟨2, -1⟩ = ⟨-1, -2⟩ by decide +kernel] at h
    exact h
  have h4 : ∀ W, Calls Try.prog 11 #[.agg #[.int .i64 2, .int .i64 (-1)]] W fun e w' => e = .returned (.bool true) ∧ Below W.heap.size W w' := fun W => by
    have h := valid_11 ⟨2, -1⟩ W
    rw [show vT ⟨2, -1⟩ = true by decide] at h
    exact h
  have e1 : ∀ W, (binOp .eql 37 (.agg #[.int .i64 (-2), .int .i64 1, .int .i64 3]) (.agg #[.int .i64 (-2), .int .i64 1, .int .i64 3])).run Try.prog W = .ok (.bool true) W := fun W => eq37_same ⟨-2, 1, 3⟩ W
  have e2 : ∀ W, (binOp .eql 23 (.agg #[.int .i64 (-2), .int .i64 1]) (.agg #[.int .i64 (-2), .int .i64 1])).run Try.prog W = .ok (.bool true) W := fun W => eq23_same (-2) 1 W
  have e3 : ∀ W, (binOp .eql 23 (.agg #[.int .i64 (-1), .int .i64 (-2)]) (.agg #[.int .i64 (-1), .int .i64 (-2)])).run Try.prog W = .ok (.bool true) W := fun W => eq23_same (-1) (-2) W
  have E := (Env.nil w).add w.heap.size 23 #[.int .i64 2, .int .i64 (-1)] rfl
  have C := E.cells
  simp [BC, CF] at C
  go_enter Try.func10, Try.ntmps10
  go_upto_region 3 with (go_at_call 20; (with_reducible refine (h1 _).mono ?_); rintro X w1 ⟨rfl, hb⟩; replace E := E.on hb; replace C := E.cells; simp [BC, CF] at C; clear hb)
  replace E := E.add _ 37 #[.int .i64 (-2), .int .i64 1, .int .i64 3] rfl
  replace C := E.cells
  simp [BC, CF] at C
  go_upto_region 4 with (go_at_call 17; (with_reducible refine (h2 _).mono ?_); rintro X w2 ⟨rfl, hb⟩; replace E := E.on hb; replace C := E.cells; simp [BC, CF] at C; clear hb)
  replace E := E.add _ 23 #[.int .i64 (-2), .int .i64 1] rfl
  replace C := E.cells
  simp [BC, CF] at C
  go_upto_region 5 with (go_at_call 16; (with_reducible refine (h3 _).mono ?_); rintro X w3 ⟨rfl, hb⟩; replace E := E.on hb; replace C := E.cells; simp [BC, CF] at C; clear hb)
  replace E := E.add _ 23 #[.int .i64 (-1), .int .i64 (-2)] rfl
  replace C := E.cells
  simp [BC, CF] at C
  go_wp2_with (first
    | (go_at_call 11; (with_reducible refine (h4 _).mono ?_); rintro X wq ⟨rfl, hb⟩; replace E := E.on hb; replace C := E.cells; simp [BC, CF] at C; clear hb))
  go_ret
  exact ⟨rfl, envb E⟩
end Go.Proofs.Ytmfclelnaceonaa
