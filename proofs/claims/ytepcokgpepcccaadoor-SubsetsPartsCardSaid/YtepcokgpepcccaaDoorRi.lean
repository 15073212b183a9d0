/- The reference's Indices and Sum. -/
import Derived.Test.YtepcokgpepcccaaDoorIx
namespace Go.Proofs.YtepcokgpepcccaaDoor
open Go.ChangeShapes Go.WideShapes Go.ChangeAt Go.RowKit
set_option linter.unusedVariables false
set_option linter.unusedSimpArgs false

theorem ixs_len (n s : Nat) : (ixs n s).length ≤ n := by unfold ixs; exact Nat.le_trans (List.length_filter_le _ _) (by simp)
set_option maxRecDepth 100000 in
set_option maxHeartbeats 2000000 in
theorem rindices_any (u : Value) (zs : List Int) (s : Nat) (w : World) (hR : Rdz w u zs) (hl : zs.length ≤ 10) (hs : s < 1024) :
    Calls Tryd.prog 17 #[u, .int .i64 s] w fun e w' => ∃ v, e = .returned v ∧ OwnZ w.heap.size w' v (toZ (ixs zs.length s)) ∧ Below w.heap.size w w' := by
  obtain ⟨q, c, rfl, hq⟩ := hR
  clear hq
  obtain ⟨i0, hi, hz0, hz1, hz2⟩ := info_parts info3
  go_enter Tryd.func17, Tryd.ntmps17
  go_wp2
  go_loopw [5, 6] (fun v5 v wr => ∃ k : Nat, v = .int .i64 k ∧ k ≤ zs.length ∧ Hid (OwnZ w.heap.size wr v5 (toZ (ixs k s))) ∧ Below w.heap.size w wr) (fun _ v _ => zs.length - (intOf v).toNat)
  case atStart => exact ⟨0, rfl, Nat.zero_le _, Lib.hid (World.ownsRow_nil _ _ _ _), Below.refl _ _⟩
  case round =>
    obtain ⟨k, rfl, hk, hO, hB⟩ := hrel
    by_cases hlt : k < zs.length
    · have g : decide ((k : Int) < (zs.length : Int)) = true := by simp [hlt]
      have W1 : IntKind.i64.wrap ((k : Int) + 1) = ((k + 1 : Nat) : Int) := by rw [IntWalk.i64_in _ (by omega)]; omega
      have hI := fun w => has_any s k hs (by omega) w
      have hkl : (toZ (ixs k s)).length ≤ 10 := by rw [toZ_len]; exact Nat.le_trans (ixs_len _ _) (by omega)
      have e1 := ixs_next k s
      cases hj : s.testBit k
      · rw [hj] at hI e1
        simp only [Bool.false_eq_true, if_false, List.append_nil] at e1
        have E1 := Lib.hid e1
        clear e1
        go_wp2_with (go_at_call 50; (with_reducible refine (hI _).mono ?_); rintro e w1 ⟨rfl, rfl⟩)
        exact ⟨⟨k + 1, rfl, hlt, Lib.hid (by rw [E1.out]; exact hO.out), hB⟩, by simp [intOf]; omega⟩
      · rw [hj] at hI e1
        simp only [if_true] at e1
        have E1 := Lib.hid e1
        clear e1
        go_wp2_with (first
          | (go_at_call 50; (with_reducible refine (hI _).mono ?_); rintro e w1 ⟨rfl, rfl⟩)
          | (at_builtin; refine wpList_append_own_at _ rfl _ _ 22 rfl w.heap.size 3 i0 _ 1 8 Tryd.underlying22 hi hz0 hz1 hz2 rfl (by decide) _ (toZ (ixs k s)).length (zv (toZ (ixs k s))) rfl (own_on hO.out (al1 _ _)) ⟨_, 0, none⟩ 1 1 [.int .i64 (k : Int)] rfl rfl (cell_one_new _ _ _) (by simp [Value.oneCell']) (by unfold maxLen; omega) (by omega) (Nat.le_trans hB.size (al1 _ _).size) ?_))
        intro v' w2 o1 o2 o3 o4
        have O2 : OwnZ w.heap.size w2 v' (toZ (ixs (k + 1) s)) := by
          rw [E1.out]
          unfold OwnZ
          rw [toZ_app, zv_app, List.length_append]
          exact o1
        have B2 : Below w.heap.size w w2 := (hB.alloc hB.size _).grown o2 (Nat.le_trans hB.size (al1 _ _).size) (fun j hj => (World.ownsRow.lt hO.out _ hj).1)
        clear o1 o2 o3 o4
        go_wp2
        exact ⟨⟨k + 1, rfl, hlt, Lib.hid O2, B2⟩, by simp [intOf]; omega⟩
    · have g : decide ((k : Int) < (zs.length : Int)) = false := by simp; omega
      have e : k = zs.length := by omega
      subst e
      go_wp2
      go_ret
      exact ⟨_, rfl, hO.out, hB⟩

/-- The sum of a set's numbers below k. -/
def sm (zs : List Int) (s : Nat) : Nat → Int
  | 0 => 0
  | k + 1 => sm zs s k + (if s.testBit k then zs.getD k 0 else 0)
theorem okz_of {zs : List Int} (h : allZ zs = true) (k : Nat) : -1125899906842624 ≤ zs.getD k 0 ∧ zs.getD k 0 ≤ 1125899906842624 := by
  by_cases hk : k < zs.length
  · have := List.all_eq_true.1 h _ (List.getElem_mem hk)
    unfold okZ at this
    simp only [Bool.and_eq_true, decide_eq_true_eq] at this
    simpa [List.getD, hk] using this
  · rw [show zs.getD k 0 = 0 from by simp [List.getD, hk]]
    omega
theorem sm_in {zs : List Int} (h : allZ zs = true) (s : Nat) : ∀ k : Nat, -(1125899906842624 * (k : Int)) ≤ sm zs s k ∧ sm zs s k ≤ 1125899906842624 * (k : Int)
  | 0 => by simp [sm]
  | k + 1 => by
    have i := sm_in h s k
    have b := okz_of h k
    unfold sm
    by_cases t : s.testBit k = true
    · rw [if_pos t]; omega
    · rw [if_neg t]; omega
set_option maxRecDepth 100000 in
theorem rsum_any (u : Value) (zs : List Int) (s : Nat) (w : World) (hR : Rdz w u zs) (hl : zs.length ≤ 10) (hz : allZ zs = true) (hs : s < 1024) :
    Calls Tryd.prog 48 #[u, .int .i64 s] w fun e w' => e = .returned (.int .i64 (sm zs s zs.length)) ∧ w' = w := by
  have hin := sm_in hz s
  obtain ⟨q, c, rfl, hq⟩ := hR
  have HQ := Lib.hid hq
  clear hq
  go_enter Tryd.func48, Tryd.ntmps48
  go_wp2
  go_loopw [5, 6] (fun v5 v wr => ∃ k : Nat, v5 = .int .i64 (sm zs s k) ∧ v = .int .i64 k ∧ k ≤ zs.length ∧ w = wr) (fun _ v _ => zs.length - (intOf v).toNat)
  case atStart => exact ⟨0, rfl, rfl, Nat.zero_le _, rfl⟩
  case round =>
    obtain ⟨k, rfl, rfl, hk, rfl⟩ := hrel
    by_cases hlt : k < zs.length
    · have g : decide ((k : Int) < (zs.length : Int)) = true := by simp [hlt]
      have W1 : IntKind.i64.wrap ((k : Int) + 1) = ((k + 1 : Nat) : Int) := by rw [IntWalk.i64_in _ (by omega)]; omega
      have hI := fun w => has_any s k hs (by omega) w
      have e1 : sm zs s (k + 1) = sm zs s k + (if s.testBit k then zs.getD k 0 else 0) := rfl
      have i1 := hin (k + 1)
      obtain ⟨x, ex⟩ : ∃ x, sm zs s k = x := ⟨_, rfl⟩
      obtain ⟨y, ey⟩ : ∃ y, sm zs s (k + 1) = y := ⟨_, rfl⟩
      rw [ex] at e1 ⊢
      rw [ey] at e1 i1
      have EY := Lib.hid ey
      clear ex ey hin
      cases hj : s.testBit k
      · rw [hj] at hI e1
        simp only [Bool.false_eq_true, if_false, Int.add_zero] at e1
        subst e1
        go_wp2_with (go_at_call 50; (with_reducible refine (hI _).mono ?_); rintro e w1 ⟨rfl, rfl⟩)
        exact ⟨⟨k + 1, by rw [EY.out], rfl, hlt, trivial⟩, by simp [intOf]; omega⟩
      · rw [hj] at hI e1
        simp only [if_true] at e1
        obtain ⟨a, rfl, cu⟩ := HQ.out k hlt
        have ez : zs[k] = zs.getD k 0 := by simp [List.getD, hlt]
        rw [ez] at cu
        obtain ⟨z, hzk⟩ : ∃ z, zs.getD k 0 = z := ⟨_, rfl⟩
        rw [hzk] at cu e1
        have W2 : IntKind.i64.wrap (x + z) = y := by rw [IntWalk.i64_in _ (by omega)]; omega
        have q1 : (0 : Int) ≤ (k : Int) := by omega
        have q2 : (k : Int) < (zs.length : Int) := by omega
        clear e1 hzk ez
        go_wp2_with (go_at_call 50; (with_reducible refine (hI _).mono ?_); rintro e w1 ⟨rfl, rfl⟩)
        exact ⟨⟨k + 1, by rw [EY.out], rfl, hlt, trivial⟩, by simp [intOf]; omega⟩
    · have g : decide ((k : Int) < (zs.length : Int)) = false := by simp; omega
      have e : k = zs.length := by omega
      subst e
      go_wp2
      go_ret
      exact ⟨rfl, rfl⟩
end Go.Proofs.YtepcokgpepcccaaDoor
