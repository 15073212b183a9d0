/- Points that are near. -/
import Derived.Test.YtmfclelnaceonaaD
namespace Go.Proofs.Ytmfclelnaceonaa
open Go.ChangeShapes Go.WideShapes Go.ChangeAt Go.RowKit
set_option linter.unusedVariables false
set_option linter.unusedSimpArgs false

def nB (n : Int) : Bool := decide (-1048576 ≤ n) && decide (n ≤ 1048576)
def nearB (p : Pt) : Bool := nB p.x && nB p.y && nB p.z
theorem nearB_bd {p : Pt} (h : nearB p = true) : p.bd 1048576 := by
  simp only [nearB, nB, Bool.and_eq_true, decide_eq_true_eq] at h
  unfold Pt.bd; omega
theorem bd_nearB {p : Pt} (h : p.bd 1048576) : nearB p = true := by
  simp only [nearB, nB, Bool.and_eq_true, decide_eq_true_eq]
  unfold Pt.bd at h; omega
theorem within_50 (n : Int) (w : World) : Calls Try.prog 50 #[.int .i64 n] w fun e w' => e = .returned (.bool (nB n)) ∧ w = w' := by
  unfold nB
  go_enter Try.func50, Try.ntmps50
  by_cases h1 : -1048576 ≤ n
  · have e1 : decide (-1048576 ≤ n) = true := by simp [h1]
    have e4 : decide (n ≥ -1048576) = true := by simp; omega
    go_wp2
    go_ret
    exact ⟨by simp [h1], rfl⟩
  · have e1 : decide (-1048576 ≤ n) = false := by simp [h1]
    have e4 : decide (n ≥ -1048576) = false := by simp; omega
    go_wp2
    go_ret
    exact ⟨by simp [h1], rfl⟩
set_option maxHeartbeats 8000000 in
set_option maxRecDepth 100000 in
theorem near_23 (p : Pt) (w : World) : Calls Try.prog 23 #[p.val] w fun e w' => e = .returned (.bool (nearB p)) ∧ Below w.heap.size w w' := by
  obtain ⟨x, y, z⟩ := p
  have hx := fun W => within_50 x W
  have hy := fun W => within_50 y W
  have hz := fun W => within_50 z W
  unfold nearB Pt.val
  dsimp only
  have b0 := al1 w (.cells #[.int .i64 x, .int .i64 y, .int .i64 z] 37)
  generalize nB x = bx at *
  generalize nB y = b_y at *
  generalize nB z = bz at *
  go_enter Try.func23, Try.ntmps23
  cases bx
  · go_wp2_with (first | (go_at_call 50; (with_reducible refine (hx _).mono ?_); rintro e1 w1 ⟨rfl, rfl⟩) | (go_at_call 50; (with_reducible refine (hy _).mono ?_); rintro e1 w1 ⟨rfl, rfl⟩) | (go_at_call 50; (with_reducible refine (hz _).mono ?_); rintro e1 w1 ⟨rfl, rfl⟩))
    go_ret
    exact ⟨rfl, b0⟩
  · cases b_y
    · go_wp2_with (first | (go_at_call 50; (with_reducible refine (hx _).mono ?_); rintro e1 w1 ⟨rfl, rfl⟩) | (go_at_call 50; (with_reducible refine (hy _).mono ?_); rintro e1 w1 ⟨rfl, rfl⟩) | (go_at_call 50; (with_reducible refine (hz _).mono ?_); rintro e1 w1 ⟨rfl, rfl⟩))
      go_ret
      exact ⟨rfl, b0⟩
    · go_wp2_with (first | (go_at_call 50; (with_reducible refine (hx _).mono ?_); rintro e1 w1 ⟨rfl, rfl⟩) | (go_at_call 50; (with_reducible refine (hy _).mono ?_); rintro e1 w1 ⟨rfl, rfl⟩) | (go_at_call 50; (with_reducible refine (hz _).mono ?_); rintro e1 w1 ⟨rfl, rfl⟩))
      go_ret
      exact ⟨rfl, b0⟩
set_option maxHeartbeats 8000000 in
set_option maxRecDepth 100000 in
theorem far_a (x y z : Int) (hc : ¬ (x ≤ 1048576 ∧ y ≤ 1048576 ∧ z ≤ 1048576)) (w : World) : Calls Try.prog 43 #[.agg #[.int .i64 x, .int .i64 y, .int .i64 z]] w fun e w' => e = .returned (.bool (!nearB ⟨x, y, z⟩)) ∧ Below w.heap.size w w' := by
  have h1 := fun W => mmin_45 x y z 1048576 1048576 1048576 W
  have hR : (!nearB ⟨x, y, z⟩) = true := by simp only [nearB, nB, Bool.not_eq_true', Bool.not_eq_false', Bool.and_eq_true, Bool.and_eq_false_iff, decide_eq_true_eq, decide_eq_false_iff_not]; omega
  have n1 : ∀ W, (binOp .neq 37 (.agg #[.int .i64 (min x 1048576), .int .i64 (min y 1048576), .int .i64 (min z 1048576)]) (.agg #[.int .i64 x, .int .i64 y, .int .i64 z])).run Try.prog W = .ok (.bool true) W := fun W => (ne37 ⟨(min x 1048576), (min y 1048576), (min z 1048576)⟩ ⟨x, y, z⟩ W).trans (by rw [decide_eq_false (by simp only [Pt.mk.injEq]; omega)]; rfl)
  clear hc
  have E := ((Env.nil w).add w.heap.size 37 #[.int .i64 x, .int .i64 y, .int .i64 z] rfl).add (w.heap.size + 1) 37 #[.int .i64 1048576, .int .i64 1048576, .int .i64 1048576] (by simp)
  have C := E.cells
  simp [BC, CF] at C
  rw [hR]
  unfold pv Pt.val at *
  dsimp only at h1
  clear hR
  go_enter Try.func43, Try.ntmps43
  go_upto_region 2 with fail
  generalize (min x 1048576) = m0 at *
  generalize (min y 1048576) = m1 at *
  generalize (min z 1048576) = m2 at *
  refine wp_region_plan 13 [(0, true), (1, true), (3, true), (2, false), (4, true), (5, true), (6, true), (7, true), (10, true), (8, false), (9, false), (11, true), (12, true)] (fun W' => Env w W' [⟨w.heap.size + 1, 37, #[.int .i64 1048576, .int .i64 1048576, .int .i64 1048576]⟩, ⟨w.heap.size, 37, #[.int .i64 x, .int .i64 y, .int .i64 z]⟩] ∧ W'.cell? ⟨w.heap.size + 1, 0, none⟩ = some (.int .i64 1048576) ∧ W'.cell? ⟨w.heap.size + 1, 1, none⟩ = some (.int .i64 1048576) ∧ W'.cell? ⟨w.heap.size + 1, 2, none⟩ = some (.int .i64 1048576) ∧ W'.cell? ⟨w.heap.size, 0, none⟩ = some (.int .i64 x) ∧ W'.cell? ⟨w.heap.size, 1, none⟩ = some (.int .i64 y) ∧ W'.cell? ⟨w.heap.size, 2, none⟩ = some (.int .i64 z)) (by kernel_rfl) (by kernel_rfl) (fun _ _ d _ _ h => by cases d <;> exact h) (s_p2 E.drw) ?_
  simp only [List.filterMap_cons, List.filterMap_nil, List.getElem?_cons_zero, List.getElem?_cons_succ, Option.map_some, List.drop_succ_cons, List.drop_zero]
  replace E := E.drw
  iterate 3 (first | (refine wpPlan_still (v := ?_) (Or.inl ⟨by rfl, ?_⟩) ?_; rotate_left; (focus (intro W hW; (try dsimp only at hW); go_split_ands; go_simp; try with_reducible rfl)); try simp only [Act.put, List.setIfInBounds_toArray, List.set_cons_zero, List.set_cons_succ]) | (refine wpPlan_still (Or.inr ⟨by rfl, rfl⟩) ?_; try simp only [Act.put, List.setIfInBounds_toArray, List.set_cons_zero, List.set_cons_succ]))
  refine wpPlan_only (fun K hK => ?_)
  try go_simp
  (go_at_call 45; (with_reducible refine (h1 _).mono ?_); rintro X wq ⟨rfl, hb⟩)
  replace E := E.on hb
  clear hb
  refine hK.out _ _ (s_p2 E) ?_
  clear hK K
  try simp only [Act.put, List.setIfInBounds_toArray, List.set_cons_zero, List.set_cons_succ]
  iterate 5 (first | (refine wpPlan_still (v := ?_) (Or.inl ⟨by rfl, ?_⟩) ?_; rotate_left; (focus (intro W hW; (try dsimp only at hW); go_split_ands; go_simp; try with_reducible rfl)); try simp only [Act.put, List.setIfInBounds_toArray, List.set_cons_zero, List.set_cons_succ]) | (refine wpPlan_still (Or.inr ⟨by rfl, rfl⟩) ?_; try simp only [Act.put, List.setIfInBounds_toArray, List.set_cons_zero, List.set_cons_succ]))
  refine wpPlan_only (fun K hK => ?_)
  rw [if_neg (by exact Bool.false_ne_true)]
  refine hK.out _ _ (s_p2 E) ?_
  clear hK K
  try simp only [Act.put, List.setIfInBounds_toArray, List.set_cons_zero, List.set_cons_succ]
  refine wpPlan_only (fun K hK => ?_)
  rw [if_neg (by exact Bool.false_ne_true)]
  refine hK.out _ _ (s_p2 E) ?_
  clear hK K
  try simp only [Act.put, List.setIfInBounds_toArray, List.set_cons_zero, List.set_cons_succ]
  iterate 2 (first | (refine wpPlan_still (v := ?_) (Or.inl ⟨by rfl, ?_⟩) ?_; rotate_left; (focus (intro W hW; (try dsimp only at hW); go_split_ands; go_simp; try with_reducible rfl)); try simp only [Act.put, List.setIfInBounds_toArray, List.set_cons_zero, List.set_cons_succ]) | (refine wpPlan_still (Or.inr ⟨by rfl, rfl⟩) ?_; try simp only [Act.put, List.setIfInBounds_toArray, List.set_cons_zero, List.set_cons_succ]))
  refine wpPlan_end ?_
  replace C := E.cells
  simp [BC, CF] at C
  go_wp2
  go_ret
  exact ⟨rfl, envb E⟩
set_option maxHeartbeats 8000000 in
set_option maxRecDepth 100000 in
theorem far_b (x y z : Int) (hc : (x ≤ 1048576 ∧ y ≤ 1048576 ∧ z ≤ 1048576)) (w : World) : Calls Try.prog 43 #[.agg #[.int .i64 x, .int .i64 y, .int .i64 z]] w fun e w' => e = .returned (.bool (!nearB ⟨x, y, z⟩)) ∧ Below w.heap.size w w' := by
  have h1 := fun W => mmin_45 x y z 1048576 1048576 1048576 W
  have n1 : ∀ W, (binOp .neq 37 (.agg #[.int .i64 (min x 1048576), .int .i64 (min y 1048576), .int .i64 (min z 1048576)]) (.agg #[.int .i64 x, .int .i64 y, .int .i64 z])).run Try.prog W = .ok (.bool false) W := fun W => (ne37 ⟨(min x 1048576), (min y 1048576), (min z 1048576)⟩ ⟨x, y, z⟩ W).trans (by rw [decide_eq_true (by simp only [Pt.mk.injEq]; omega)]; rfl)
  have n2 : ∀ W, (binOp .neq 37 (.agg #[.int .i64 (max x (-1048576)), .int .i64 (max y (-1048576)), .int .i64 (max z (-1048576))]) (.agg #[.int .i64 x, .int .i64 y, .int .i64 z])).run Try.prog W = .ok (.bool (!nearB ⟨x, y, z⟩)) W := fun W => (ne37 ⟨(max x (-1048576)), (max y (-1048576)), (max z (-1048576))⟩ ⟨x, y, z⟩ W).trans (by
    have e : (!decide ((⟨(max x (-1048576)), (max y (-1048576)), (max z (-1048576))⟩ : Pt) = ⟨x, y, z⟩)) = (!nearB ⟨x, y, z⟩) := by
      congr 1
      rw [Bool.eq_iff_iff]
      simp only [nearB, nB, Bool.and_eq_true, decide_eq_true_eq, Pt.mk.injEq]; omega
    rw [e])
  have h2 : ∀ W, Calls Try.prog 59 #[.agg #[.int .i64 1048576, .int .i64 1048576, .int .i64 1048576], .int .i64 (-1)] W fun e w' => e = .returned (.agg #[.int .i64 (-1048576), .int .i64 (-1048576), .int .i64 (-1048576)]) ∧ Below W.heap.size W w' := fun W => times_59 1048576 1048576 1048576 (-1) (by unfold I64; decide) (by unfold I64; decide) (by unfold I64; decide) W
  have h3 := fun W => mmax_47 x y z (-1048576) (-1048576) (-1048576) W
  clear hc
  obtain ⟨R, hR⟩ : ∃ R, (!nearB ⟨x, y, z⟩) = R := ⟨_, rfl⟩
  rw [hR] at n2
  have E := ((Env.nil w).add w.heap.size 37 #[.int .i64 x, .int .i64 y, .int .i64 z] rfl).add (w.heap.size + 1) 37 #[.int .i64 1048576, .int .i64 1048576, .int .i64 1048576] (by simp)
  have C := E.cells
  simp [BC, CF] at C
  rw [hR]
  unfold pv Pt.val at *
  dsimp only at h1 h3
  clear hR
  go_enter Try.func43, Try.ntmps43
  go_upto_region 2 with fail
  generalize (min x 1048576) = m0 at *
  generalize (min y 1048576) = m1 at *
  generalize (min z 1048576) = m2 at *
  generalize (max x (-1048576)) = k0 at *
  generalize (max y (-1048576)) = k1 at *
  generalize (max z (-1048576)) = k2 at *
  refine wp_region_plan 13 [(0, true), (1, true), (3, true), (2, false), (4, true), (5, true), (6, true), (7, true), (10, true), (8, false), (9, false), (11, true), (12, true)] (fun W' => Env w W' [⟨w.heap.size + 1, 37, #[.int .i64 1048576, .int .i64 1048576, .int .i64 1048576]⟩, ⟨w.heap.size, 37, #[.int .i64 x, .int .i64 y, .int .i64 z]⟩] ∧ W'.cell? ⟨w.heap.size + 1, 0, none⟩ = some (.int .i64 1048576) ∧ W'.cell? ⟨w.heap.size + 1, 1, none⟩ = some (.int .i64 1048576) ∧ W'.cell? ⟨w.heap.size + 1, 2, none⟩ = some (.int .i64 1048576) ∧ W'.cell? ⟨w.heap.size, 0, none⟩ = some (.int .i64 x) ∧ W'.cell? ⟨w.heap.size, 1, none⟩ = some (.int .i64 y) ∧ W'.cell? ⟨w.heap.size, 2, none⟩ = some (.int .i64 z)) (by kernel_rfl) (by kernel_rfl) (fun _ _ d _ _ h => by cases d <;> exact h) (s_p2 E.drw) ?_
  simp only [List.filterMap_cons, List.filterMap_nil, List.getElem?_cons_zero, List.getElem?_cons_succ, Option.map_some, List.drop_succ_cons, List.drop_zero]
  replace E := E.drw
  iterate 3 (first | (refine wpPlan_still (v := ?_) (Or.inl ⟨by rfl, ?_⟩) ?_; rotate_left; (focus (intro W hW; (try dsimp only at hW); go_split_ands; go_simp; try with_reducible rfl)); try simp only [Act.put, List.setIfInBounds_toArray, List.set_cons_zero, List.set_cons_succ]) | (refine wpPlan_still (Or.inr ⟨by rfl, rfl⟩) ?_; try simp only [Act.put, List.setIfInBounds_toArray, List.set_cons_zero, List.set_cons_succ]))
  refine wpPlan_only (fun K hK => ?_)
  try go_simp
  (go_at_call 45; (with_reducible refine (h1 _).mono ?_); rintro X wq ⟨rfl, hb⟩)
  replace E := E.on hb
  clear hb
  refine hK.out _ _ (s_p2 E) ?_
  clear hK K
  try simp only [Act.put, List.setIfInBounds_toArray, List.set_cons_zero, List.set_cons_succ]
  iterate 5 (first | (refine wpPlan_still (v := ?_) (Or.inl ⟨by rfl, ?_⟩) ?_; rotate_left; (focus (intro W hW; (try dsimp only at hW); go_split_ands; go_simp; try with_reducible rfl)); try simp only [Act.put, List.setIfInBounds_toArray, List.set_cons_zero, List.set_cons_succ]) | (refine wpPlan_still (Or.inr ⟨by rfl, rfl⟩) ?_; try simp only [Act.put, List.setIfInBounds_toArray, List.set_cons_zero, List.set_cons_succ]))
  refine wpPlan_only (fun K hK => ?_)
  try go_simp
  (go_at_call 59; (with_reducible refine (h2 _).mono ?_); rintro X wq ⟨rfl, hb⟩)
  replace E := E.on hb
  clear hb
  refine hK.out _ _ (s_p2 E) ?_
  clear hK K
  try simp only [Act.put, List.setIfInBounds_toArray, List.set_cons_zero, List.set_cons_succ]
  refine wpPlan_only (fun K hK => ?_)
  try go_simp
  (go_at_call 47; (with_reducible refine (h3 _).mono ?_); rintro X wq ⟨rfl, hb⟩)
  replace E := E.on hb
  clear hb
  refine hK.out _ _ (s_p2 E) ?_
  clear hK K
  try simp only [Act.put, List.setIfInBounds_toArray, List.set_cons_zero, List.set_cons_succ]
  iterate 2 (first | (refine wpPlan_still (v := ?_) (Or.inl ⟨by rfl, ?_⟩) ?_; rotate_left; (focus (intro W hW; (try dsimp only at hW); go_split_ands; go_simp; try with_reducible rfl)); try simp only [Act.put, List.setIfInBounds_toArray, List.set_cons_zero, List.set_cons_succ]) | (refine wpPlan_still (Or.inr ⟨by rfl, rfl⟩) ?_; try simp only [Act.put, List.setIfInBounds_toArray, List.set_cons_zero, List.set_cons_succ]))
  refine wpPlan_end ?_
  replace C := E.cells
  simp [BC, CF] at C
  go_wp2
  go_ret
  exact ⟨rfl, envb E⟩
theorem far_43 (p : Pt) (w : World) : Calls Try.prog 43 #[p.val] w fun e w' => e = .returned (.bool (!nearB p)) ∧ Below w.heap.size w w' := by
  obtain ⟨x, y, z⟩ := p
  by_cases hc : x ≤ 1048576 ∧ y ≤ 1048576 ∧ z ≤ 1048576
  · exact far_b x y z hc w
  · exact far_a x y z hc w
end Go.Proofs.Ytmfclelnaceonaa
