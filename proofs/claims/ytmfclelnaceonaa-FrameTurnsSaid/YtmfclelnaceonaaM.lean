/- FrameTurns. -/
import Derived.Test.YtmfclelnaceonaaL
namespace Go.Proofs.Ytmfclelnaceonaa
open Go.ChangeShapes Go.WideShapes Go.ChangeAt Go.RowKit
set_option linter.unusedVariables false
set_option linter.unusedSimpArgs false

theorem allq_any {v v' : Value} {B B' : Nat} {w : World} (h1 : Own tc 23 2 B w v allT) (h2 : Own tc 23 2 B' w v' allT) : Calls Try.prog 13 #[v, v'] w fun e w' => e = .returned (.bool true) ∧ Below w.heap.size w w' := by
  have h := equalt_any v v' allT allT w (Own.rd tl h1) (Own.rd tl h2) (by rw [allT_len]; decide)
  rw [decide_eq_true rfl] at h
  exact h
theorem s_l2 {w0 w : World} {g0 g1 : Nat} {a0_0 a0_1 a1_0 a1_1 : Value} (E : Env w0 w (⟨g0, 23, #[a0_0, a0_1]⟩ :: ⟨g1, 23, #[a1_0, a1_1]⟩ :: [])) : Env w0 w (⟨g0, 23, #[a0_0, a0_1]⟩ :: ⟨g1, 23, #[a1_0, a1_1]⟩ :: []) ∧ w.cell? ⟨g0, 0, none⟩ = some a0_0 ∧ w.cell? ⟨g0, 1, none⟩ = some a0_1 ∧ w.cell? ⟨g1, 0, none⟩ = some a1_0 ∧ w.cell? ⟨g1, 1, none⟩ = some a1_1 := by
  have C := E.cells
  simp [BC, CF] at C
  exact ⟨E, C.1.2.1.1, C.1.2.2.1, C.2.2.1.1, C.2.2.2.1⟩
theorem s_l4 {w0 w : World} {g0 g1 g2 g3 : Nat} {a0_0 a0_1 a1_0 a1_1 a2_0 a2_1 a3_0 a3_1 : Value} (E : Env w0 w (⟨g0, 23, #[a0_0, a0_1]⟩ :: ⟨g1, 23, #[a1_0, a1_1]⟩ :: ⟨g2, 23, #[a2_0, a2_1]⟩ :: ⟨g3, 23, #[a3_0, a3_1]⟩ :: [])) : Env w0 w (⟨g0, 23, #[a0_0, a0_1]⟩ :: ⟨g1, 23, #[a1_0, a1_1]⟩ :: ⟨g2, 23, #[a2_0, a2_1]⟩ :: ⟨g3, 23, #[a3_0, a3_1]⟩ :: []) ∧ w.cell? ⟨g0, 0, none⟩ = some a0_0 ∧ w.cell? ⟨g0, 1, none⟩ = some a0_1 ∧ w.cell? ⟨g1, 0, none⟩ = some a1_0 ∧ w.cell? ⟨g1, 1, none⟩ = some a1_1 ∧ w.cell? ⟨g2, 0, none⟩ = some a2_0 ∧ w.cell? ⟨g2, 1, none⟩ = some a2_1 ∧ w.cell? ⟨g3, 0, none⟩ = some a3_0 ∧ w.cell? ⟨g3, 1, none⟩ = some a3_1 := by
  have C := E.cells
  simp [BC, CF] at C
  exact ⟨E, C.1.2.1.1, C.1.2.2.1, C.2.1.2.1.1, C.2.1.2.2.1, C.2.2.1.2.1.1, C.2.2.1.2.2.1, C.2.2.2.2.1.1, C.2.2.2.2.2.1⟩
set_option maxHeartbeats 8000000 in
set_option maxRecDepth 100000 in
theorem turns_walk (a b : Tn) (w : World) : Calls Try.prog 3 #[a.val, b.val] w fun e w' => e = .returned (.bool true) ∧ Below w.heap.size w w' := by
  have hv := fun W => valid_11 a W
  have hw := fun W => valid_12 a W
  cases va : vT a
  · rw [va] at hv hw
    have h1 := fun W => Then_no a b W (by rw [va]; simp)
    have h2 := fun W => Back_no a W va
    have e0 := eq23_same 0 0
    clear va
    obtain ⟨a0, a1⟩ := a
    obtain ⟨b0, b1⟩ := b
    unfold Tn.val at *
    try unfold tv at *
    dsimp only at *
    have E := ((Env.nil w).add (w.heap.size) 23 #[.int .i64 a0, .int .i64 a1] rfl).add (w.heap.size + 1) 23 #[.int .i64 b0, .int .i64 b1] (by simp)
    have C := E.cells
    simp [BC, CF] at C
    go_enter Try.func3, Try.ntmps3
    go_upto_region 3 with (go_at_call 10; (with_reducible refine (awake_10 _).mono ?_); rintro X wq ⟨rfl, hb⟩; replace E := E.on hb; replace C := E.cells; simp [BC, CF] at C; clear hb)
    refine wp_region_plan 10 [(0, true), (2, true), (1, false), (3, false), (4, true), (5, true), (6, false), (7, false), (8, false), (9, true)] (fun W' => Env w W' [⟨w.heap.size + 1, 23, #[.int .i64 b0, .int .i64 b1]⟩, ⟨w.heap.size, 23, #[.int .i64 a0, .int .i64 a1]⟩] ∧ W'.cell? ⟨w.heap.size, 0, none⟩ = some (.int .i64 a0) ∧ W'.cell? ⟨w.heap.size, 1, none⟩ = some (.int .i64 a1)) (by kernel_rfl) (by kernel_rfl) (fun _ _ d _ _ h => by cases d <;> exact h) ⟨E.drw, (s_l2 E.drw).2.2.2.1, (s_l2 E.drw).2.2.2.2⟩ ?_
    simp only [List.filterMap_cons, List.filterMap_nil, List.getElem?_cons_zero, List.getElem?_cons_succ, Option.map_some, List.drop_succ_cons, List.drop_zero]
    replace E := E.drw
    iterate 2 (first | (refine wpPlan_still (v := ?_) (Or.inl ⟨by rfl, ?_⟩) ?_; rotate_left; (focus (intro W hW; (try dsimp only at hW); go_split_ands; go_simp; try with_reducible rfl)); try simp only [Act.put, List.setIfInBounds_toArray, List.set_cons_zero, List.set_cons_succ]) | (refine wpPlan_still (Or.inr ⟨by rfl, rfl⟩) ?_; try simp only [Act.put, List.setIfInBounds_toArray, List.set_cons_zero, List.set_cons_succ]))
    refine wpPlan_only (fun K hK => ?_)
    try go_simp
    (go_at_call 11; (with_reducible refine (hv _).mono ?_); rintro X wq ⟨rfl, hb⟩)
    replace E := E.on hb
    clear hb
    refine hK.out _ _ ⟨E, (s_l2 E).2.2.2.1, (s_l2 E).2.2.2.2⟩ ?_
    clear hK K
    try simp only [Act.put, List.setIfInBounds_toArray, List.set_cons_zero, List.set_cons_succ]
    refine wpPlan_only (fun K hK => ?_)
    try go_simp
    (go_at_call 12; (with_reducible refine (hw _).mono ?_); rintro X wq ⟨rfl, hb⟩)
    replace E := E.on hb
    clear hb
    refine hK.out _ _ ⟨E, (s_l2 E).2.2.2.1, (s_l2 E).2.2.2.2⟩ ?_
    clear hK K
    try simp only [Act.put, List.setIfInBounds_toArray, List.set_cons_zero, List.set_cons_succ]
    iterate 2 (first | (refine wpPlan_still (v := ?_) (Or.inl ⟨by rfl, ?_⟩) ?_; rotate_left; (focus (intro W hW; (try dsimp only at hW); go_split_ands; go_simp; try with_reducible rfl)); try simp only [Act.put, List.setIfInBounds_toArray, List.set_cons_zero, List.set_cons_succ]) | (refine wpPlan_still (Or.inr ⟨by rfl, rfl⟩) ?_; try simp only [Act.put, List.setIfInBounds_toArray, List.set_cons_zero, List.set_cons_succ]))
    refine wpPlan_only (fun K hK => ?_)
    try go_simp
    (go_at_call 14; (with_reducible refine (all_14 _).mono ?_); rintro X wq ⟨x1, rfl, O1, hb⟩)
    replace E := E.on hb
    clear hb
    refine hK.out _ _ ⟨E, (s_l2 E).2.2.2.1, (s_l2 E).2.2.2.2⟩ ?_
    clear hK K
    try simp only [Act.put, List.setIfInBounds_toArray, List.set_cons_zero, List.set_cons_succ]
    refine wpPlan_only (fun K hK => ?_)
    try go_simp
    (go_at_call 15; (with_reducible refine (all_15 _).mono ?_); rintro X wq ⟨x2, rfl, O2, hb⟩)
    replace E := E.on hb
    replace O1 := Own.on O1 hb
    clear hb
    refine hK.out _ _ ⟨E, (s_l2 E).2.2.2.1, (s_l2 E).2.2.2.2⟩ ?_
    clear hK K
    try simp only [Act.put, List.setIfInBounds_toArray, List.set_cons_zero, List.set_cons_succ]
    refine wpPlan_only (fun K hK => ?_)
    try go_simp
    (go_at_call 13; (with_reducible refine (allq_any O1 O2).mono ?_); rintro X wq ⟨rfl, hb⟩)
    replace E := E.on hb
    clear hb O1 O2
    refine hK.out _ _ ⟨E, (s_l2 E).2.2.2.1, (s_l2 E).2.2.2.2⟩ ?_
    clear hK K
    try simp only [Act.put, List.setIfInBounds_toArray, List.set_cons_zero, List.set_cons_succ]
    iterate 1 (first | (refine wpPlan_still (v := ?_) (Or.inl ⟨by rfl, ?_⟩) ?_; rotate_left; (focus (intro W hW; (try dsimp only at hW); go_split_ands; go_simp; try with_reducible rfl)); try simp only [Act.put, List.setIfInBounds_toArray, List.set_cons_zero, List.set_cons_succ]) | (refine wpPlan_still (Or.inr ⟨by rfl, rfl⟩) ?_; try simp only [Act.put, List.setIfInBounds_toArray, List.set_cons_zero, List.set_cons_succ]))
    refine wpPlan_end ?_
    replace C := E.cells
    simp [BC, CF] at C
    go_upto_region 6 with (go_at_call 16; (with_reducible refine (h1 _).mono ?_); rintro X wa ⟨rfl, hb⟩; replace E := E.on hb; replace C := E.cells; simp [BC, CF] at C; clear hb)
    replace E := E.add _ 23 #[.int .i64 0, .int .i64 0] rfl
    replace C := E.cells
    simp [BC, CF] at C
    go_upto_region 7 with (go_at_call 17; (with_reducible refine (h2 _).mono ?_); rintro X wb ⟨rfl, hb⟩; replace E := E.on hb; replace C := E.cells; simp [BC, CF] at C; clear hb)
    replace E := E.add _ 23 #[.int .i64 0, .int .i64 0] rfl
    replace C := E.cells
    simp [BC, CF] at C
    go_wp2_with (go_at_call 12; (with_reducible refine (hw _).mono ?_); rintro X wq ⟨rfl, hb⟩; replace E := E.on hb; replace C := E.cells; simp [BC, CF] at C; clear hb)
    go_ret
    exact ⟨rfl, envb E⟩
  · rw [va] at hv hw
    have h2 := fun W => Back_ok a W va
    have h3 := fun W => rBack_ok a W va
    have e0 := eq23_same 0 0
    have e3 := ne23_same (bk a)
    have hx := fun W => valid_12 b W
    cases vb : vT b
    · rw [vb] at hx
      have h1 := fun W => Then_no a b W (by rw [vb]; simp)
      clear va vb
      generalize bk a = B at *
      obtain ⟨f0, f1⟩ := B
      obtain ⟨a0, a1⟩ := a
      obtain ⟨b0, b1⟩ := b
      unfold Tn.val at *
      try unfold tv at *
      dsimp only at *
      have E := ((Env.nil w).add (w.heap.size) 23 #[.int .i64 a0, .int .i64 a1] rfl).add (w.heap.size + 1) 23 #[.int .i64 b0, .int .i64 b1] (by simp)
      have C := E.cells
      simp [BC, CF] at C
      go_enter Try.func3, Try.ntmps3
      go_upto_region 3 with (go_at_call 10; (with_reducible refine (awake_10 _).mono ?_); rintro X wq ⟨rfl, hb⟩; replace E := E.on hb; replace C := E.cells; simp [BC, CF] at C; clear hb)
      refine wp_region_plan 10 [(0, true), (2, true), (1, false), (3, false), (4, true), (5, true), (6, false), (7, false), (8, false), (9, true)] (fun W' => Env w W' [⟨w.heap.size + 1, 23, #[.int .i64 b0, .int .i64 b1]⟩, ⟨w.heap.size, 23, #[.int .i64 a0, .int .i64 a1]⟩] ∧ W'.cell? ⟨w.heap.size, 0, none⟩ = some (.int .i64 a0) ∧ W'.cell? ⟨w.heap.size, 1, none⟩ = some (.int .i64 a1)) (by kernel_rfl) (by kernel_rfl) (fun _ _ d _ _ h => by cases d <;> exact h) ⟨E.drw, (s_l2 E.drw).2.2.2.1, (s_l2 E.drw).2.2.2.2⟩ ?_
      simp only [List.filterMap_cons, List.filterMap_nil, List.getElem?_cons_zero, List.getElem?_cons_succ, Option.map_some, List.drop_succ_cons, List.drop_zero]
      replace E := E.drw
      iterate 2 (first | (refine wpPlan_still (v := ?_) (Or.inl ⟨by rfl, ?_⟩) ?_; rotate_left; (focus (intro W hW; (try dsimp only at hW); go_split_ands; go_simp; try with_reducible rfl)); try simp only [Act.put, List.setIfInBounds_toArray, List.set_cons_zero, List.set_cons_succ]) | (refine wpPlan_still (Or.inr ⟨by rfl, rfl⟩) ?_; try simp only [Act.put, List.setIfInBounds_toArray, List.set_cons_zero, List.set_cons_succ]))
      refine wpPlan_only (fun K hK => ?_)
      try go_simp
      (go_at_call 11; (with_reducible refine (hv _).mono ?_); rintro X wq ⟨rfl, hb⟩)
      replace E := E.on hb
      clear hb
      refine hK.out _ _ ⟨E, (s_l2 E).2.2.2.1, (s_l2 E).2.2.2.2⟩ ?_
      clear hK K
      try simp only [Act.put, List.setIfInBounds_toArray, List.set_cons_zero, List.set_cons_succ]
      refine wpPlan_only (fun K hK => ?_)
      try go_simp
      (go_at_call 12; (with_reducible refine (hw _).mono ?_); rintro X wq ⟨rfl, hb⟩)
      replace E := E.on hb
      clear hb
      refine hK.out _ _ ⟨E, (s_l2 E).2.2.2.1, (s_l2 E).2.2.2.2⟩ ?_
      clear hK K
      try simp only [Act.put, List.setIfInBounds_toArray, List.set_cons_zero, List.set_cons_succ]
      iterate 2 (first | (refine wpPlan_still (v := ?_) (Or.inl ⟨by rfl, ?_⟩) ?_; rotate_left; (focus (intro W hW; (try dsimp only at hW); go_split_ands; go_simp; try with_reducible rfl)); try simp only [Act.put, List.setIfInBounds_toArray, List.set_cons_zero, List.set_cons_succ]) | (refine wpPlan_still (Or.inr ⟨by rfl, rfl⟩) ?_; try simp only [Act.put, List.setIfInBounds_toArray, List.set_cons_zero, List.set_cons_succ]))
      refine wpPlan_only (fun K hK => ?_)
      try go_simp
      (go_at_call 14; (with_reducible refine (all_14 _).mono ?_); rintro X wq ⟨x1, rfl, O1, hb⟩)
      replace E := E.on hb
      clear hb
      refine hK.out _ _ ⟨E, (s_l2 E).2.2.2.1, (s_l2 E).2.2.2.2⟩ ?_
      clear hK K
      try simp only [Act.put, List.setIfInBounds_toArray, List.set_cons_zero, List.set_cons_succ]
      refine wpPlan_only (fun K hK => ?_)
      try go_simp
      (go_at_call 15; (with_reducible refine (all_15 _).mono ?_); rintro X wq ⟨x2, rfl, O2, hb⟩)
      replace E := E.on hb
      replace O1 := Own.on O1 hb
      clear hb
      refine hK.out _ _ ⟨E, (s_l2 E).2.2.2.1, (s_l2 E).2.2.2.2⟩ ?_
      clear hK K
      try simp only [Act.put, List.setIfInBounds_toArray, List.set_cons_zero, List.set_cons_succ]
      refine wpPlan_only (fun K hK => ?_)
      try go_simp
      (go_at_call 13; (with_reducible refine (allq_any O1 O2).mono ?_); rintro X wq ⟨rfl, hb⟩)
      replace E := E.on hb
      clear hb O1 O2
      refine hK.out _ _ ⟨E, (s_l2 E).2.2.2.1, (s_l2 E).2.2.2.2⟩ ?_
      clear hK K
      try simp only [Act.put, List.setIfInBounds_toArray, List.set_cons_zero, List.set_cons_succ]
      iterate 1 (first | (refine wpPlan_still (v := ?_) (Or.inl ⟨by rfl, ?_⟩) ?_; rotate_left; (focus (intro W hW; (try dsimp only at hW); go_split_ands; go_simp; try with_reducible rfl)); try simp only [Act.put, List.setIfInBounds_toArray, List.set_cons_zero, List.set_cons_succ]) | (refine wpPlan_still (Or.inr ⟨by rfl, rfl⟩) ?_; try simp only [Act.put, List.setIfInBounds_toArray, List.set_cons_zero, List.set_cons_succ]))
      refine wpPlan_end ?_
      replace C := E.cells
      simp [BC, CF] at C
      go_upto_region 6 with (go_at_call 16; (with_reducible refine (h1 _).mono ?_); rintro X wa ⟨rfl, hb⟩; replace E := E.on hb; replace C := E.cells; simp [BC, CF] at C; clear hb)
      replace E := E.add _ 23 #[.int .i64 0, .int .i64 0] rfl
      replace C := E.cells
      simp [BC, CF] at C
      go_upto_region 7 with (go_at_call 17; (with_reducible refine (h2 _).mono ?_); rintro X wb ⟨rfl, hb⟩; replace E := E.on hb; replace C := E.cells; simp [BC, CF] at C; clear hb)
      replace E := E.add _ 23 #[.int .i64 f0, .int .i64 f1] rfl
      replace C := E.cells
      simp [BC, CF] at C
      go_upto_region 9 with (go_at_call 12; (with_reducible refine (hw _).mono ?_); rintro X wq ⟨rfl, hb⟩; replace E := E.on hb; replace C := E.cells; simp [BC, CF] at C; clear hb)
      refine wp_region_plan 7 [(0, true), (1, true), (2, true), (3, true), (4, true), (5, false), (6, true)] (fun W' => Env w W' [⟨wb.heap.size, 23, #[.int .i64 f0, .int .i64 f1]⟩, ⟨wa.heap.size, 23, #[.int .i64 0, .int .i64 0]⟩, ⟨w.heap.size + 1, 23, #[.int .i64 b0, .int .i64 b1]⟩, ⟨w.heap.size, 23, #[.int .i64 a0, .int .i64 a1]⟩] ∧ W'.cell? ⟨wb.heap.size, 0, none⟩ = some (.int .i64 f0) ∧ W'.cell? ⟨wb.heap.size, 1, none⟩ = some (.int .i64 f1) ∧ W'.cell? ⟨wa.heap.size, 0, none⟩ = some (.int .i64 0) ∧ W'.cell? ⟨wa.heap.size, 1, none⟩ = some (.int .i64 0) ∧ W'.cell? ⟨w.heap.size + 1, 0, none⟩ = some (.int .i64 b0) ∧ W'.cell? ⟨w.heap.size + 1, 1, none⟩ = some (.int .i64 b1) ∧ W'.cell? ⟨w.heap.size, 0, none⟩ = some (.int .i64 a0) ∧ W'.cell? ⟨w.heap.size, 1, none⟩ = some (.int .i64 a1)) (by kernel_rfl) (by kernel_rfl) (fun _ _ d _ _ h => by cases d <;> exact h) (s_l4 E.drw) ?_
      simp only [List.filterMap_cons, List.filterMap_nil, List.getElem?_cons_zero, List.getElem?_cons_succ, Option.map_some, List.drop_succ_cons, List.drop_zero]
      replace E := E.drw
      iterate 5 (first | (refine wpPlan_still (v := ?_) (Or.inl ⟨by rfl, ?_⟩) ?_; rotate_left; (focus (intro W hW; (try dsimp only at hW); go_split_ands; go_simp; try with_reducible rfl)); try simp only [Act.put, List.setIfInBounds_toArray, List.set_cons_zero, List.set_cons_succ]) | (refine wpPlan_still (Or.inr ⟨by rfl, rfl⟩) ?_; try simp only [Act.put, List.setIfInBounds_toArray, List.set_cons_zero, List.set_cons_succ]))
      refine wpPlan_only (fun K hK => ?_)
      try go_simp
      (go_at_call 18; (with_reducible refine (h3 _).mono ?_); rintro X wq ⟨rfl, hb⟩)
      replace E := E.on hb
      clear hb
      refine hK.out _ _ (s_l4 E) ?_
      clear hK K
      try simp only [Act.put, List.setIfInBounds_toArray, List.set_cons_zero, List.set_cons_succ]
      iterate 1 (first | (refine wpPlan_still (v := ?_) (Or.inl ⟨by rfl, ?_⟩) ?_; rotate_left; (focus (intro W hW; (try dsimp only at hW); go_split_ands; go_simp; try with_reducible rfl)); try simp only [Act.put, List.setIfInBounds_toArray, List.set_cons_zero, List.set_cons_succ]) | (refine wpPlan_still (Or.inr ⟨by rfl, rfl⟩) ?_; try simp only [Act.put, List.setIfInBounds_toArray, List.set_cons_zero, List.set_cons_succ]))
      refine wpPlan_end ?_
      replace C := E.cells
      simp [BC, CF] at C
      go_wp2_with (go_at_call 12; (with_reducible refine (hx _).mono ?_); rintro X wq ⟨rfl, hb⟩; replace E := E.on hb; replace C := E.cells; simp [BC, CF] at C; clear hb)
      go_ret
      exact ⟨rfl, envb E⟩
    · rw [vb] at hx
      have h1 := fun W => Then_ok a b W va vb
      have h4 := fun W => then_19 a b W va vb
      clear va vb e0
      have e4 := eq23_same (aft a b).x (aft a b).y
      generalize aft a b = A at *
      generalize bk a = B at *
      obtain ⟨f0, f1⟩ := B
      obtain ⟨d0, d1⟩ := A
      obtain ⟨a0, a1⟩ := a
      obtain ⟨b0, b1⟩ := b
      unfold Tn.val at *
      try unfold tv at *
      dsimp only at *
      have E := ((Env.nil w).add (w.heap.size) 23 #[.int .i64 a0, .int .i64 a1] rfl).add (w.heap.size + 1) 23 #[.int .i64 b0, .int .i64 b1] (by simp)
      have C := E.cells
      simp [BC, CF] at C
      go_enter Try.func3, Try.ntmps3
      go_upto_region 3 with (go_at_call 10; (with_reducible refine (awake_10 _).mono ?_); rintro X wq ⟨rfl, hb⟩; replace E := E.on hb; replace C := E.cells; simp [BC, CF] at C; clear hb)
      refine wp_region_plan 10 [(0, true), (2, true), (1, false), (3, false), (4, true), (5, true), (6, false), (7, false), (8, false), (9, true)] (fun W' => Env w W' [⟨w.heap.size + 1, 23, #[.int .i64 b0, .int .i64 b1]⟩, ⟨w.heap.size, 23, #[.int .i64 a0, .int .i64 a1]⟩] ∧ W'.cell? ⟨w.heap.size, 0, none⟩ = some (.int .i64 a0) ∧ W'.cell? ⟨w.heap.size, 1, none⟩ = some (.int .i64 a1)) (by kernel_rfl) (by kernel_rfl) (fun _ _ d _ _ h => by cases d <;> exact h) ⟨E.drw, (s_l2 E.drw).2.2.2.1, (s_l2 E.drw).2.2.2.2⟩ ?_
      simp only [List.filterMap_cons, List.filterMap_nil, List.getElem?_cons_zero, List.getElem?_cons_succ, Option.map_some, List.drop_succ_cons, List.drop_zero]
      replace E := E.drw
      iterate 2 (first | (refine wpPlan_still (v := ?_) (Or.inl ⟨by rfl, ?_⟩) ?_; rotate_left; (focus (intro W hW; (try dsimp only at hW); go_split_ands; go_simp; try with_reducible rfl)); try simp only [Act.put, List.setIfInBounds_toArray, List.set_cons_zero, List.set_cons_succ]) | (refine wpPlan_still (Or.inr ⟨by rfl, rfl⟩) ?_; try simp only [Act.put, List.setIfInBounds_toArray, List.set_cons_zero, List.set_cons_succ]))
      refine wpPlan_only (fun K hK => ?_)
      try go_simp
      (go_at_call 11; (with_reducible refine (hv _).mono ?_); rintro X wq ⟨rfl, hb⟩)
      replace E := E.on hb
      clear hb
      refine hK.out _ _ ⟨E, (s_l2 E).2.2.2.1, (s_l2 E).2.2.2.2⟩ ?_
      clear hK K
      try simp only [Act.put, List.setIfInBounds_toArray, List.set_cons_zero, List.set_cons_succ]
      refine wpPlan_only (fun K hK => ?_)
      try go_simp
      (go_at_call 12; (with_reducible refine (hw _).mono ?_); rintro X wq ⟨rfl, hb⟩)
      replace E := E.on hb
      clear hb
      refine hK.out _ _ ⟨E, (s_l2 E).2.2.2.1, (s_l2 E).2.2.2.2⟩ ?_
      clear hK K
      try simp only [Act.put, List.setIfInBounds_toArray, List.set_cons_zero, List.set_cons_succ]
      iterate 2 (first | (refine wpPlan_still (v := ?_) (Or.inl ⟨by rfl, ?_⟩) ?_; rotate_left; (focus (intro W hW; (try dsimp only at hW); go_split_ands; go_simp; try with_reducible rfl)); try simp only [Act.put, List.setIfInBounds_toArray, List.set_cons_zero, List.set_cons_succ]) | (refine wpPlan_still (Or.inr ⟨by rfl, rfl⟩) ?_; try simp only [Act.put, List.setIfInBounds_toArray, List.set_cons_zero, List.set_cons_succ]))
      refine wpPlan_only (fun K hK => ?_)
      try go_simp
      (go_at_call 14; (with_reducible refine (all_14 _).mono ?_); rintro X wq ⟨x1, rfl, O1, hb⟩)
      replace E := E.on hb
      clear hb
      refine hK.out _ _ ⟨E, (s_l2 E).2.2.2.1, (s_l2 E).2.2.2.2⟩ ?_
      clear hK K
      try simp only [Act.put, List.setIfInBounds_toArray, List.set_cons_zero, List.set_cons_succ]
      refine wpPlan_only (fun K hK => ?_)
      try go_simp
      (go_at_call 15; (with_reducible refine (all_15 _).mono ?_); rintro X wq ⟨x2, rfl, O2, hb⟩)
      replace E := E.on hb
      replace O1 := Own.on O1 hb
      clear hb
      refine hK.out _ _ ⟨E, (s_l2 E).2.2.2.1, (s_l2 E).2.2.2.2⟩ ?_
      clear hK K
      try simp only [Act.put, List.setIfInBounds_toArray, List.set_cons_zero, List.set_cons_succ]
      refine wpPlan_only (fun K hK => ?_)
      try go_simp
      (go_at_call 13; (with_reducible refine (allq_any O1 O2).mono ?_); rintro X wq ⟨rfl, hb⟩)
      replace E := E.on hb
      clear hb O1 O2
      refine hK.out _ _ ⟨E, (s_l2 E).2.2.2.1, (s_l2 E).2.2.2.2⟩ ?_
      clear hK K
      try simp only [Act.put, List.setIfInBounds_toArray, List.set_cons_zero, List.set_cons_succ]
      iterate 1 (first | (refine wpPlan_still (v := ?_) (Or.inl ⟨by rfl, ?_⟩) ?_; rotate_left; (focus (intro W hW; (try dsimp only at hW); go_split_ands; go_simp; try with_reducible rfl)); try simp only [Act.put, List.setIfInBounds_toArray, List.set_cons_zero, List.set_cons_succ]) | (refine wpPlan_still (Or.inr ⟨by rfl, rfl⟩) ?_; try simp only [Act.put, List.setIfInBounds_toArray, List.set_cons_zero, List.set_cons_succ]))
      refine wpPlan_end ?_
      replace C := E.cells
      simp [BC, CF] at C
      go_upto_region 6 with (go_at_call 16; (with_reducible refine (h1 _).mono ?_); rintro X wa ⟨rfl, hb⟩; replace E := E.on hb; replace C := E.cells; simp [BC, CF] at C; clear hb)
      replace E := E.add _ 23 #[.int .i64 d0, .int .i64 d1] rfl
      replace C := E.cells
      simp [BC, CF] at C
      go_upto_region 7 with (go_at_call 17; (with_reducible refine (h2 _).mono ?_); rintro X wb ⟨rfl, hb⟩; replace E := E.on hb; replace C := E.cells; simp [BC, CF] at C; clear hb)
      replace E := E.add _ 23 #[.int .i64 f0, .int .i64 f1] rfl
      replace C := E.cells
      simp [BC, CF] at C
      go_upto_region 9 with (go_at_call 12; (with_reducible refine (hw _).mono ?_); rintro X wq ⟨rfl, hb⟩; replace E := E.on hb; replace C := E.cells; simp [BC, CF] at C; clear hb)
      refine wp_region_plan 7 [(0, true), (1, true), (2, true), (3, true), (4, true), (5, false), (6, true)] (fun W' => Env w W' [⟨wb.heap.size, 23, #[.int .i64 f0, .int .i64 f1]⟩, ⟨wa.heap.size, 23, #[.int .i64 d0, .int .i64 d1]⟩, ⟨w.heap.size + 1, 23, #[.int .i64 b0, .int .i64 b1]⟩, ⟨w.heap.size, 23, #[.int .i64 a0, .int .i64 a1]⟩] ∧ W'.cell? ⟨wb.heap.size, 0, none⟩ = some (.int .i64 f0) ∧ W'.cell? ⟨wb.heap.size, 1, none⟩ = some (.int .i64 f1) ∧ W'.cell? ⟨wa.heap.size, 0, none⟩ = some (.int .i64 d0) ∧ W'.cell? ⟨wa.heap.size, 1, none⟩ = some (.int .i64 d1) ∧ W'.cell? ⟨w.heap.size + 1, 0, none⟩ = some (.int .i64 b0) ∧ W'.cell? ⟨w.heap.size + 1, 1, none⟩ = some (.int .i64 b1) ∧ W'.cell? ⟨w.heap.size, 0, none⟩ = some (.int .i64 a0) ∧ W'.cell? ⟨w.heap.size, 1, none⟩ = some (.int .i64 a1)) (by kernel_rfl) (by kernel_rfl) (fun _ _ d _ _ h => by cases d <;> exact h) (s_l4 E.drw) ?_
      simp only [List.filterMap_cons, List.filterMap_nil, List.getElem?_cons_zero, List.getElem?_cons_succ, Option.map_some, List.drop_succ_cons, List.drop_zero]
      replace E := E.drw
      iterate 5 (first | (refine wpPlan_still (v := ?_) (Or.inl ⟨by rfl, ?_⟩) ?_; rotate_left; (focus (intro W hW; (try dsimp only at hW); go_split_ands; go_simp; try with_reducible rfl)); try simp only [Act.put, List.setIfInBounds_toArray, List.set_cons_zero, List.set_cons_succ]) | (refine wpPlan_still (Or.inr ⟨by rfl, rfl⟩) ?_; try simp only [Act.put, List.setIfInBounds_toArray, List.set_cons_zero, List.set_cons_succ]))
      refine wpPlan_only (fun K hK => ?_)
      try go_simp
      (go_at_call 18; (with_reducible refine (h3 _).mono ?_); rintro X wq ⟨rfl, hb⟩)
      replace E := E.on hb
      clear hb
      refine hK.out _ _ (s_l4 E) ?_
      clear hK K
      try simp only [Act.put, List.setIfInBounds_toArray, List.set_cons_zero, List.set_cons_succ]
      iterate 1 (first | (refine wpPlan_still (v := ?_) (Or.inl ⟨by rfl, ?_⟩) ?_; rotate_left; (focus (intro W hW; (try dsimp only at hW); go_split_ands; go_simp; try with_reducible rfl)); try simp only [Act.put, List.setIfInBounds_toArray, List.set_cons_zero, List.set_cons_succ]) | (refine wpPlan_still (Or.inr ⟨by rfl, rfl⟩) ?_; try simp only [Act.put, List.setIfInBounds_toArray, List.set_cons_zero, List.set_cons_succ]))
      refine wpPlan_end ?_
      replace C := E.cells
      simp [BC, CF] at C
      go_upto_region 13 with (go_at_call 12; (with_reducible refine (hx _).mono ?_); rintro X wq ⟨rfl, hb⟩; replace E := E.on hb; replace C := E.cells; simp [BC, CF] at C; clear hb)
      refine wp_region_plan 9 [(0, true), (1, true), (2, true), (3, true), (4, true), (5, true), (6, false), (7, true), (8, true)] (fun W' => Env w W' [⟨wb.heap.size, 23, #[.int .i64 f0, .int .i64 f1]⟩, ⟨wa.heap.size, 23, #[.int .i64 d0, .int .i64 d1]⟩, ⟨w.heap.size + 1, 23, #[.int .i64 b0, .int .i64 b1]⟩, ⟨w.heap.size, 23, #[.int .i64 a0, .int .i64 a1]⟩] ∧ W'.cell? ⟨wb.heap.size, 0, none⟩ = some (.int .i64 f0) ∧ W'.cell? ⟨wb.heap.size, 1, none⟩ = some (.int .i64 f1) ∧ W'.cell? ⟨wa.heap.size, 0, none⟩ = some (.int .i64 d0) ∧ W'.cell? ⟨wa.heap.size, 1, none⟩ = some (.int .i64 d1) ∧ W'.cell? ⟨w.heap.size + 1, 0, none⟩ = some (.int .i64 b0) ∧ W'.cell? ⟨w.heap.size + 1, 1, none⟩ = some (.int .i64 b1) ∧ W'.cell? ⟨w.heap.size, 0, none⟩ = some (.int .i64 a0) ∧ W'.cell? ⟨w.heap.size, 1, none⟩ = some (.int .i64 a1)) (by kernel_rfl) (by kernel_rfl) (fun _ _ d _ _ h => by cases d <;> exact h) (s_l4 E.drw) ?_
      simp only [List.filterMap_cons, List.filterMap_nil, List.getElem?_cons_zero, List.getElem?_cons_succ, Option.map_some, List.drop_succ_cons, List.drop_zero]
      replace E := E.drw
      iterate 6 (first | (refine wpPlan_still (v := ?_) (Or.inl ⟨by rfl, ?_⟩) ?_; rotate_left; (focus (intro W hW; (try dsimp only at hW); go_split_ands; go_simp; try with_reducible rfl)); try simp only [Act.put, List.setIfInBounds_toArray, List.set_cons_zero, List.set_cons_succ]) | (refine wpPlan_still (Or.inr ⟨by rfl, rfl⟩) ?_; try simp only [Act.put, List.setIfInBounds_toArray, List.set_cons_zero, List.set_cons_succ]))
      refine wpPlan_only (fun K hK => ?_)
      try go_simp
      (go_at_call 19; (with_reducible refine (h4 _).mono ?_); rintro X wq ⟨rfl, hb⟩)
      replace E := E.on hb
      clear hb
      refine hK.out _ _ (s_l4 E) ?_
      clear hK K
      try simp only [Act.put, List.setIfInBounds_toArray, List.set_cons_zero, List.set_cons_succ]
      iterate 2 (first | (refine wpPlan_still (v := ?_) (Or.inl ⟨by rfl, ?_⟩) ?_; rotate_left; (focus (intro W hW; (try dsimp only at hW); go_split_ands; go_simp; try with_reducible rfl)); try simp only [Act.put, List.setIfInBounds_toArray, List.set_cons_zero, List.set_cons_succ]) | (refine wpPlan_still (Or.inr ⟨by rfl, rfl⟩) ?_; try simp only [Act.put, List.setIfInBounds_toArray, List.set_cons_zero, List.set_cons_succ]))
      refine wpPlan_end ?_
      replace C := E.cells
      simp [BC, CF] at C
      go_wp2
      go_ret
      exact ⟨rfl, envb E⟩
end Go.Proofs.Ytmfclelnaceonaa
