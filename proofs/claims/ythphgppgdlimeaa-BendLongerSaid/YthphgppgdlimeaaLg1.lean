/- BendArcs, BendLengths. -/
import Derived.Test.YthphgppgdlimeaaLf
import Derived.Deep.CutBlock
namespace Go.Proofs.Ythphgppgdlimeaa
open Go.ChangeShapes Go.WideShapes Go.ChangeAt Go.RowKit
set_option linter.unusedVariables false
set_option linter.unusedSimpArgs false

theorem s_ar {w W : World} {g1 g2 : Nat} {a b c d : Int} (E : Env w W [⟨g2, 24, #[.int .i64 c, .int .i64 d]⟩, ⟨g1, 24, #[.int .i64 a, .int .i64 b]⟩]) : Env w W [⟨g2, 24, #[.int .i64 c, .int .i64 d]⟩, ⟨g1, 24, #[.int .i64 a, .int .i64 b]⟩] ∧ W.cell? ⟨g1, 0, none⟩ = some (.int .i64 a) ∧ W.cell? ⟨g1, 1, none⟩ = some (.int .i64 b) ∧ W.cell? ⟨g2, 0, none⟩ = some (.int .i64 c) ∧ W.cell? ⟨g2, 1, none⟩ = some (.int .i64 d) := by
  have C := E.cells
  simp [BC, CF] at C
  obtain ⟨⟨-, ⟨c0, -⟩, c1, -⟩, -, ⟨a0, -⟩, a1, -⟩ := C
  exact ⟨E, a0, a1, c0, c1⟩
set_option maxHeartbeats 8000000 in
set_option maxRecDepth 100000 in
theorem arcs_walk (d : Int) (w : World) (hd : I64 d) : Calls Try.prog 3 #[.int .i64 d] w fun e w' => e = .returned (.bool true) ∧ Below w.heap.size w w' := by
  have h10 := fun W => awake_any W
  have h13 := fun W => riz_any d W
  have q24 := fun a b c d W => eq24 a b c d W
  have E := Env.nil w
  clear hd
  cases h : isz d
  · have h11 := fun W => Arc_no d h W
    have h12 := fun W => Alw_no d h W
    rw [h] at h13
    unfold two at *
    clear h
    have C := E.cells
    go_enter Try.func3, Try.ntmps3
    go_wp2_with (first
      | (go_at_call 10; (with_reducible refine (h10 _).mono ?_); rintro X wq ⟨rfl, hb⟩; replace E := E.on hb; replace C := E.cells; simp [BC, CF] at C; clear hb)
      | (go_at_call 11; (with_reducible refine (h11 _).mono ?_); rintro X w1 ⟨rfl, hb⟩; replace E := (E.on hb).add w1.heap.size 24 #[.int .i64 0, .int .i64 0] rfl; replace C := E.cells; simp [BC, CF] at C; clear hb)
      | (go_at_call 12; (with_reducible refine (h12 _).mono ?_); rintro X w2 ⟨rfl, hb⟩; replace E := (E.on hb).add w2.heap.size 24 #[.int .i64 0, .int .i64 0] rfl; replace C := E.cells; simp [BC, CF] at C; clear hb)
      | (go_at_call 13; (with_reducible refine (h13 _).mono ?_); rintro X wq ⟨rfl, hb⟩; replace E := E.on hb; replace C := E.cells; simp [BC, CF] at C; clear hb))
    go_ret
    exact ⟨by simp, envb E⟩
  · have h11 := fun W => Arc_ok d h W
    have h12 := fun W => Alw_ok d h W
    have h14 := fun W => rArc_ok d h W
    have h15 := fun W => rAlw_ok d h W
    rw [h] at h13
    unfold two at *
    clear h
    generalize arcL (bn d) = xa at *
    generalize arcH (bn d) = xb at *
    generalize alwL (bn d) = xc at *
    generalize alwH (bn d) = xd at *
    have C := E.cells
    go_enter Try.func3, Try.ntmps3
    go_upto_region 7 with (first
      | (go_at_call 10; (with_reducible refine (h10 _).mono ?_); rintro X wq ⟨rfl, hb⟩; replace E := E.on hb; replace C := E.cells; simp [BC, CF] at C; clear hb)
      | (go_at_call 11; (with_reducible refine (h11 _).mono ?_); rintro X w1 ⟨rfl, hb⟩; replace E := (E.on hb).add w1.heap.size 24 #[.int .i64 xa, .int .i64 xb] rfl; replace C := E.cells; simp [BC, CF] at C; clear hb)
      | (go_at_call 12; (with_reducible refine (h12 _).mono ?_); rintro X w2 ⟨rfl, hb⟩; replace E := (E.on hb).add w2.heap.size 24 #[.int .i64 xc, .int .i64 xd] rfl; replace C := E.cells; simp [BC, CF] at C; clear hb)
      | (go_at_call 13; (with_reducible refine (h13 _).mono ?_); rintro X wq ⟨rfl, hb⟩; replace E := E.on hb; replace C := E.cells; simp [BC, CF] at C; clear hb))
    refine wp_region_plan 18 [(0, true), (1, true), (2, true), (3, true), (4, true), (5, false), (6, true), (7, true), (8, true), (9, true), (10, true), (11, true), (12, true), (13, true), (14, true), (15, false), (16, true), (17, true)] (fun W' => Env w W' [⟨w2.heap.size, 24, #[.int .i64 xc, .int .i64 xd]⟩, ⟨w1.heap.size, 24, #[.int .i64 xa, .int .i64 xb]⟩] ∧ W'.cell? ⟨w1.heap.size, 0, none⟩ = some (.int .i64 xa) ∧ W'.cell? ⟨w1.heap.size, 1, none⟩ = some (.int .i64 xb) ∧ W'.cell? ⟨w2.heap.size, 0, none⟩ = some (.int .i64 xc) ∧ W'.cell? ⟨w2.heap.size, 1, none⟩ = some (.int .i64 xd)) (by kernel_rfl) (by kernel_rfl) (fun _ _ d _ _ h => by cases d <;> exact h) (s_ar E.drw) ?_
    simp only [List.filterMap_cons, List.filterMap_nil, List.getElem?_cons_zero, List.getElem?_cons_succ, Option.map_some, List.drop_succ_cons, List.drop_zero]
    replace E := E.drw
    iterate 5 (first | (refine wpPlan_still (v := ?_) (Or.inl ⟨by rfl, ?_⟩) ?_; rotate_left; (focus (intro W hW; (try dsimp only at hW); go_split_ands; go_simp; try with_reducible rfl)); try simp only [Act.put, List.setIfInBounds_toArray, List.set_cons_zero, List.set_cons_succ]) | (refine wpPlan_still (Or.inr ⟨by rfl, rfl⟩) ?_; try simp only [Act.put, List.setIfInBounds_toArray, List.set_cons_zero, List.set_cons_succ]))
    refine wpPlan_only (fun K hK => ?_)
    try go_simp
    (go_at_call 14; (with_reducible refine (h14 _).mono ?_); rintro X wq ⟨rfl, hb⟩)
    replace E := E.on hb
    clear hb
    refine hK.out _ _ (s_ar E) ?_
    clear hK K
    try simp only [Act.put, List.setIfInBounds_toArray, List.set_cons_zero, List.set_cons_succ]
    iterate 9 (first | (refine wpPlan_still (v := ?_) (Or.inl ⟨by rfl, ?_⟩) ?_; rotate_left; (focus (intro W hW; (try dsimp only at hW); go_split_ands; go_simp; try with_reducible rfl)); try simp only [Act.put, List.setIfInBounds_toArray, List.set_cons_zero, List.set_cons_succ]) | (refine wpPlan_still (Or.inr ⟨by rfl, rfl⟩) ?_; try simp only [Act.put, List.setIfInBounds_toArray, List.set_cons_zero, List.set_cons_succ]))
    refine wpPlan_only (fun K hK => ?_)
    try go_simp
    (go_at_call 15; (with_reducible refine (h15 _).mono ?_); rintro X wq ⟨rfl, hb⟩)
    replace E := E.on hb
    clear hb
    refine hK.out _ _ (s_ar E) ?_
    clear hK K
    try simp only [Act.put, List.setIfInBounds_toArray, List.set_cons_zero, List.set_cons_succ]
    iterate 2 (first | (refine wpPlan_still (v := ?_) (Or.inl ⟨by rfl, ?_⟩) ?_; rotate_left; (focus (intro W hW; (try dsimp only at hW); go_split_ands; go_simp; try with_reducible rfl)); try simp only [Act.put, List.setIfInBounds_toArray, List.set_cons_zero, List.set_cons_succ]) | (refine wpPlan_still (Or.inr ⟨by rfl, rfl⟩) ?_; try simp only [Act.put, List.setIfInBounds_toArray, List.set_cons_zero, List.set_cons_succ]))
    refine wpPlan_end ?_
    replace C := E.cells
    simp [BC, CF] at C
    go_wp2_with fail
    go_ret
    exact ⟨by simp, envb E⟩
theorem s_le {w W : World} {b : Bar} {g h : Nat} {x y : Int} (E : Env w W [⟨g, 24, #[.int .i64 x, .int .i64 y]⟩, ⟨h, 32, #[.string b.mark, .int .i64 b.size, .int .i64 b.count, .int .i64 b.code, .slice b.p b.ds.length b.cap]⟩]) : Env w W [⟨g, 24, #[.int .i64 x, .int .i64 y]⟩, ⟨h, 32, #[.string b.mark, .int .i64 b.size, .int .i64 b.count, .int .i64 b.code, .slice b.p b.ds.length b.cap]⟩] ∧ W.cell? ⟨g, 0, none⟩ = some (.int .i64 x) ∧ W.cell? ⟨g, 1, none⟩ = some (.int .i64 y) ∧ W.cell? ⟨h, 0, none⟩ = some (.string b.mark) ∧ W.cell? ⟨h, 1, none⟩ = some (.int .i64 b.size) ∧ W.cell? ⟨h, 2, none⟩ = some (.int .i64 b.count) ∧ W.cell? ⟨h, 3, none⟩ = some (.int .i64 b.code) ∧ W.cell? ⟨h, 4, none⟩ = some (.slice b.p b.ds.length b.cap) := by
  have C := E.cells
  simp [BC, CF] at C
  obtain ⟨⟨-, ⟨a0, -⟩, a1, -⟩, -, ⟨c0, -⟩, ⟨c1, -⟩, ⟨c2, -⟩, ⟨c3, -⟩, c4, -⟩ := C
  exact ⟨E, a0, a1, c0, c1, c2, c3, c4⟩
set_option maxHeartbeats 8000000 in
set_option maxRecDepth 100000 in
theorem lengths_walk (b : Bar) (w : World) (hk : b.Ok w) : Calls Try.prog 4 #[b.val] w fun e w' => e = .returned (.bool true) ∧ Below w.heap.size w w' := by
  have h10 := fun W => awake_any W
  have h16 := fun W => long_any b W
  have h21 := fun W (h : Below w.heap.size w W) => rValid_any b W (hk.on h)
  have q24 := fun a b c d W => eq24 a b c d W
  have E := (Env.nil w).add w.heap.size 32 b.cs rfl
  have hcs : b.cs = #[.string b.mark, .int .i64 b.size, .int .i64 b.count, .int .i64 b.code, .slice b.p b.ds.length b.cap] := rfl
  have hvv : b.val = .agg b.cs := rfl
  rw [hcs] at E hvv
  cases hl : longB b
  · cases hv : barB b
    · have h17 := fun W (h : Below w.heap.size w W) => Bends_no b W (hk.on h) hv
      have h18 := fun W (h : Below w.heap.size w W) => Dev_no b W (hk.on h) hv
      have h19 := fun W (h : Below w.heap.size w W) => Cut_no b W (hk.on h) hv
      have h20 := fun W (h : Below w.heap.size w W) => Mass_no b W (hk.on h) hv
      rw [hl] at h16
      rw [hv] at h21
      rw [hvv] at h16 h17 h18 h19 h20 h21 ⊢
      unfold two at *
      clear hl hv hk hcs hvv
      have C := E.cells
      simp [BC, CF] at C
      go_enter Try.func4, Try.ntmps4
      go_wp2_with (first
        | (go_at_call 10; (with_reducible refine (h10 _).mono ?_); rintro X wq ⟨rfl, hb⟩; replace E := E.on hb; replace C := E.cells; simp [BC, CF] at C; clear hb)
        | (go_at_call 16; (with_reducible refine (h16 _).mono ?_); rintro X wq ⟨rfl, hb⟩; replace E := E.on hb; replace C := E.cells; simp [BC, CF] at C; clear hb)
        | (go_at_call 17; (with_reducible refine (h17 _ (envb E)).mono ?_); rintro X wq ⟨rfl, hb⟩; replace E := E.on hb; replace C := E.cells; simp [BC, CF] at C; clear hb)
        | (go_at_call 18; (with_reducible refine (h18 _ (envb E)).mono ?_); rintro X w1 ⟨rfl, hb⟩; replace E := (E.on hb).add w1.heap.size 24 #[.int .i64 0, .int .i64 0] rfl; replace C := E.cells; simp [BC, CF] at C; clear hb)
        | (go_at_call 19; (with_reducible refine (h19 _ (envb E)).mono ?_); rintro X wq ⟨rfl, hb⟩; replace E := E.on hb; replace C := E.cells; simp [BC, CF] at C; clear hb)
        | (go_at_call 20; (with_reducible refine (h20 _ (envb E)).mono ?_); rintro X wq ⟨rfl, hb⟩; replace E := E.on hb; replace C := E.cells; simp [BC, CF] at C; clear hb)
        | (go_at_call 21; (with_reducible refine (h21 _ (envb E)).mono ?_); rintro X wq ⟨rfl, hb⟩; replace E := E.on hb; replace C := E.cells; simp [BC, CF] at C; clear hb))
      go_ret
      exact ⟨by simp, envb E⟩
    · have h17 := fun W (h : Below w.heap.size w W) => Bends_ok b W (hk.on h) hv
      have h18 := fun W (h : Below w.heap.size w W) => Dev_ok b W (hk.on h) hv
      have h19 := fun W (h : Below w.heap.size w W) => Cut_ok b W (hk.on h) hv
      have h20 := fun W (h : Below w.heap.size w W) => Mass_ok b W (hk.on h) hv
      have h22 := fun W (h : Below w.heap.size w W) => rBends_ok b W (hk.on h) hv
      have h23 := fun W (h : Below w.heap.size w W) => rDev_ok b W (hk.on h) hv
      have h24 := fun W (h : Below w.heap.size w W) => rCut_ok b W (hk.on h) hv
      have h25 := fun W (h : Below w.heap.size w W) => rMass_ok b W (hk.on h) hv
      rw [hl] at h16
      rw [hv] at h21
      rw [hvv] at h16 h17 h18 h19 h20 h21 h22 h23 h24 h25 ⊢
      unfold two at *
      clear hl hv hk hcs hvv
      generalize (nl b.code : Int) - 1 = vn at *
      generalize devL b = vx at *
      generalize devH b = vy at *
      generalize cutB b = vc at *
      generalize massB b = vm at *
      have C := E.cells
      simp [BC, CF] at C
      go_enter Try.func4, Try.ntmps4
      go_upto_region 11 with (first
        | (go_at_call 10; (with_reducible refine (h10 _).mono ?_); rintro X wq ⟨rfl, hb⟩; replace E := E.on hb; replace C := E.cells; simp [BC, CF] at C; clear hb)
        | (go_at_call 16; (with_reducible refine (h16 _).mono ?_); rintro X wq ⟨rfl, hb⟩; replace E := E.on hb; replace C := E.cells; simp [BC, CF] at C; clear hb)
        | (go_at_call 17; (with_reducible refine (h17 _ (envb E)).mono ?_); rintro X wq ⟨rfl, hb⟩; replace E := E.on hb; replace C := E.cells; simp [BC, CF] at C; clear hb)
        | (go_at_call 18; (with_reducible refine (h18 _ (envb E)).mono ?_); rintro X w1 ⟨rfl, hb⟩; replace E := (E.on hb).add w1.heap.size 24 #[.int .i64 vx, .int .i64 vy] rfl; replace C := E.cells; simp [BC, CF] at C; clear hb)
        | (go_at_call 19; (with_reducible refine (h19 _ (envb E)).mono ?_); rintro X wq ⟨rfl, hb⟩; replace E := E.on hb; replace C := E.cells; simp [BC, CF] at C; clear hb)
        | (go_at_call 20; (with_reducible refine (h20 _ (envb E)).mono ?_); rintro X wq ⟨rfl, hb⟩; replace E := E.on hb; replace C := E.cells; simp [BC, CF] at C; clear hb)
        | (go_at_call 21; (with_reducible refine (h21 _ (envb E)).mono ?_); rintro X wq ⟨rfl, hb⟩; replace E := E.on hb; replace C := E.cells; simp [BC, CF] at C; clear hb))
      refine wp_region_plan 38 [(0, true), (1, true), (2, true), (3, true), (4, true), (5, false), (6, true), (7, true), (8, true), (9, true), (10, true), (11, true), (12, true), (13, true), (14, true), (15, false), (16, true), (17, true), (18, true), (19, true), (20, true), (21, true), (22, true), (23, true), (24, true), (25, false), (26, true), (27, true), (28, true), (29, true), (30, true), (31, true), (32, true), (33, true), (34, true), (35, false), (36, true), (37, true)] (fun W' => Env w W' [⟨w1.heap.size, 24, #[.int .i64 vx, .int .i64 vy]⟩, ⟨w.heap.size, 32, #[.string b.mark, .int .i64 b.size, .int .i64 b.count, .int .i64 b.code, .slice b.p b.ds.length b.cap]⟩] ∧ W'.cell? ⟨w1.heap.size, 0, none⟩ = some (.int .i64 vx) ∧ W'.cell? ⟨w1.heap.size, 1, none⟩ = some (.int .i64 vy) ∧ W'.cell? ⟨w.heap.size, 0, none⟩ = some (.string b.mark) ∧ W'.cell? ⟨w.heap.size, 1, none⟩ = some (.int .i64 b.size) ∧ W'.cell? ⟨w.heap.size, 2, none⟩ = some (.int .i64 b.count) ∧ W'.cell? ⟨w.heap.size, 3, none⟩ = some (.int .i64 b.code) ∧ W'.cell? ⟨w.heap.size, 4, none⟩ = some (.slice b.p b.ds.length b.cap)) (by kernel_rfl) (by kernel_rfl) (fun _ _ d _ _ h => by cases d <;> exact h) (s_le E.drw) ?_
      simp only [List.filterMap_cons, List.filterMap_nil, List.getElem?_cons_zero, List.getElem?_cons_succ, Option.map_some, List.drop_succ_cons, List.drop_zero]
      replace E := E.drw
      iterate 5 (first | (refine wpPlan_still (v := ?_) (Or.inl ⟨by rfl, ?_⟩) ?_; rotate_left; (focus (intro W hW; (try dsimp only at hW); go_split_ands; go_simp; try with_reducible rfl)); try simp only [Act.put, List.setIfInBounds_toArray, List.set_cons_zero, List.set_cons_succ]) | (refine wpPlan_still (Or.inr ⟨by rfl, rfl⟩) ?_; try simp only [Act.put, List.setIfInBounds_toArray, List.set_cons_zero, List.set_cons_succ]))
      refine wpPlan_only (fun K hK => ?_)
      try go_simp
      (go_at_call 22; (with_reducible refine (h22 _ (envb E)).mono ?_); rintro X wq ⟨rfl, hb⟩)
      replace E := E.on hb
      clear hb
      refine hK.out _ _ (s_le E) ?_
      clear hK K
      try simp only [Act.put, List.setIfInBounds_toArray, List.set_cons_zero, List.set_cons_succ]
      iterate 9 (first | (refine wpPlan_still (v := ?_) (Or.inl ⟨by rfl, ?_⟩) ?_; rotate_left; (focus (intro W hW; (try dsimp only at hW); go_split_ands; go_simp; try with_reducible rfl)); try simp only [Act.put, List.setIfInBounds_toArray, List.set_cons_zero, List.set_cons_succ]) | (refine wpPlan_still (Or.inr ⟨by rfl, rfl⟩) ?_; try simp only [Act.put, List.setIfInBounds_toArray, List.set_cons_zero, List.set_cons_succ]))
      refine wpPlan_only (fun K hK => ?_)
      try go_simp
      (go_at_call 23; (with_reducible refine (h23 _ (envb E)).mono ?_); rintro X wq ⟨rfl, hb⟩)
      replace E := E.on hb
      clear hb
      refine hK.out _ _ (s_le E) ?_
      clear hK K
      try simp only [Act.put, List.setIfInBounds_toArray, List.set_cons_zero, List.set_cons_succ]
      iterate 9 (first | (refine wpPlan_still (v := ?_) (Or.inl ⟨by rfl, ?_⟩) ?_; rotate_left; (focus (intro W hW; (try dsimp only at hW); go_split_ands; go_simp; try with_reducible rfl)); try simp only [Act.put, List.setIfInBounds_toArray, List.set_cons_zero, List.set_cons_succ]) | (refine wpPlan_still (Or.inr ⟨by rfl, rfl⟩) ?_; try simp only [Act.put, List.setIfInBounds_toArray, List.set_cons_zero, List.set_cons_succ]))
      refine wpPlan_only (fun K hK => ?_)
      try go_simp
      (go_at_call 24; (with_reducible refine (h24 _ (envb E)).mono ?_); rintro X wq ⟨rfl, hb⟩)
      replace E := E.on hb
      clear hb
      refine hK.out _ _ (s_le E) ?_
      clear hK K
      try simp only [Act.put, List.setIfInBounds_toArray, List.set_cons_zero, List.set_cons_succ]
      iterate 9 (first | (refine wpPlan_still (v := ?_) (Or.inl ⟨by rfl, ?_⟩) ?_; rotate_left; (focus (intro W hW; (try dsimp only at hW); go_split_ands; go_simp; try with_reducible rfl)); try simp only [Act.put, List.setIfInBounds_toArray, List.set_cons_zero, List.set_cons_succ]) | (refine wpPlan_still (Or.inr ⟨by rfl, rfl⟩) ?_; try simp only [Act.put, List.setIfInBounds_toArray, List.set_cons_zero, List.set_cons_succ]))
      refine wpPlan_only (fun K hK => ?_)
      try go_simp
      (go_at_call 25; (with_reducible refine (h25 _ (envb E)).mono ?_); rintro X wq ⟨rfl, hb⟩)
      replace E := E.on hb
      clear hb
      refine hK.out _ _ (s_le E) ?_
      clear hK K
      try simp only [Act.put, List.setIfInBounds_toArray, List.set_cons_zero, List.set_cons_succ]
      iterate 2 (first | (refine wpPlan_still (v := ?_) (Or.inl ⟨by rfl, ?_⟩) ?_; rotate_left; (focus (intro W hW; (try dsimp only at hW); go_split_ands; go_simp; try with_reducible rfl)); try simp only [Act.put, List.setIfInBounds_toArray, List.set_cons_zero, List.set_cons_succ]) | (refine wpPlan_still (Or.inr ⟨by rfl, rfl⟩) ?_; try simp only [Act.put, List.setIfInBounds_toArray, List.set_cons_zero, List.set_cons_succ]))
      refine wpPlan_end ?_
      replace C := E.cells
      simp [BC, CF] at C
      go_wp2_with fail
      go_ret
      exact ⟨by simp, envb E⟩
  · rw [hl] at h16
    rw [hvv] at h16 ⊢
    clear hl hk h21 hcs hvv
    have C := E.cells
    simp [BC, CF] at C
    go_enter Try.func4, Try.ntmps4
    go_wp2_with (first
      | (go_at_call 10; (with_reducible refine (h10 _).mono ?_); rintro X wq ⟨rfl, hb⟩; replace E := E.on hb; replace C := E.cells; simp [BC, CF] at C; clear hb)
      | (go_at_call 16; (with_reducible refine (h16 _).mono ?_); rintro X wq ⟨rfl, hb⟩; replace E := E.on hb; replace C := E.cells; simp [BC, CF] at C; clear hb))
    go_ret
    exact ⟨rfl, envb E⟩
end Go.Proofs.Ythphgppgdlimeaa
