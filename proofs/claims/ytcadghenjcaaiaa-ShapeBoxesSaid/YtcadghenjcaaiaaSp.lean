/- ShapePaths. -/
import Derived.Test.YtcadghenjcaaiaaRh
import Derived.Deep.CutBlock
namespace Go.Proofs.Ytcadghenjcaaiaa
open Go.ChangeShapes Go.WideShapes Go.ChangeAt Go.RowKit
set_option linter.unusedVariables false
set_option linter.unusedSimpArgs false

theorem eq42_same (x : Bx) (W : World) : (binOp .eql 42 (.agg #[.int .i64 x.a, .int .i64 x.b, .int .i64 x.c, .int .i64 x.d, .int .i64 x.e, .int .i64 x.f]) (.agg #[.int .i64 x.a, .int .i64 x.b, .int .i64 x.c, .int .i64 x.d, .int .i64 x.e, .int .i64 x.f])).run Try.prog W = .ok (.bool true) W := by
  have h := eq42 x x W
  rw [decide_eq_true (show x = x from rfl)] at h
  exact h
theorem eq42_zero (W : World) : (binOp .eql 42 (.agg #[.int .i64 0, .int .i64 0, .int .i64 0, .int .i64 0, .int .i64 0, .int .i64 0]) (.agg #[.int .i64 0, .int .i64 0, .int .i64 0, .int .i64 0, .int .i64 0, .int .i64 0])).run Try.prog W = .ok (.bool true) W := eq42_same ⟨0, 0, 0, 0, 0, 0⟩ W
set_option maxHeartbeats 8000000 in
set_option maxRecDepth 100000 in
theorem paths_s (b : Bar) (w : World) (hk : b.Ok w) (h1 : (decide (b.ds.length ≤ 8) && decide (b.mark.size ≤ 60)) = false) : Calls Try.prog 4 #[b.val] w fun e w' => e = .returned (.bool true) ∧ Below w.heap.size w w' := by
  have h16 := fun W => Short_any b W
  rw [h1] at h16
  have E := (Env.nil w).add w.heap.size 32 b.cs rfl
  clear hk h1
  simp only [Bar.val, Bar.cs] at *
  have C := E.cells
  simp [BC, CF] at C
  go_enter Try.func4, Try.ntmps4
  go_wp2_with (first
    | (go_at_call 10; (with_reducible refine (awake_any _).mono ?_); rintro X w1 ⟨rfl, hb⟩; replace E := E.on hb; replace C := E.cells; simp [BC, CF] at C; clear hb)
    | (go_at_call 16; (with_reducible refine (h16 _).mono ?_); rintro X w2 ⟨rfl, hb⟩; replace E := E.on hb; replace C := E.cells; simp [BC, CF] at C; clear hb))
  go_ret
  exact ⟨rfl, envb E⟩
set_option maxHeartbeats 8000000 in
set_option maxRecDepth 100000 in
theorem paths_n (b : Bar) (w : World) (hk : b.Ok w) (h1 : (decide (b.ds.length ≤ 8) && decide (b.mark.size ≤ 60)) = true) (hv : barB b = false) : Calls Try.prog 4 #[b.val] w fun e w' => e = .returned (.bool true) ∧ Below w.heap.size w w' := by
  have h16 := fun W => Short_any b W
  have h17 := fun W (h : Below w.heap.size w W) => Legs_no b W (hk.on h) hv
  have h18 := fun W (h : Below w.heap.size w W) => Path_no b W (hk.on h) hv
  have h19 := fun W (h : Below w.heap.size w W) => Box_no b W (hk.on h) hv
  have h20 := fun W (h : Below w.heap.size w W) => rValid_any b W (hk.on h)
  have h21 := fun W (h : Below w.heap.size w W) => Valid_any b W (hk.on h)
  rw [h1] at h16
  rw [hv] at h20 h21
  have E := (Env.nil w).add w.heap.size 32 b.cs rfl
  clear hk h1 hv
  simp only [Bar.val, Bar.cs] at *
  have hq := eq42_zero
  have C := E.cells
  simp [BC, CF] at C
  go_enter Try.func4, Try.ntmps4
  go_wp2_with (first
    | (go_at_call 10; (with_reducible refine (awake_any _).mono ?_); rintro X w1 ⟨rfl, hb⟩; replace E := E.on hb; replace C := E.cells; simp [BC, CF] at C; clear hb)
    | (go_at_call 16; (with_reducible refine (h16 _).mono ?_); rintro X w2 ⟨rfl, hb⟩; replace E := E.on hb; replace C := E.cells; simp [BC, CF] at C; clear hb)
    | (go_at_call 17; (with_reducible refine (h17 _ (envb E)).mono ?_); rintro X w3 ⟨rfl, hb⟩; replace E := E.on hb; replace C := E.cells; simp [BC, CF] at C; clear hb)
    | (go_at_call 18; (with_reducible refine (h18 _ (envb E)).mono ?_); rintro X w3 ⟨rfl, hb⟩; replace E := E.on hb; replace C := E.cells; simp [BC, CF] at C; clear hb)
    | (go_at_call 19; (with_reducible refine (h19 _ (envb E)).mono ?_); rintro X w3 ⟨rfl, hb⟩; replace E := E.on hb; replace E := E.add w3.heap.size 42 #[.int .i64 0, .int .i64 0, .int .i64 0, .int .i64 0, .int .i64 0, .int .i64 0] rfl; replace C := E.cells; simp [BC, CF] at C; clear hb)
    | (go_at_call 20; (with_reducible refine (h20 _ (envb E)).mono ?_); rintro X w3 ⟨rfl, hb⟩; replace E := E.on hb; replace C := E.cells; simp [BC, CF] at C; clear hb)
    | (go_at_call 21; (with_reducible refine (h21 _ (envb E)).mono ?_); rintro X w3 ⟨rfl, hb⟩; replace E := E.on hb; replace C := E.cells; simp [BC, CF] at C; clear hb))
  go_ret
  exact ⟨rfl, envb E⟩
theorem s_sp {w W : World} {gx : Nat} {RES : Bx} {b : Bar} (E : Env w W [⟨gx, 42, #[.int .i64 RES.a, .int .i64 RES.b, .int .i64 RES.c, .int .i64 RES.d, .int .i64 RES.e, .int .i64 RES.f]⟩, ⟨w.heap.size, 32, #[.string b.mark, .int .i64 b.size, .int .i64 b.count, .int .i64 b.code, .slice b.p b.ds.length b.cap]⟩]) : Env w W [⟨gx, 42, #[.int .i64 RES.a, .int .i64 RES.b, .int .i64 RES.c, .int .i64 RES.d, .int .i64 RES.e, .int .i64 RES.f]⟩, ⟨w.heap.size, 32, #[.string b.mark, .int .i64 b.size, .int .i64 b.count, .int .i64 b.code, .slice b.p b.ds.length b.cap]⟩] ∧ W.cell? ⟨gx, 0, none⟩ = some (.int .i64 RES.a) ∧ W.cell? ⟨gx, 1, none⟩ = some (.int .i64 RES.b) ∧ W.cell? ⟨gx, 2, none⟩ = some (.int .i64 RES.c) ∧ W.cell? ⟨gx, 3, none⟩ = some (.int .i64 RES.d) ∧ W.cell? ⟨gx, 4, none⟩ = some (.int .i64 RES.e) ∧ W.cell? ⟨gx, 5, none⟩ = some (.int .i64 RES.f) ∧ W.cell? ⟨w.heap.size, 0, none⟩ = some (.string b.mark) ∧ W.cell? ⟨w.heap.size, 1, none⟩ = some (.int .i64 b.size) ∧ W.cell? ⟨w.heap.size, 2, none⟩ = some (.int .i64 b.count) ∧ W.cell? ⟨w.heap.size, 3, none⟩ = some (.int .i64 b.code) ∧ W.cell? ⟨w.heap.size, 4, none⟩ = some (.slice b.p b.ds.length b.cap) := by
  have C := E.cells
  simp [BC, CF] at C
  simp [C, E]
set_option maxHeartbeats 32000000 in
set_option maxRecDepth 100000 in
theorem paths_v (b : Bar) (w : World) (hk : b.Ok w) (h1 : (decide (b.ds.length ≤ 8) && decide (b.mark.size ≤ 60)) = true) (hv : barB b = true) : Calls Try.prog 4 #[b.val] w fun e w' => e = .returned (.bool true) ∧ Below w.heap.size w w' := by
  have h16 := fun W => Short_any b W
  have h17 := fun W (h : Below w.heap.size w W) => Legs_ok b W (hk.on h) hv
  have h18 := fun W (h : Below w.heap.size w W) => Path_ok b W (hk.on h) hv
  have h19 := fun W (h : Below w.heap.size w W) => Box_ok b W (hk.on h) hv
  have h20 := fun W (h : Below w.heap.size w W) => rValid_any b W (hk.on h)
  have h21 := fun W (h : Below w.heap.size w W) => Valid_any b W (hk.on h)
  have h22 := fun W (h : Below w.heap.size w W) => rLegs_any b W (hk.on h) hv
  have h24 := fun W (h : Below w.heap.size w W) => rPath_any b W (hk.on h) hv
  have n6 := nl_le (barB_and hv).1
  have h12 : ∀ v v' W, Rdz W v (legs b) → Rdz W v' (legs b) → Calls Try.prog 12 #[v, v'] W fun e w' => e = .returned (.bool true) ∧ Below W.heap.size W w' := fun v v' W a c => by
    have := equalz_any v v' _ _ W a c (by rw [legs_len]; omega)
    rw [decide_eq_true rfl] at this; exact this
  have h23 : ∀ v v' W, Rd pc 3 W v (pts b) → Rd pc 3 W v' (pts b) → Calls Try.prog 23 #[v, v'] W fun e w' => e = .returned (.bool true) ∧ Below W.heap.size W w' := fun v v' W a c => by
    have := equalp_any v v' _ _ W a c (by rw [pts_len]; omega)
    rw [decide_eq_true rfl] at this; exact this
  have h25 : ∀ B v W, Own pc 40 3 B W v (pts b) → Calls Try.prog 25 #[v] W fun e w' => e = .returned (hullL ((pts b).map bxp)).val ∧ Below W.heap.size W w' := fun B v W h => by
    obtain ⟨g, cap, rfl, hP⟩ := ownf h (pts_len b)
    exact rHull_any g _ cap _ W (pts_len b) n6 hP
  rw [h1] at h16
  rw [hv] at h20 h21
  have E := (Env.nil w).add w.heap.size 32 b.cs rfl
  clear hk h1 hv n6
  simp only [Bar.val, Bar.cs] at h16 h17 h18 h19 h20 h21 h22 h24 E ⊢
  generalize hullL ((pts b).map bxp) = RES at *
  generalize pts b = PS at *
  generalize legs b = LS at *
  generalize nl b.code = n at *
  generalize mc b.code = m at *
  unfold Bx.val at h19 h25
  have hq := eq42_same RES
  have C := E.cells
  simp [BC, CF] at C
  go_enter Try.func4, Try.ntmps4
  go_upto_region 10 with (first
    | (go_at_call 10; (with_reducible refine (awake_any _).mono ?_); rintro X w1 ⟨rfl, hb⟩; replace E := E.on hb; replace C := E.cells; simp [BC, CF] at C; clear hb)
    | (go_at_call 16; (with_reducible refine (h16 _).mono ?_); rintro X w2 ⟨rfl, hb⟩; replace E := E.on hb; replace C := E.cells; simp [BC, CF] at C; clear hb)
    | (go_at_call 17; (with_reducible refine (h17 _ (envb E)).mono ?_); rintro X w3 ⟨gl, rfl, hR, hb⟩; replace E := E.on hb; replace C := E.cells; simp [BC, CF] at C; clear hb)
    | (go_at_call 18; (with_reducible refine (h18 _ (envb E)).mono ?_); rintro X w3 ⟨vp0, rfl, hO, hb⟩; replace E := E.on hb; replace hR := hR.on hb; replace C := E.cells; simp [BC, CF] at C; clear hb)
    | (go_at_call 19; (with_reducible refine (h19 _ (envb E)).mono ?_); rintro X w5 ⟨rfl, hb⟩; replace hR := (hR.on hb).on (al1 _ (.cells #[.int .i64 RES.a, .int .i64 RES.b, .int .i64 RES.c, .int .i64 RES.d, .int .i64 RES.e, .int .i64 RES.f] 42)); replace hO := (hO.on hb).on (al1 _ (.cells #[.int .i64 RES.a, .int .i64 RES.b, .int .i64 RES.c, .int .i64 RES.d, .int .i64 RES.e, .int .i64 RES.f] 42)); replace E := (E.on hb).add w5.heap.size 42 #[.int .i64 RES.a, .int .i64 RES.b, .int .i64 RES.c, .int .i64 RES.d, .int .i64 RES.e, .int .i64 RES.f] rfl; replace C := E.cells; simp [BC, CF] at C; clear hb)
    | (go_at_call 20; (with_reducible refine (h20 _ (envb E)).mono ?_); rintro X w3 ⟨rfl, hb⟩; replace E := E.on hb; replace hR := hR.on hb; replace hO := hO.on hb; replace C := E.cells; simp [BC, CF] at C; clear hb))
  generalize w5.heap.size = gx at *
  refine wp_region_plan 33 [(0, true), (1, false), (2, true), (3, true), (4, true), (5, true), (6, true), (7, true), (8, true), (9, false), (10, false), (11, true), (12, true), (13, true), (14, true), (15, true), (16, true), (17, true), (18, true), (19, false), (20, false), (21, true), (22, true), (23, true), (24, true), (25, true), (26, true), (27, true), (28, true), (29, false), (30, false), (31, true), (32, true)] (fun W' => Env w W' [⟨gx, 42, #[.int .i64 RES.a, .int .i64 RES.b, .int .i64 RES.c, .int .i64 RES.d, .int .i64 RES.e, .int .i64 RES.f]⟩, ⟨w.heap.size, 32, #[.string b.mark, .int .i64 b.size, .int .i64 b.count, .int .i64 b.code, .slice b.p b.ds.length b.cap]⟩] ∧ W'.cell? ⟨gx, 0, none⟩ = some (.int .i64 RES.a) ∧ W'.cell? ⟨gx, 1, none⟩ = some (.int .i64 RES.b) ∧ W'.cell? ⟨gx, 2, none⟩ = some (.int .i64 RES.c) ∧ W'.cell? ⟨gx, 3, none⟩ = some (.int .i64 RES.d) ∧ W'.cell? ⟨gx, 4, none⟩ = some (.int .i64 RES.e) ∧ W'.cell? ⟨gx, 5, none⟩ = some (.int .i64 RES.f) ∧ W'.cell? ⟨w.heap.size, 0, none⟩ = some (.string b.mark) ∧ W'.cell? ⟨w.heap.size, 1, none⟩ = some (.int .i64 b.size) ∧ W'.cell? ⟨w.heap.size, 2, none⟩ = some (.int .i64 b.count) ∧ W'.cell? ⟨w.heap.size, 3, none⟩ = some (.int .i64 b.code) ∧ W'.cell? ⟨w.heap.size, 4, none⟩ = some (.slice b.p b.ds.length b.cap)) (by kernel_rfl) (by kernel_rfl) (fun _ _ d _ _ h => by cases d <;> exact h) (s_sp E.drw) ?_
  simp only [List.filterMap_cons, List.filterMap_nil, List.getElem?_cons_zero, List.getElem?_cons_succ, Option.map_some, List.drop_succ_cons, List.drop_zero]
  replace E := E.drw
  replace hR := hR.on (below_dr (Below.refl _ _))
  replace hO := hO.on (below_dr (Below.refl _ _))
  iterate 1 (first | (refine wpPlan_still (v := ?_) (Or.inl ⟨by rfl, ?_⟩) ?_; rotate_left; (focus (intro W hW; (try dsimp only at hW); go_split_ands; go_simp; try with_reducible rfl)); try simp only [Act.put, List.setIfInBounds_toArray, List.set_cons_zero, List.set_cons_succ]) | (refine wpPlan_still (Or.inr ⟨by rfl, rfl⟩) ?_; try simp only [Act.put, List.setIfInBounds_toArray, List.set_cons_zero, List.set_cons_succ]))
  refine wpPlan_only (fun K hK => ?_)
  try go_simp
  (go_at_call 21; (with_reducible refine (h21 _ (envb E)).mono ?_); rintro X wp1 ⟨rfl, hb⟩)
  replace E := E.on hb
  replace hR := hR.on hb
  replace hO := hO.on hb
  clear hb
  refine hK.out _ _ (s_sp E) ?_
  clear hK K
  try simp only [Act.put, List.setIfInBounds_toArray, List.set_cons_zero, List.set_cons_succ]
  iterate 7 (first | (refine wpPlan_still (v := ?_) (Or.inl ⟨by rfl, ?_⟩) ?_; rotate_left; (focus (intro W hW; (try dsimp only at hW); go_split_ands; go_simp; try with_reducible rfl)); try simp only [Act.put, List.setIfInBounds_toArray, List.set_cons_zero, List.set_cons_succ]) | (refine wpPlan_still (Or.inr ⟨by rfl, rfl⟩) ?_; try simp only [Act.put, List.setIfInBounds_toArray, List.set_cons_zero, List.set_cons_succ]))
  refine wpPlan_only (fun K hK => ?_)
  try go_simp
  (go_at_call 22; (with_reducible refine (h22 _ (envb E)).mono ?_); rintro X wp1 ⟨vl, rfl, hR2, hb⟩)
  replace E := E.on hb
  replace hR := hR.on hb
  replace hO := hO.on hb
  clear hb
  refine hK.out _ _ (s_sp E) ?_
  clear hK K
  try simp only [Act.put, List.setIfInBounds_toArray, List.set_cons_zero, List.set_cons_succ]
  refine wpPlan_only (fun K hK => ?_)
  try go_simp
  (go_at_call 12; (with_reducible refine (h12 _ _ _ hR hR2).mono ?_); rintro X wp1 ⟨rfl, hb⟩)
  replace E := E.on hb
  replace hO := hO.on hb
  clear hb
  refine hK.out _ _ (s_sp E) ?_
  clear hK K
  try simp only [Act.put, List.setIfInBounds_toArray, List.set_cons_zero, List.set_cons_succ]
  iterate 8 (first | (refine wpPlan_still (v := ?_) (Or.inl ⟨by rfl, ?_⟩) ?_; rotate_left; (focus (intro W hW; (try dsimp only at hW); go_split_ands; go_simp; try with_reducible rfl)); try simp only [Act.put, List.setIfInBounds_toArray, List.set_cons_zero, List.set_cons_succ]) | (refine wpPlan_still (Or.inr ⟨by rfl, rfl⟩) ?_; try simp only [Act.put, List.setIfInBounds_toArray, List.set_cons_zero, List.set_cons_succ]))
  refine wpPlan_only (fun K hK => ?_)
  try go_simp
  (go_at_call 24; (with_reducible refine (h24 _ (envb E)).mono ?_); rintro X wp1 ⟨vp, rfl, hO2, hb⟩)
  replace E := E.on hb
  replace hO := hO.on hb
  clear hb
  refine hK.out _ _ (s_sp E) ?_
  clear hK K
  try simp only [Act.put, List.setIfInBounds_toArray, List.set_cons_zero, List.set_cons_succ]
  refine wpPlan_only (fun K hK => ?_)
  try go_simp
  (go_at_call 23; (with_reducible refine (h23 _ _ _ (Own.rd pl hO) (Own.rd pl hO2)).mono ?_); rintro X wp1 ⟨rfl, hb⟩)
  replace E := E.on hb
  clear hb
  refine hK.out _ _ (s_sp E) ?_
  clear hK K
  try simp only [Act.put, List.setIfInBounds_toArray, List.set_cons_zero, List.set_cons_succ]
  iterate 8 (first | (refine wpPlan_still (v := ?_) (Or.inl ⟨by rfl, ?_⟩) ?_; rotate_left; (focus (intro W hW; (try dsimp only at hW); go_split_ands; go_simp; try with_reducible rfl)); try simp only [Act.put, List.setIfInBounds_toArray, List.set_cons_zero, List.set_cons_succ]) | (refine wpPlan_still (Or.inr ⟨by rfl, rfl⟩) ?_; try simp only [Act.put, List.setIfInBounds_toArray, List.set_cons_zero, List.set_cons_succ]))
  refine wpPlan_only (fun K hK => ?_)
  try go_simp
  (go_at_call 24; (with_reducible refine (h24 _ (envb E)).mono ?_); rintro X wp1 ⟨vq, rfl, hO3, hb⟩)
  replace E := E.on hb
  clear hb
  refine hK.out _ _ (s_sp E) ?_
  clear hK K
  try simp only [Act.put, List.setIfInBounds_toArray, List.set_cons_zero, List.set_cons_succ]
  refine wpPlan_only (fun K hK => ?_)
  try go_simp
  (go_at_call 25; (with_reducible refine (h25 _ _ _ hO3).mono ?_); rintro X wp1 ⟨rfl, hb⟩)
  replace E := E.on hb
  clear hb
  refine hK.out _ _ (s_sp E) ?_
  clear hK K
  try simp only [Act.put, List.setIfInBounds_toArray, List.set_cons_zero, List.set_cons_succ]
  iterate 2 (first | (refine wpPlan_still (v := ?_) (Or.inl ⟨by rfl, ?_⟩) ?_; rotate_left; (focus (intro W hW; (try dsimp only at hW); go_split_ands; go_simp; try with_reducible rfl)); try simp only [Act.put, List.setIfInBounds_toArray, List.set_cons_zero, List.set_cons_succ]) | (refine wpPlan_still (Or.inr ⟨by rfl, rfl⟩) ?_; try simp only [Act.put, List.setIfInBounds_toArray, List.set_cons_zero, List.set_cons_succ]))
  refine wpPlan_end ?_
  go_wp2_with fail
  go_ret
  exact ⟨rfl, envb E⟩
theorem paths_walk (b : Bar) (w : World) (hk : b.Ok w) : Calls Try.prog 4 #[b.val] w fun e w' => e = .returned (.bool true) ∧ Below w.heap.size w w' := by
  cases h1 : (decide (b.ds.length ≤ 8) && decide (b.mark.size ≤ 60))
  · exact paths_s b w hk h1
  cases hv : barB b
  · exact paths_n b w hk h1 hv
  · exact paths_v b w hk h1 hv
end Go.Proofs.Ytcadghenjcaaiaa
