/- Images of the reference; turns one after another; points that are near. -/
import Derived.Test.YtmfclelnaceonaaC
namespace Go.Proofs.Ytmfclelnaceonaa
open Go.ChangeShapes Go.WideShapes Go.ChangeAt Go.RowKit
set_option linter.unusedVariables false
set_option linter.unusedSimpArgs false

theorem s_a5 {w0 w : World} {g0 g1 g3 : Nat} {a0_0 a0_1 a0_2 a1_0 a1_1 a1_2 a3_0 a3_1 a3_2 : Value} {c2 : Fb} {l : List Fb} (E : Env w0 w (⟨g0, 37, #[a0_0, a0_1, a0_2]⟩ :: ⟨g1, 37, #[a1_0, a1_1, a1_2]⟩ :: c2 :: ⟨g3, 37, #[a3_0, a3_1, a3_2]⟩ :: l)) : Env w0 w (⟨g0, 37, #[a0_0, a0_1, a0_2]⟩ :: ⟨g1, 37, #[a1_0, a1_1, a1_2]⟩ :: c2 :: ⟨g3, 37, #[a3_0, a3_1, a3_2]⟩ :: l) ∧ w.cell? ⟨g0, 0, none⟩ = some a0_0 ∧ w.cell? ⟨g0, 1, none⟩ = some a0_1 ∧ w.cell? ⟨g0, 2, none⟩ = some a0_2 ∧ w.cell? ⟨g1, 0, none⟩ = some a1_0 ∧ w.cell? ⟨g1, 1, none⟩ = some a1_1 ∧ w.cell? ⟨g1, 2, none⟩ = some a1_2 ∧ w.cell? ⟨g3, 0, none⟩ = some a3_0 ∧ w.cell? ⟨g3, 1, none⟩ = some a3_1 ∧ w.cell? ⟨g3, 2, none⟩ = some a3_2 := by
  have C := E.cells
  simp [BC, CF] at C
  exact ⟨E, C.1.2.1.1, C.1.2.2.1.1, C.1.2.2.2.1, C.2.1.2.1.1, C.2.1.2.2.1.1, C.2.1.2.2.2.1, C.2.2.2.1.2.1.1, C.2.2.2.1.2.2.1.1, C.2.2.2.1.2.2.2.1⟩
theorem s_t2 {w0 w : World} {g0 g1 : Nat} {a0_0 a0_1 a1_0 a1_1 : Value} {l : List Fb} (E : Env w0 w (⟨g0, 23, #[a0_0, a0_1]⟩ :: ⟨g1, 23, #[a1_0, a1_1]⟩ :: l)) : Env w0 w (⟨g0, 23, #[a0_0, a0_1]⟩ :: ⟨g1, 23, #[a1_0, a1_1]⟩ :: l) ∧ w.cell? ⟨g0, 0, none⟩ = some a0_0 ∧ w.cell? ⟨g0, 1, none⟩ = some a0_1 ∧ w.cell? ⟨g1, 0, none⟩ = some a1_0 ∧ w.cell? ⟨g1, 1, none⟩ = some a1_1 := by
  have C := E.cells
  simp [BC, CF] at C
  exact ⟨E, C.1.2.1.1, C.1.2.2.1, C.2.1.2.1.1, C.2.1.2.2.1⟩
theorem s_c2 {w0 w : World} {g1 g2 : Nat} {a1_0 a1_1 a2_0 a2_1 : Value} {c0 : Fb} (E : Env w0 w (c0 :: ⟨g1, 23, #[a1_0, a1_1]⟩ :: ⟨g2, 23, #[a2_0, a2_1]⟩ :: [])) : Env w0 w (c0 :: ⟨g1, 23, #[a1_0, a1_1]⟩ :: ⟨g2, 23, #[a2_0, a2_1]⟩ :: []) ∧ w.cell? ⟨g1, 0, none⟩ = some a1_0 ∧ w.cell? ⟨g1, 1, none⟩ = some a1_1 ∧ w.cell? ⟨g2, 0, none⟩ = some a2_0 ∧ w.cell? ⟨g2, 1, none⟩ = some a2_1 := by
  have C := E.cells
  simp [BC, CF] at C
  exact ⟨E, C.2.1.2.1.1, C.2.1.2.2.1, C.2.2.2.1.1, C.2.2.2.2.1⟩
theorem s_p2 {w0 w : World} {g0 g1 : Nat} {a0_0 a0_1 a0_2 a1_0 a1_1 a1_2 : Value} (E : Env w0 w (⟨g0, 37, #[a0_0, a0_1, a0_2]⟩ :: ⟨g1, 37, #[a1_0, a1_1, a1_2]⟩ :: [])) : Env w0 w (⟨g0, 37, #[a0_0, a0_1, a0_2]⟩ :: ⟨g1, 37, #[a1_0, a1_1, a1_2]⟩ :: []) ∧ w.cell? ⟨g0, 0, none⟩ = some a0_0 ∧ w.cell? ⟨g0, 1, none⟩ = some a0_1 ∧ w.cell? ⟨g0, 2, none⟩ = some a0_2 ∧ w.cell? ⟨g1, 0, none⟩ = some a1_0 ∧ w.cell? ⟨g1, 1, none⟩ = some a1_1 ∧ w.cell? ⟨g1, 2, none⟩ = some a1_2 := by
  have C := E.cells
  simp [BC, CF] at C
  exact ⟨E, C.1.2.1.1, C.1.2.2.1.1, C.1.2.2.2.1, C.2.2.1.1, C.2.2.2.1.1, C.2.2.2.2.1⟩
theorem ne37 (x y : Pt) (W : World) : (binOp .neq 37 x.val y.val).run Try.prog W = .ok (.bool (!decide (x = y))) W := by
  unfold Pt.val
  rw [run_neq_struct, run_equalIn_agg (ht := by kernel_rfl) (hp := by kernel_rfl)]
  simp [go_sem, Program.fieldsOf, Try.underlying37]
  obtain ⟨a, b, c⟩ := x
  obtain ⟨a', b', c'⟩ := y
  simp only [Pt.mk.injEq]
  by_cases h1 : a = a' <;> by_cases h2 : b = b' <;> by_cases h3 : c = c' <;> simp [h1, h2, h3]
theorem eq37 (x y : Pt) (W : World) : (binOp .eql 37 x.val y.val).run Try.prog W = .ok (.bool (decide (x = y))) W := by
  unfold Pt.val
  rw [run_eql_struct, run_equalIn_agg (ht := by kernel_rfl) (hp := by kernel_rfl)]
  simp [go_sem, Program.fieldsOf, Try.underlying37]
  obtain ⟨a, b, c⟩ := x
  obtain ⟨a', b', c'⟩ := y
  simp only [Pt.mk.injEq]
  by_cases h1 : a = a' <;> by_cases h2 : b = b' <;> by_cases h3 : c = c' <;> simp [h1, h2, h3]
set_option maxHeartbeats 8000000 in
set_option maxRecDepth 100000 in
theorem image_24 (t : Tn) (p : Pt) (w : World) (ht : vT t = true) (hp : p.bd 4194304) : Calls Try.prog 24 #[t.val, p.val] w fun e w' => e = .returned (img t p).val ∧ Below w.heap.size w w' := by
  obtain ⟨hx, hy⟩ := vT_ax ht
  have hu := fun W => unit_42 t.x hx W
  have hv := fun W => unit_42 t.y hy W
  have bu := U_bd hx
  have bv := U_bd hy
  have bc := cr_bd bu bv
  obtain ⟨⟨u0, u1, u2⟩, eu⟩ : ∃ q, Hid (U t.x = q) := ⟨_, Lib.hid rfl⟩
  obtain ⟨⟨v0, v1, v2⟩, ev⟩ : ∃ q, Hid (U t.y = q) := ⟨_, Lib.hid rfl⟩
  have HI : Hid (img t p = ad (sc (U t.x) p.x) (ad (sc (U t.y) p.y) (sc (cr (U t.x) (U t.y)) p.z))) := Lib.hid (by simp only [img, ad, Pt.mk.injEq]; omega)
  rw [eu.out, ev.out] at HI
  rw [eu.out] at hu bu bc
  rw [ev.out] at hv bv bc
  rw [HI.out]
  obtain ⟨p, q, r⟩ := p
  obtain ⟨x, y⟩ := t
  clear HI eu ev ht hx hy
  dsimp only [Tn.val, Pt.val, Pt.bd] at hp hu hv ⊢
  obtain ⟨hp0, hp1, hp2⟩ := hp
  have k1 := sc_bd bu (n := p) (B := 4194304) hp0
  have k2 := sc_bd bv (n := q) (B := 4194304) hp1
  have k3 := sc_bd bc (n := r) (B := 4194304) hp2
  have n1 := ad_bd k2 k3
  have n2 := ad_bd k1 n1
  have o1 := bd_ok k1 (by decide)
  have o2 := bd_ok k2 (by decide)
  have o3 := bd_ok k3 (by decide)
  have o4 := bd_ok n1 (by decide)
  have o5 := bd_ok n2 (by decide)
  simp only [sc, cr, ad] at o1 o2 o3 o4 o5 ⊢
  clear k1 k2 k3 n1 n2
  rw [Int.mul_comm u0 p, Int.mul_comm u1 p, Int.mul_comm u2 p] at *
  rw [Int.mul_comm v0 q, Int.mul_comm v1 q, Int.mul_comm v2 q] at *
  rw [Int.mul_comm _ r, Int.mul_comm _ r, Int.mul_comm _ r] at *
  have h1 := fun W => times_51 u0 u1 u2 p o1.1 o1.2.1 o1.2.2 W
  have h2 := fun W => times_51 v0 v1 v2 q o2.1 o2.2.1 o2.2.2 W
  have h3 := fun W => cross_52 u0 u1 u2 v0 v1 v2 bu bv W
  have h4 := fun W => times_51 (u1 * v2 - u2 * v1) (u2 * v0 - u0 * v2) (u0 * v1 - u1 * v0) r o3.1 o3.2.1 o3.2.2 W
  have h5 := fun W => plus_49 _ _ _ _ _ _ o4.1 o4.2.1 o4.2.2 W
  have h6 := fun W => plus_49 _ _ _ _ _ _ o5.1 o5.2.1 o5.2.2 W
  clear o1 o2 o3 o4 o5 bu bv bc hp0 hp1 hp2
  unfold pv Pt.val at *
  have E := (((Env.nil w).add w.heap.size 23 #[.int .i64 x, .int .i64 y] rfl).add (w.heap.size + 1) 37 #[.int .i64 p, .int .i64 q, .int .i64 r] (by simp)).add (w.heap.size + 2) 37 #[.int .i64 0, .int .i64 0, .int .i64 0] (by simp)
  have C := E.cells
  simp [BC, CF] at C
  go_enter Try.func24, Try.ntmps24
  go_upto_region 2 with (go_at_call 42; (with_reducible refine (hu _).mono ?_); rintro X wa ⟨rfl, hb⟩; replace E := E.on hb; clear hb; replace C := E.cells; simp [BC, CF] at C)
  replace E := E.add _ 37 #[.int .i64 u0, .int .i64 u1, .int .i64 u2] rfl
  replace C := E.cells
  simp [BC, CF] at C
  go_upto_region 3 with (go_at_call 42; (with_reducible refine (hv _).mono ?_); rintro X wb ⟨rfl, hb⟩; replace E := E.on hb; clear hb; replace C := E.cells; simp [BC, CF] at C)
  replace E := E.add _ 37 #[.int .i64 v0, .int .i64 v1, .int .i64 v2] rfl
  replace C := E.cells
  simp [BC, CF] at C
  refine wp_region_plan 16 [(0, true), (1, true), (2, true), (4, true), (5, true), (6, true), (8, true), (9, true), (10, true), (11, true), (3, false), (7, false), (12, false), (13, false), (14, false), (15, false)] (fun W' => Env w W' [⟨wb.heap.size, 37, #[.int .i64 v0, .int .i64 v1, .int .i64 v2]⟩, ⟨wa.heap.size, 37, #[.int .i64 u0, .int .i64 u1, .int .i64 u2]⟩, ⟨w.heap.size + 2, 37, #[.int .i64 0, .int .i64 0, .int .i64 0]⟩, ⟨w.heap.size + 1, 37, #[.int .i64 p, .int .i64 q, .int .i64 r]⟩, ⟨w.heap.size, 23, #[.int .i64 x, .int .i64 y]⟩] ∧ W'.cell? ⟨wb.heap.size, 0, none⟩ = some (.int .i64 v0) ∧ W'.cell? ⟨wb.heap.size, 1, none⟩ = some (.int .i64 v1) ∧ W'.cell? ⟨wb.heap.size, 2, none⟩ = some (.int .i64 v2) ∧ W'.cell? ⟨wa.heap.size, 0, none⟩ = some (.int .i64 u0) ∧ W'.cell? ⟨wa.heap.size, 1, none⟩ = some (.int .i64 u1) ∧ W'.cell? ⟨wa.heap.size, 2, none⟩ = some (.int .i64 u2) ∧ W'.cell? ⟨w.heap.size + 1, 0, none⟩ = some (.int .i64 p) ∧ W'.cell? ⟨w.heap.size + 1, 1, none⟩ = some (.int .i64 q) ∧ W'.cell? ⟨w.heap.size + 1, 2, none⟩ = some (.int .i64 r)) (by kernel_rfl) (by kernel_rfl) (fun _ _ d _ _ h => by cases d <;> exact h) (s_a5 E.drw) ?_
  simp only [List.filterMap_cons, List.filterMap_nil, List.getElem?_cons_zero, List.getElem?_cons_succ, Option.map_some, List.drop_succ_cons, List.drop_zero]
  replace E := E.drw
  iterate 10 (first | (refine wpPlan_still (v := ?_) (Or.inl ⟨by rfl, ?_⟩) ?_; rotate_left; (focus (intro W hW; (try dsimp only at hW); go_split_ands; go_simp; try with_reducible rfl)); try simp only [Act.put, List.setIfInBounds_toArray, List.set_cons_zero, List.set_cons_succ]) | (refine wpPlan_still (Or.inr ⟨by rfl, rfl⟩) ?_; try simp only [Act.put, List.setIfInBounds_toArray, List.set_cons_zero, List.set_cons_succ]))
  refine wpPlan_only (fun K hK => ?_)
  try go_simp
  (go_at_call 51; (with_reducible refine (h1 _).mono ?_); rintro X wq ⟨rfl, hb⟩)
  replace E := E.on hb
  clear hb
  refine hK.out _ _ (s_a5 E) ?_
  clear hK K
  try simp only [Act.put, List.setIfInBounds_toArray, List.set_cons_zero, List.set_cons_succ]
  refine wpPlan_only (fun K hK => ?_)
  try go_simp
  (go_at_call 51; (with_reducible refine (h2 _).mono ?_); rintro X wq ⟨rfl, hb⟩)
  replace E := E.on hb
  clear hb
  refine hK.out _ _ (s_a5 E) ?_
  clear hK K
  try simp only [Act.put, List.setIfInBounds_toArray, List.set_cons_zero, List.set_cons_succ]
  refine wpPlan_only (fun K hK => ?_)
  try go_simp
  (go_at_call 52; (with_reducible refine (h3 _).mono ?_); rintro X wq ⟨rfl, hb⟩)
  replace E := E.on hb
  clear hb
  refine hK.out _ _ (s_a5 E) ?_
  clear hK K
  try simp only [Act.put, List.setIfInBounds_toArray, List.set_cons_zero, List.set_cons_succ]
  refine wpPlan_only (fun K hK => ?_)
  try go_simp
  (go_at_call 51; (with_reducible refine (h4 _).mono ?_); rintro X wq ⟨rfl, hb⟩)
  replace E := E.on hb
  clear hb
  refine hK.out _ _ (s_a5 E) ?_
  clear hK K
  try simp only [Act.put, List.setIfInBounds_toArray, List.set_cons_zero, List.set_cons_succ]
  refine wpPlan_only (fun K hK => ?_)
  try go_simp
  (go_at_call 49; (with_reducible refine (h5 _).mono ?_); rintro X wq ⟨rfl, hb⟩)
  replace E := E.on hb
  clear hb
  refine hK.out _ _ (s_a5 E) ?_
  clear hK K
  try simp only [Act.put, List.setIfInBounds_toArray, List.set_cons_zero, List.set_cons_succ]
  refine wpPlan_only (fun K hK => ?_)
  try go_simp
  (go_at_call 49; (with_reducible refine (h6 _).mono ?_); rintro X wq ⟨rfl, hb⟩)
  replace E := E.on hb
  clear hb
  refine hK.out _ _ (s_a5 E) ?_
  clear hK K
  try simp only [Act.put, List.setIfInBounds_toArray, List.set_cons_zero, List.set_cons_succ]
  refine wpPlan_end ?_
  replace C := E.cells
  simp [BC, CF] at C
  go_wp2
  exact bodyPost_ret (v := pv _ _ _) (by simp [results, Try.results24, go_sem, pv, *] <;> rfl) rfl ⟨rfl, envb (E.three _ _ _ 2 rfl)⟩
set_option maxHeartbeats 8000000 in
set_option maxRecDepth 100000 in
theorem then_37 (a b : Tn) (w : World) (ha : vT a = true) (hb : vT b = true) : Calls Try.prog 37 #[a.val, b.val] w fun e w' => e = .returned (aft a b).val ∧ Below w.heap.size w w' := by
  obtain ⟨hx, hy⟩ := vT_ax ha
  have h1 := fun W => unit_58 a.x hx W
  have h2 := fun W => unit_58 a.y hy W
  have b1 := bd_mono (U_bd hx) (B := 4194304) (by decide)
  have b2 := bd_mono (U_bd hy) (B := 4194304) (by decide)
  have h3 := fun W => image_44 b (U a.x) W hb b1
  have h4 := fun W => image_44 b (U a.y) W hb b2
  have h5 := fun W => num_57 (img b (U a.x)).x (img b (U a.x)).y (img b (U a.x)).z (img_bd hb b1) W
  have h6 := fun W => num_57 (img b (U a.y)).x (img b (U a.y)).y (img b (U a.y)).z (img_bd hb b2) W
  have HR : Hid ((aft a b).val = tv (axn (img b (U a.x))) (axn (img b (U a.y)))) := Lib.hid rfl
  rw [HR.out]
  clear b1 b2 hx hy ha hb HR
  unfold axn
  generalize img b (U a.x) = P at *
  generalize img b (U a.y) = R at *
  generalize U a.x = ux at *
  generalize U a.y = uy at *
  obtain ⟨ax, ay⟩ := a
  obtain ⟨bx, b_y⟩ := b
  obtain ⟨u0, u1, u2⟩ := ux
  obtain ⟨v0, v1, v2⟩ := uy
  obtain ⟨p0, p1, p2⟩ := P
  obtain ⟨q0, q1, q2⟩ := R
  unfold tv Tn.val Pt.val at *
  dsimp only at h1 h2 h3 h4 h5 h6 ⊢
  have E := (((Env.nil w).add w.heap.size 23 #[.int .i64 ax, .int .i64 ay] rfl).add (w.heap.size + 1) 23 #[.int .i64 bx, .int .i64 b_y] (by simp)).add (w.heap.size + 2) 23 #[.int .i64 0, .int .i64 0] (by simp)
  have C := E.cells
  simp [BC, CF] at C
  go_enter Try.func37, Try.ntmps37
  go_upto_region 1 with fail
  refine wp_region_plan 13 [(0, true), (1, true), (2, true), (6, true), (7, true), (8, true), (3, false), (4, false), (5, false), (9, false), (10, false), (11, false), (12, true)] (fun W' => Env w W' [⟨w.heap.size + 2, 23, #[.int .i64 0, .int .i64 0]⟩, ⟨w.heap.size + 1, 23, #[.int .i64 bx, .int .i64 b_y]⟩, ⟨w.heap.size, 23, #[.int .i64 ax, .int .i64 ay]⟩] ∧ W'.cell? ⟨w.heap.size + 1, 0, none⟩ = some (.int .i64 bx) ∧ W'.cell? ⟨w.heap.size + 1, 1, none⟩ = some (.int .i64 b_y) ∧ W'.cell? ⟨w.heap.size, 0, none⟩ = some (.int .i64 ax) ∧ W'.cell? ⟨w.heap.size, 1, none⟩ = some (.int .i64 ay)) (by kernel_rfl) (by kernel_rfl) (fun _ _ d _ _ h => by cases d <;> exact h) (s_c2 E.drw) ?_
  simp only [List.filterMap_cons, List.filterMap_nil, List.getElem?_cons_zero, List.getElem?_cons_succ, Option.map_some, List.drop_succ_cons, List.drop_zero]
  replace E := E.drw
  iterate 6 (first | (refine wpPlan_still (v := ?_) (Or.inl ⟨by rfl, ?_⟩) ?_; rotate_left; (focus (intro W hW; (try dsimp only at hW); go_split_ands; go_simp; try with_reducible rfl)); try simp only [Act.put, List.setIfInBounds_toArray, List.set_cons_zero, List.set_cons_succ]) | (refine wpPlan_still (Or.inr ⟨by rfl, rfl⟩) ?_; try simp only [Act.put, List.setIfInBounds_toArray, List.set_cons_zero, List.set_cons_succ]))
  refine wpPlan_only (fun K hK => ?_)
  try go_simp
  (go_at_call 58; (with_reducible refine (h1 _).mono ?_); rintro X wq ⟨rfl, hb⟩)
  replace E := E.on hb
  clear hb
  refine hK.out _ _ (s_c2 E) ?_
  clear hK K
  try simp only [Act.put, List.setIfInBounds_toArray, List.set_cons_zero, List.set_cons_succ]
  refine wpPlan_only (fun K hK => ?_)
  try go_simp
  (go_at_call 44; (with_reducible refine (h3 _).mono ?_); rintro X wq ⟨rfl, hb⟩)
  replace E := E.on hb
  clear hb
  refine hK.out _ _ (s_c2 E) ?_
  clear hK K
  try simp only [Act.put, List.setIfInBounds_toArray, List.set_cons_zero, List.set_cons_succ]
  refine wpPlan_only (fun K hK => ?_)
  try go_simp
  (go_at_call 57; (with_reducible refine (h5 _).mono ?_); rintro X wq ⟨rfl, hb⟩)
  replace E := E.on hb
  clear hb
  refine hK.out _ _ (s_c2 E) ?_
  clear hK K
  try simp only [Act.put, List.setIfInBounds_toArray, List.set_cons_zero, List.set_cons_succ]
  refine wpPlan_only (fun K hK => ?_)
  try go_simp
  (go_at_call 58; (with_reducible refine (h2 _).mono ?_); rintro X wq ⟨rfl, hb⟩)
  replace E := E.on hb
  clear hb
  refine hK.out _ _ (s_c2 E) ?_
  clear hK K
  try simp only [Act.put, List.setIfInBounds_toArray, List.set_cons_zero, List.set_cons_succ]
  refine wpPlan_only (fun K hK => ?_)
  try go_simp
  (go_at_call 44; (with_reducible refine (h4 _).mono ?_); rintro X wq ⟨rfl, hb⟩)
  replace E := E.on hb
  clear hb
  refine hK.out _ _ (s_c2 E) ?_
  clear hK K
  try simp only [Act.put, List.setIfInBounds_toArray, List.set_cons_zero, List.set_cons_succ]
  refine wpPlan_only (fun K hK => ?_)
  try go_simp
  (go_at_call 57; (with_reducible refine (h6 _).mono ?_); rintro X wq ⟨rfl, hb⟩)
  replace E := E.on hb
  clear hb
  refine hK.out _ _ (s_c2 E) ?_
  clear hK K
  try simp only [Act.put, List.setIfInBounds_toArray, List.set_cons_zero, List.set_cons_succ]
  iterate 1 (first | (refine wpPlan_still (v := ?_) (Or.inl ⟨by rfl, ?_⟩) ?_; rotate_left; (focus (intro W hW; (try dsimp only at hW); go_split_ands; go_simp; try with_reducible rfl)); try simp only [Act.put, List.setIfInBounds_toArray, List.set_cons_zero, List.set_cons_succ]) | (refine wpPlan_still (Or.inr ⟨by rfl, rfl⟩) ?_; try simp only [Act.put, List.setIfInBounds_toArray, List.set_cons_zero, List.set_cons_succ]))
  refine wpPlan_end ?_
  replace C := E.cells
  simp [BC, CF] at C
  go_wp2
  exact bodyPost_ret (v := tv _ _) (by simp [results, Try.results37, go_sem, tv, *] <;> rfl) rfl ⟨rfl, envb (E.two _ _ 0 rfl)⟩
set_option maxHeartbeats 8000000 in
set_option maxRecDepth 100000 in
theorem then_19 (a b : Tn) (w : World) (ha : vT a = true) (hb : vT b = true) : Calls Try.prog 19 #[a.val, b.val] w fun e w' => e = .returned (aft a b).val ∧ Below w.heap.size w w' := by
  obtain ⟨hx, hy⟩ := vT_ax ha
  have h1 := fun W => unit_42 a.x hx W
  have h2 := fun W => unit_42 a.y hy W
  have b1 := bd_mono (U_bd hx) (B := 4194304) (by decide)
  have b2 := bd_mono (U_bd hy) (B := 4194304) (by decide)
  have h3 := fun W => image_24 b (U a.x) W hb b1
  have h4 := fun W => image_24 b (U a.y) W hb b2
  have h5 := fun W => num_41 (img b (U a.x)).x (img b (U a.x)).y (img b (U a.x)).z (img_bd hb b1) W
  have h6 := fun W => num_41 (img b (U a.y)).x (img b (U a.y)).y (img b (U a.y)).z (img_bd hb b2) W
  have HR : Hid ((aft a b).val = tv (axn (img b (U a.x))) (axn (img b (U a.y)))) := Lib.hid rfl
  rw [HR.out]
  clear b1 b2 hx hy ha hb HR
  unfold axn
  generalize img b (U a.x) = P at *
  generalize img b (U a.y) = R at *
  generalize U a.x = ux at *
  generalize U a.y = uy at *
  obtain ⟨ax, ay⟩ := a
  obtain ⟨bx, b_y⟩ := b
  obtain ⟨u0, u1, u2⟩ := ux
  obtain ⟨v0, v1, v2⟩ := uy
  obtain ⟨p0, p1, p2⟩ := P
  obtain ⟨q0, q1, q2⟩ := R
  unfold tv Tn.val Pt.val at *
  dsimp only at h1 h2 h3 h4 h5 h6 ⊢
  have E := (((Env.nil w).add w.heap.size 23 #[.int .i64 ax, .int .i64 ay] rfl).add (w.heap.size + 1) 23 #[.int .i64 bx, .int .i64 b_y] (by simp)).add (w.heap.size + 2) 23 #[.int .i64 0, .int .i64 0] (by simp)
  have C := E.cells
  simp [BC, CF] at C
  go_enter Try.func19, Try.ntmps19
  go_upto_region 1 with fail
  refine wp_region_plan 13 [(0, true), (1, true), (2, true), (6, true), (7, true), (8, true), (3, false), (4, false), (5, false), (9, false), (10, false), (11, false), (12, true)] (fun W' => Env w W' [⟨w.heap.size + 2, 23, #[.int .i64 0, .int .i64 0]⟩, ⟨w.heap.size + 1, 23, #[.int .i64 bx, .int .i64 b_y]⟩, ⟨w.heap.size, 23, #[.int .i64 ax, .int .i64 ay]⟩] ∧ W'.cell? ⟨w.heap.size + 1, 0, none⟩ = some (.int .i64 bx) ∧ W'.cell? ⟨w.heap.size + 1, 1, none⟩ = some (.int .i64 b_y) ∧ W'.cell? ⟨w.heap.size, 0, none⟩ = some (.int .i64 ax) ∧ W'.cell? ⟨w.heap.size, 1, none⟩ = some (.int .i64 ay)) (by kernel_rfl) (by kernel_rfl) (fun _ _ d _ _ h => by cases d <;> exact h) (s_c2 E.drw) ?_
  simp only [List.filterMap_cons, List.filterMap_nil, List.getElem?_cons_zero, List.getElem?_cons_succ, Option.map_some, List.drop_succ_cons, List.drop_zero]
  replace E := E.drw
  iterate 6 (first | (refine wpPlan_still (v := ?_) (Or.inl ⟨by rfl, ?_⟩) ?_; rotate_left; (focus (intro W hW; (try dsimp only at hW); go_split_ands; go_simp; try with_reducible rfl)); try simp only [Act.put, List.setIfInBounds_toArray, List.set_cons_zero, List.set_cons_succ]) | (refine wpPlan_still (Or.inr ⟨by rfl, rfl⟩) ?_; try simp only [Act.put, List.setIfInBounds_toArray, List.set_cons_zero, List.set_cons_succ]))
  refine wpPlan_only (fun K hK => ?_)
  try go_simp
  (go_at_call 42; (with_reducible refine (h1 _).mono ?_); rintro X wq ⟨rfl, hb⟩)
  replace E := E.on hb
  clear hb
  refine hK.out _ _ (s_c2 E) ?_
  clear hK K
  try simp only [Act.put, List.setIfInBounds_toArray, List.set_cons_zero, List.set_cons_succ]
  refine wpPlan_only (fun K hK => ?_)
  try go_simp
  (go_at_call 24; (with_reducible refine (h3 _).mono ?_); rintro X wq ⟨rfl, hb⟩)
  replace E := E.on hb
  clear hb
  refine hK.out _ _ (s_c2 E) ?_
  clear hK K
  try simp only [Act.put, List.setIfInBounds_toArray, List.set_cons_zero, List.set_cons_succ]
  refine wpPlan_only (fun K hK => ?_)
  try go_simp
  (go_at_call 41; (with_reducible refine (h5 _).mono ?_); rintro X wq ⟨rfl, hb⟩)
  replace E := E.on hb
  clear hb
  refine hK.out _ _ (s_c2 E) ?_
  clear hK K
  try simp only [Act.put, List.setIfInBounds_toArray, List.set_cons_zero, List.set_cons_succ]
  refine wpPlan_only (fun K hK => ?_)
  try go_simp
  (go_at_call 42; (with_reducible refine (h2 _).mono ?_); rintro X wq ⟨rfl, hb⟩)
  replace E := E.on hb
  clear hb
  refine hK.out _ _ (s_c2 E) ?_
  clear hK K
  try simp only [Act.put, List.setIfInBounds_toArray, List.set_cons_zero, List.set_cons_succ]
  refine wpPlan_only (fun K hK => ?_)
  try go_simp
  (go_at_call 24; (with_reducible refine (h4 _).mono ?_); rintro X wq ⟨rfl, hb⟩)
  replace E := E.on hb
  clear hb
  refine hK.out _ _ (s_c2 E) ?_
  clear hK K
  try simp only [Act.put, List.setIfInBounds_toArray, List.set_cons_zero, List.set_cons_succ]
  refine wpPlan_only (fun K hK => ?_)
  try go_simp
  (go_at_call 41; (with_reducible refine (h6 _).mono ?_); rintro X wq ⟨rfl, hb⟩)
  replace E := E.on hb
  clear hb
  refine hK.out _ _ (s_c2 E) ?_
  clear hK K
  try simp only [Act.put, List.setIfInBounds_toArray, List.set_cons_zero, List.set_cons_succ]
  iterate 1 (first | (refine wpPlan_still (v := ?_) (Or.inl ⟨by rfl, ?_⟩) ?_; rotate_left; (focus (intro W hW; (try dsimp only at hW); go_split_ands; go_simp; try with_reducible rfl)); try simp only [Act.put, List.setIfInBounds_toArray, List.set_cons_zero, List.set_cons_succ]) | (refine wpPlan_still (Or.inr ⟨by rfl, rfl⟩) ?_; try simp only [Act.put, List.setIfInBounds_toArray, List.set_cons_zero, List.set_cons_succ]))
  refine wpPlan_end ?_
  replace C := E.cells
  simp [BC, CF] at C
  go_wp2
  exact bodyPost_ret (v := tv _ _) (by simp [results, Try.results19, go_sem, tv, *] <;> rfl) rfl ⟨rfl, envb (E.two _ _ 0 rfl)⟩
end Go.Proofs.Ytmfclelnaceonaa
