/- FrameKeeps: the walk. -/
import Derived.Test.YtmfclelnaceonaaU
namespace Go.Proofs.Ytmfclelnaceonaa
open Go.ChangeShapes Go.WideShapes Go.ChangeAt Go.RowKit
set_option linter.unusedVariables false
set_option linter.unusedSimpArgs false

theorem mx3 (x y z V : Int) (w : World) (h : (if z > (if y > x then y else x) then z else (if y > x then y else x)) = V) : (Builtin.max_ #[3, 3, 3] 3 #[.int .i64 x, .int .i64 y, .int .i64 z]).run Try.prog w = .ok (.int .i64 V) w := by
  rw [← h]; simp [Builtin.max_, Builtin.max2]
theorem mn3 (x y z V : Int) (w : World) (h : (if z < (if y < x then y else x) then z else (if y < x then y else x)) = V) : (Builtin.min_ #[3, 3, 3] 3 #[.int .i64 x, .int .i64 y, .int .i64 z]).run Try.prog w = .ok (.int .i64 V) w := by
  rw [← h]; simp [Builtin.min_, Builtin.min2]
theorem s_k7 {w0 w : World} {g0 g1 g2 g3 g4 g5 g6 : Nat} {a0_0 a0_1 a0_2 a1_0 a1_1 a1_2 a2_0 a2_1 a2_2 a3_0 a3_1 a3_2 a4_0 a4_1 a4_2 a5_0 a5_1 a5_2 a6_0 a6_1 : Value} (E : Env w0 w (⟨g0, 37, #[a0_0, a0_1, a0_2]⟩ :: ⟨g1, 37, #[a1_0, a1_1, a1_2]⟩ :: ⟨g2, 37, #[a2_0, a2_1, a2_2]⟩ :: ⟨g3, 37, #[a3_0, a3_1, a3_2]⟩ :: ⟨g4, 37, #[a4_0, a4_1, a4_2]⟩ :: ⟨g5, 37, #[a5_0, a5_1, a5_2]⟩ :: ⟨g6, 23, #[a6_0, a6_1]⟩ :: [])) : Env w0 w (⟨g0, 37, #[a0_0, a0_1, a0_2]⟩ :: ⟨g1, 37, #[a1_0, a1_1, a1_2]⟩ :: ⟨g2, 37, #[a2_0, a2_1, a2_2]⟩ :: ⟨g3, 37, #[a3_0, a3_1, a3_2]⟩ :: ⟨g4, 37, #[a4_0, a4_1, a4_2]⟩ :: ⟨g5, 37, #[a5_0, a5_1, a5_2]⟩ :: ⟨g6, 23, #[a6_0, a6_1]⟩ :: []) ∧ w.cell? ⟨g1, 0, none⟩ = some a1_0 ∧ w.cell? ⟨g1, 1, none⟩ = some a1_1 ∧ w.cell? ⟨g1, 2, none⟩ = some a1_2 ∧ w.cell? ⟨g2, 0, none⟩ = some a2_0 ∧ w.cell? ⟨g2, 1, none⟩ = some a2_1 ∧ w.cell? ⟨g2, 2, none⟩ = some a2_2 ∧ w.cell? ⟨g4, 0, none⟩ = some a4_0 ∧ w.cell? ⟨g4, 1, none⟩ = some a4_1 ∧ w.cell? ⟨g4, 2, none⟩ = some a4_2 ∧ w.cell? ⟨g5, 0, none⟩ = some a5_0 ∧ w.cell? ⟨g5, 1, none⟩ = some a5_1 ∧ w.cell? ⟨g5, 2, none⟩ = some a5_2 := by
  have C := E.cells
  simp [BC, CF] at C
  exact ⟨E, C.2.1.2.1.1, C.2.1.2.2.1.1, C.2.1.2.2.2.1, C.2.2.1.2.1.1, C.2.2.1.2.2.1.1, C.2.2.1.2.2.2.1, C.2.2.2.2.1.2.1.1, C.2.2.2.2.1.2.2.1.1, C.2.2.2.2.1.2.2.2.1, C.2.2.2.2.2.1.2.1.1, C.2.2.2.2.2.1.2.2.1.1, C.2.2.2.2.2.1.2.2.2.1⟩
theorem s_k8 {w0 w : World} {g0 g1 g2 g3 g4 g5 g6 g7 : Nat} {a0_0 a0_1 a0_2 a0_3 a0_4 a0_5 a0_6 a0_7 a0_8 a1_0 a1_1 a1_2 a2_0 a2_1 a2_2 a3_0 a3_1 a3_2 a4_0 a4_1 a4_2 a5_0 a5_1 a5_2 a6_0 a6_1 a6_2 a7_0 a7_1 : Value} (E : Env w0 w (⟨g0, 37, #[a0_0, a0_1, a0_2, a0_3, a0_4, a0_5, a0_6, a0_7, a0_8]⟩ :: ⟨g1, 37, #[a1_0, a1_1, a1_2]⟩ :: ⟨g2, 37, #[a2_0, a2_1, a2_2]⟩ :: ⟨g3, 37, #[a3_0, a3_1, a3_2]⟩ :: ⟨g4, 37, #[a4_0, a4_1, a4_2]⟩ :: ⟨g5, 37, #[a5_0, a5_1, a5_2]⟩ :: ⟨g6, 37, #[a6_0, a6_1, a6_2]⟩ :: ⟨g7, 23, #[a7_0, a7_1]⟩ :: [])) : Env w0 w (⟨g0, 37, #[a0_0, a0_1, a0_2, a0_3, a0_4, a0_5, a0_6, a0_7, a0_8]⟩ :: ⟨g1, 37, #[a1_0, a1_1, a1_2]⟩ :: ⟨g2, 37, #[a2_0, a2_1, a2_2]⟩ :: ⟨g3, 37, #[a3_0, a3_1, a3_2]⟩ :: ⟨g4, 37, #[a4_0, a4_1, a4_2]⟩ :: ⟨g5, 37, #[a5_0, a5_1, a5_2]⟩ :: ⟨g6, 37, #[a6_0, a6_1, a6_2]⟩ :: ⟨g7, 23, #[a7_0, a7_1]⟩ :: []) ∧ w.cell? ⟨g1, 0, none⟩ = some a1_0 ∧ w.cell? ⟨g1, 1, none⟩ = some a1_1 ∧ w.cell? ⟨g1, 2, none⟩ = some a1_2 ∧ w.cell? ⟨g2, 0, none⟩ = some a2_0 ∧ w.cell? ⟨g2, 1, none⟩ = some a2_1 ∧ w.cell? ⟨g2, 2, none⟩ = some a2_2 ∧ w.cell? ⟨g3, 0, none⟩ = some a3_0 ∧ w.cell? ⟨g3, 1, none⟩ = some a3_1 ∧ w.cell? ⟨g3, 2, none⟩ = some a3_2 ∧ w.cell? ⟨g4, 0, none⟩ = some a4_0 ∧ w.cell? ⟨g4, 1, none⟩ = some a4_1 ∧ w.cell? ⟨g4, 2, none⟩ = some a4_2 ∧ w.cell? ⟨g5, 0, none⟩ = some a5_0 ∧ w.cell? ⟨g5, 1, none⟩ = some a5_1 ∧ w.cell? ⟨g5, 2, none⟩ = some a5_2 ∧ w.cell? ⟨g6, 0, none⟩ = some a6_0 ∧ w.cell? ⟨g6, 1, none⟩ = some a6_1 ∧ w.cell? ⟨g6, 2, none⟩ = some a6_2 := by
  have C := E.cells
  simp [BC, CF] at C
  exact ⟨E, C.2.1.2.1.1, C.2.1.2.2.1.1, C.2.1.2.2.2.1, C.2.2.1.2.1.1, C.2.2.1.2.2.1.1, C.2.2.1.2.2.2.1, C.2.2.2.1.2.1.1, C.2.2.2.1.2.2.1.1, C.2.2.2.1.2.2.2.1, C.2.2.2.2.1.2.1.1, C.2.2.2.2.1.2.2.1.1, C.2.2.2.2.1.2.2.2.1, C.2.2.2.2.2.1.2.1.1, C.2.2.2.2.2.1.2.2.1.1, C.2.2.2.2.2.1.2.2.2.1, C.2.2.2.2.2.2.1.2.1.1, C.2.2.2.2.2.2.1.2.2.1.1, C.2.2.2.2.2.2.1.2.2.2.1⟩
set_option maxHeartbeats 8000000 in
set_option maxRecDepth 100000 in
theorem keeps_walk (t : Tn) (p q s : Pt) (w : World) : Calls Try.prog 6 #[t.val, p.val, q.val, s.val] w fun e w' => e = .returned (.bool true) ∧ Below w.heap.size w w' := by
  have hr := fun g W (h : Sl W (some ⟨g, 0, none⟩) [p, q, s]) => ready_28 t (some ⟨g, 0, none⟩) [p, q, s] 3 W h
  simp only [List.length_cons, List.length_nil, Nat.zero_add, List.all_cons, List.all_nil, Bool.and_true, Nat.reduceAdd] at hr
  cases hc : vT t && (nearB p && (nearB q && nearB s))
  · rw [hc] at hr
    clear hc
    obtain ⟨x, y⟩ := t
    obtain ⟨p0, p1, p2⟩ := p
    obtain ⟨q0, q1, q2⟩ := q
    obtain ⟨s0, s1, s2⟩ := s
    unfold Tn.val Pt.val at *
    dsimp only at *
    have E := ((((Env.nil w).add (w.heap.size) 23 #[.int .i64 x, .int .i64 y] rfl).add (w.heap.size + 1) 37 #[.int .i64 p0, .int .i64 p1, .int .i64 p2] (by simp)).add (w.heap.size + 2) 37 #[.int .i64 q0, .int .i64 q1, .int .i64 q2] (by simp)).add (w.heap.size + 3) 37 #[.int .i64 s0, .int .i64 s1, .int .i64 s2] (by simp)
    have C := E.cells
    simp [BC, CF] at C
    go_enter Try.func6, Try.ntmps6
    go_wp2_with (first
      | (go_at_call 10; (with_reducible refine (awake_10 _).mono ?_); rintro X wq ⟨rfl, hb⟩; replace E := E.on hb; replace C := E.cells; simp [BC, CF] at C; clear hb)
      | (go_at_call 28; (with_reducible refine (hr _ _ ?_).mono ?_); (exact Sl.lit [⟨p0, p1, p2⟩, ⟨q0, q1, q2⟩, ⟨s0, s1, s2⟩] (Has.new_ _ _ _) rfl (show 3 ≤ maxLen by decide)); rintro X wq ⟨rfl, hb⟩; replace E := (E.more _).on hb; replace C := E.cells; simp [BC, CF] at C; clear hb))
    go_ret
    exact ⟨rfl, envb E⟩
  · rw [hc] at hr
    simp only [Bool.and_eq_true] at hc
    obtain ⟨ht, hp, hq, hs⟩ := hc
    have h1 := fun W => Apply_ok t p W ht hp
    have h2 := fun W => Apply_ok t q W ht hq
    have h3 := fun W => Apply_ok t s W ht hs
    have v1 := fun W => near_23 (img t p) W
    have v2 := fun W => near_23 (img t q) W
    have v3 := fun W => near_23 (img t s) W
    rw [near_img ht hp] at v1
    rw [near_img ht hq] at v2
    rw [near_img ht hs] at v3
    have bp := nearB_bd hp
    have bq := nearB_bd hq
    have bs := nearB_bd hs
    have ba := img_bd ht bp
    have bb := img_bd ht bq
    have g1 := fun W => mi_any (img t p) (img t q) ba bb W
    have g2 := fun W => mi_any p q bp bq W
    have d1 := fun W => dot_29 _ _ _ _ _ _ (bd_mono (mi_bd ba bb) (by decide)) (bd_mono (mi_bd ba bb) (by decide)) W
    have d2 := fun W => dot_29 _ _ _ _ _ _ (bd_mono (mi_bd bp bq) (by decide)) (bd_mono (mi_bd bp bq) (by decide)) W
    have d3 := fun W => dot_29 _ _ _ _ _ _ (bd_mono ba (by decide)) (bd_mono bb (by decide)) W
    have d4 := fun W => dot_29 _ _ _ _ _ _ (bd_mono bp (by decide)) (bd_mono bq (by decide)) W
    have e1 : dt (mi (img t p) (img t q)) (mi (img t p) (img t q)) = dt (mi p q) (mi p q) := by rw [img_mi, img_dt ht]
    have e2 : dt (img t p) (img t q) = dt p q := img_dt ht p q
    replace d1 : ∀ W, Calls Try.prog 29 #[(mi (img t p) (img t q)).val, (mi (img t p) (img t q)).val] W fun e w' => e = .returned (.int .i64 (dt (mi (img t p) (img t q)) (mi (img t p) (img t q)))) ∧ Below W.heap.size W w' := d1
    replace d3 : ∀ W, Calls Try.prog 29 #[(img t p).val, (img t q).val] W fun e w' => e = .returned (.int .i64 (dt (img t p) (img t q))) ∧ Below W.heap.size W w' := d3
    replace d2 : ∀ W, Calls Try.prog 29 #[(mi p q).val, (mi p q).val] W fun e w' => e = .returned (.int .i64 (dt (mi p q) (mi p q))) ∧ Below W.heap.size W w' := d2
    replace d4 : ∀ W, Calls Try.prog 29 #[p.val, q.val] W fun e w' => e = .returned (.int .i64 (dt p q)) ∧ Below W.heap.size W w' := d4
    rw [e1] at d1
    rw [e2] at d3
    have HV : Hid (p.bd 1000 → q.bd 1000 → s.bd 1000 → (∀ W, Calls Try.prog 31 #[(img t p).val, (img t q).val, (img t s).val] W fun e w' => e = .returned (.int .i64 (vol p q s)) ∧ Below W.heap.size W w') ∧ ∀ W, Calls Try.prog 31 #[p.val, q.val, s.val] W fun e w' => e = .returned (.int .i64 (vol p q s)) ∧ Below W.heap.size W w') := Lib.hid (fun k1 k2 k3 => ⟨fun W => by
      have h := vol_31 _ _ _ _ _ _ _ _ _ (img_bd ht k1) (img_bd ht k2) (img_bd ht k3) W
      rw [← img_vol ht p q s]
      exact h, fun W => vol_31 _ _ _ _ _ _ _ _ _ k1 k2 k3 W⟩)
    clear e1 e2 bp bq bs ba bb ht hp hq hs
    generalize vol p q s = VO at *
    generalize dt (mi p q) (mi p q) = D1 at *
    generalize dt p q = D2 at *
    generalize mi p q = M1 at *
    generalize mi (img t p) (img t q) = M2 at *
    generalize img t p = A at *
    generalize img t q = B at *
    generalize img t s = C0 at *
    obtain ⟨a0, a1, a2⟩ := A
    obtain ⟨b0, b1, b2⟩ := B
    obtain ⟨c0, c1, c2⟩ := C0
    obtain ⟨m0, m1, m2⟩ := M1
    obtain ⟨n0, n1, n2⟩ := M2
    have cc1 : (D1 != D1) = false := by simp
    have cc2 : (D2 != D2) = false := by simp
    obtain ⟨x, y⟩ := t
    obtain ⟨p0, p1, p2⟩ := p
    obtain ⟨q0, q1, q2⟩ := q
    obtain ⟨s0, s1, s2⟩ := s
    unfold Tn.val Pt.val at *
    dsimp only at *
    have E := ((((Env.nil w).add (w.heap.size) 23 #[.int .i64 x, .int .i64 y] rfl).add (w.heap.size + 1) 37 #[.int .i64 p0, .int .i64 p1, .int .i64 p2] (by simp)).add (w.heap.size + 2) 37 #[.int .i64 q0, .int .i64 q1, .int .i64 q2] (by simp)).add (w.heap.size + 3) 37 #[.int .i64 s0, .int .i64 s1, .int .i64 s2] (by simp)
    have C := E.cells
    simp [BC, CF] at C
    go_enter Try.func6, Try.ntmps6
    go_upto_region 5 with (first
      | (go_at_call 10; (with_reducible refine (awake_10 _).mono ?_); rintro X wq ⟨rfl, hb⟩; replace E := E.on hb; replace C := E.cells; simp [BC, CF] at C; clear hb)
      | (go_at_call 28; (with_reducible refine (hr _ _ ?_).mono ?_); (exact Sl.lit [⟨p0, p1, p2⟩, ⟨q0, q1, q2⟩, ⟨s0, s1, s2⟩] (Has.new_ _ _ _) rfl (show 3 ≤ maxLen by decide)); rintro X wq ⟨rfl, hb⟩; replace E := (E.more _).on hb; replace C := E.cells; simp [BC, CF] at C; clear hb))
    go_upto_region 6 with (go_at_call 20; (with_reducible refine (h1 _).mono ?_); rintro X wa ⟨rfl, hb⟩; replace E := E.on hb; replace C := E.cells; simp [BC, CF] at C; clear hb)
    replace E := E.add _ 37 #[.int .i64 a0, .int .i64 a1, .int .i64 a2] rfl
    replace C := E.cells
    simp [BC, CF] at C
    go_upto_region 7 with (go_at_call 20; (with_reducible refine (h2 _).mono ?_); rintro X wb ⟨rfl, hb⟩; replace E := E.on hb; replace C := E.cells; simp [BC, CF] at C; clear hb)
    replace E := E.add _ 37 #[.int .i64 b0, .int .i64 b1, .int .i64 b2] rfl
    replace C := E.cells
    simp [BC, CF] at C
    go_upto_region 8 with (go_at_call 20; (with_reducible refine (h3 _).mono ?_); rintro X wd ⟨rfl, hb⟩; replace E := E.on hb; replace C := E.cells; simp [BC, CF] at C; clear hb)
    replace E := E.add _ 37 #[.int .i64 c0, .int .i64 c1, .int .i64 c2] rfl
    replace C := E.cells
    simp [BC, CF] at C
    go_upto_region 10 with (first | (go_at_call 23; (with_reducible refine (v1 _).mono ?_); rintro X wq ⟨rfl, hb⟩; replace E := E.on hb; replace C := E.cells; simp [BC, CF] at C; clear hb) | (go_at_call 23; (with_reducible refine (v2 _).mono ?_); rintro X wq ⟨rfl, hb⟩; replace E := E.on hb; replace C := E.cells; simp [BC, CF] at C; clear hb) | (go_at_call 23; (with_reducible refine (v3 _).mono ?_); rintro X wq ⟨rfl, hb⟩; replace E := E.on hb; replace C := E.cells; simp [BC, CF] at C; clear hb))
    refine wp_region_plan 23 [(0, true), (1, true), (3, true), (4, true), (7, true), (8, true), (10, true), (11, true), (2, false), (5, false), (6, false), (9, false), (12, false), (13, false), (14, true), (15, true), (16, true), (17, true), (19, true), (20, true), (18, false), (21, false), (22, true)] (fun W' => Env w W' [⟨wd.heap.size, 37, #[.int .i64 c0, .int .i64 c1, .int .i64 c2]⟩, ⟨wb.heap.size, 37, #[.int .i64 b0, .int .i64 b1, .int .i64 b2]⟩, ⟨wa.heap.size, 37, #[.int .i64 a0, .int .i64 a1, .int .i64 a2]⟩, ⟨w.heap.size + 3, 37, #[.int .i64 s0, .int .i64 s1, .int .i64 s2]⟩, ⟨w.heap.size + 2, 37, #[.int .i64 q0, .int .i64 q1, .int .i64 q2]⟩, ⟨w.heap.size + 1, 37, #[.int .i64 p0, .int .i64 p1, .int .i64 p2]⟩, ⟨w.heap.size, 23, #[.int .i64 x, .int .i64 y]⟩] ∧ W'.cell? ⟨wb.heap.size, 0, none⟩ = some (.int .i64 b0) ∧ W'.cell? ⟨wb.heap.size, 1, none⟩ = some (.int .i64 b1) ∧ W'.cell? ⟨wb.heap.size, 2, none⟩ = some (.int .i64 b2) ∧ W'.cell? ⟨wa.heap.size, 0, none⟩ = some (.int .i64 a0) ∧ W'.cell? ⟨wa.heap.size, 1, none⟩ = some (.int .i64 a1) ∧ W'.cell? ⟨wa.heap.size, 2, none⟩ = some (.int .i64 a2) ∧ W'.cell? ⟨w.heap.size + 2, 0, none⟩ = some (.int .i64 q0) ∧ W'.cell? ⟨w.heap.size + 2, 1, none⟩ = some (.int .i64 q1) ∧ W'.cell? ⟨w.heap.size + 2, 2, none⟩ = some (.int .i64 q2) ∧ W'.cell? ⟨w.heap.size + 1, 0, none⟩ = some (.int .i64 p0) ∧ W'.cell? ⟨w.heap.size + 1, 1, none⟩ = some (.int .i64 p1) ∧ W'.cell? ⟨w.heap.size + 1, 2, none⟩ = some (.int .i64 p2)) (by kernel_rfl) (by kernel_rfl) (fun _ _ d _ _ h => by cases d <;> exact h) (s_k7 E.drw) ?_
    simp only [List.filterMap_cons, List.filterMap_nil, List.getElem?_cons_zero, List.getElem?_cons_succ, Option.map_some, List.drop_succ_cons, List.drop_zero]
    replace E := E.drw
    iterate 8 (first | (refine wpPlan_still (v := ?_) (Or.inl ⟨by rfl, ?_⟩) ?_; rotate_left; (focus (intro W hW; (try dsimp only at hW); go_split_ands; go_simp; try with_reducible rfl)); try simp only [Act.put, List.setIfInBounds_toArray, List.set_cons_zero, List.set_cons_succ]) | (refine wpPlan_still (Or.inr ⟨by rfl, rfl⟩) ?_; try simp only [Act.put, List.setIfInBounds_toArray, List.set_cons_zero, List.set_cons_succ]))
    refine wpPlan_only (fun K hK => ?_)
    try go_simp
    (go_at_call 30; (with_reducible refine (g1 _).mono ?_); rintro X wq ⟨rfl, hb⟩)
    replace E := E.on hb
    clear hb
    refine hK.out _ _ (s_k7 E) ?_
    clear hK K
    try simp only [Act.put, List.setIfInBounds_toArray, List.set_cons_zero, List.set_cons_succ]
    refine wpPlan_only (fun K hK => ?_)
    try go_simp
    (go_at_call 30; (with_reducible refine (g1 _).mono ?_); rintro X wq ⟨rfl, hb⟩)
    replace E := E.on hb
    clear hb
    refine hK.out _ _ (s_k7 E) ?_
    clear hK K
    try simp only [Act.put, List.setIfInBounds_toArray, List.set_cons_zero, List.set_cons_succ]
    refine wpPlan_only (fun K hK => ?_)
    try go_simp
    (go_at_call 29; (with_reducible refine (d1 _).mono ?_); rintro X wq ⟨rfl, hb⟩)
    replace E := E.on hb
    clear hb
    refine hK.out _ _ (s_k7 E) ?_
    clear hK K
    try simp only [Act.put, List.setIfInBounds_toArray, List.set_cons_zero, List.set_cons_succ]
    refine wpPlan_only (fun K hK => ?_)
    try go_simp
    (go_at_call 30; (with_reducible refine (g2 _).mono ?_); rintro X wq ⟨rfl, hb⟩)
    replace E := E.on hb
    clear hb
    refine hK.out _ _ (s_k7 E) ?_
    clear hK K
    try simp only [Act.put, List.setIfInBounds_toArray, List.set_cons_zero, List.set_cons_succ]
    refine wpPlan_only (fun K hK => ?_)
    try go_simp
    (go_at_call 30; (with_reducible refine (g2 _).mono ?_); rintro X wq ⟨rfl, hb⟩)
    replace E := E.on hb
    clear hb
    refine hK.out _ _ (s_k7 E) ?_
    clear hK K
    try simp only [Act.put, List.setIfInBounds_toArray, List.set_cons_zero, List.set_cons_succ]
    refine wpPlan_only (fun K hK => ?_)
    try go_simp
    (go_at_call 29; (with_reducible refine (d2 _).mono ?_); rintro X wq ⟨rfl, hb⟩)
    replace E := E.on hb
    clear hb
    refine hK.out _ _ (s_k7 E) ?_
    clear hK K
    try simp only [Act.put, List.setIfInBounds_toArray, List.set_cons_zero, List.set_cons_succ]
    iterate 6 (first | (refine wpPlan_still (v := ?_) (Or.inl ⟨by rfl, ?_⟩) ?_; rotate_left; (focus (intro W hW; (try dsimp only at hW); go_split_ands; go_simp; try with_reducible rfl)); try simp only [Act.put, List.setIfInBounds_toArray, List.set_cons_zero, List.set_cons_succ]) | (refine wpPlan_still (Or.inr ⟨by rfl, rfl⟩) ?_; try simp only [Act.put, List.setIfInBounds_toArray, List.set_cons_zero, List.set_cons_succ]))
    refine wpPlan_only (fun K hK => ?_)
    try go_simp
    (go_at_call 29; (with_reducible refine (d3 _).mono ?_); rintro X wq ⟨rfl, hb⟩)
    replace E := E.on hb
    clear hb
    refine hK.out _ _ (s_k7 E) ?_
    clear hK K
    try simp only [Act.put, List.setIfInBounds_toArray, List.set_cons_zero, List.set_cons_succ]
    refine wpPlan_only (fun K hK => ?_)
    try go_simp
    (go_at_call 29; (with_reducible refine (d4 _).mono ?_); rintro X wq ⟨rfl, hb⟩)
    replace E := E.on hb
    clear hb
    refine hK.out _ _ (s_k7 E) ?_
    clear hK K
    try simp only [Act.put, List.setIfInBounds_toArray, List.set_cons_zero, List.set_cons_succ]
    iterate 1 (first | (refine wpPlan_still (v := ?_) (Or.inl ⟨by rfl, ?_⟩) ?_; rotate_left; (focus (intro W hW; (try dsimp only at hW); go_split_ands; go_simp; try with_reducible rfl)); try simp only [Act.put, List.setIfInBounds_toArray, List.set_cons_zero, List.set_cons_succ]) | (refine wpPlan_still (Or.inr ⟨by rfl, rfl⟩) ?_; try simp only [Act.put, List.setIfInBounds_toArray, List.set_cons_zero, List.set_cons_succ]))
    refine wpPlan_end ?_
    replace C := E.cells
    simp [BC, CF] at C
    go_wp2
    have HK := Lib.hid (fun k (hk : k < ([⟨p0, p1, p2⟩, ⟨q0, q1, q2⟩, ⟨s0, s1, s2⟩] : List Pt).length) (wx : World) cs (hcs : Has wx wq.heap.size 37 cs) (e : cs.toList = pcells [⟨p0, p1, p2⟩, ⟨q0, q1, q2⟩, ⟨s0, s1, s2⟩]) => hcs.at3 [⟨p0, p1, p2⟩, ⟨q0, q1, q2⟩, ⟨s0, s1, s2⟩] e hk)
    replace E := E.add wq.heap.size 37 #[.int .i64 p0, .int .i64 p1, .int .i64 p2, .int .i64 q0, .int .i64 q1, .int .i64 q2, .int .i64 s0, .int .i64 s1, .int .i64 s2] rfl
    replace C := E.cells
    simp [BC, CF] at C
    obtain ⟨LP, hLP⟩ : ∃ LP : List Pt, LP = [⟨p0, p1, p2⟩, ⟨q0, q1, q2⟩, ⟨s0, s1, s2⟩] := ⟨_, rfl⟩
    have HLP := Lib.hid hLP
    have hLl : Hid (LP.length = 3) := Lib.hid (by rw [hLP]; rfl)
    rw [← hLP] at HK
    have hpc : Hid ((#[.int .i64 p0, .int .i64 p1, .int .i64 p2, .int .i64 q0, .int .i64 q1, .int .i64 q2, .int .i64 s0, .int .i64 s1, .int .i64 s2] : Array Value).toList = pcells LP) := Lib.hid (by rw [hLP]; rfl)
    clear hLP
    go_loopw [99] (fun v wr => ∃ k : Nat, v = .int .i64 k ∧ k ≤ 3 ∧ Hid (∀ e ∈ LP.take k, e.bd 1000) ∧ Env w wr [⟨wq.heap.size, 37, #[.int .i64 p0, .int .i64 p1, .int .i64 p2, .int .i64 q0, .int .i64 q1, .int .i64 q2, .int .i64 s0, .int .i64 s1, .int .i64 s2]⟩, ⟨wd.heap.size, 37, #[.int .i64 c0, .int .i64 c1, .int .i64 c2]⟩, ⟨wb.heap.size, 37, #[.int .i64 b0, .int .i64 b1, .int .i64 b2]⟩, ⟨wa.heap.size, 37, #[.int .i64 a0, .int .i64 a1, .int .i64 a2]⟩, ⟨w.heap.size + 3, 37, #[.int .i64 s0, .int .i64 s1, .int .i64 s2]⟩, ⟨w.heap.size + 2, 37, #[.int .i64 q0, .int .i64 q1, .int .i64 q2]⟩, ⟨w.heap.size + 1, 37, #[.int .i64 p0, .int .i64 p1, .int .i64 p2]⟩, ⟨w.heap.size, 23, #[.int .i64 x, .int .i64 y]⟩]) (fun v _ => 3 - (intOf v).toNat)
    case atStart => exact ⟨0, rfl, Nat.zero_le _, Lib.hid (by simp), E⟩
    case round =>
      clear E C
      obtain ⟨k, rfl, hk, hK, E⟩ := hrel
      have C := E.cells
      simp [BC, CF] at C
      by_cases hlt : k < 3
      · have hkl : k < LP.length := by rw [hLl.out]; exact hlt
        have g1 : decide ((k : Int) < 3) = true := by simp; omega
        have W1 : IntKind.i64.wrap ((k : Int) + 1) = ((k + 1 : Nat) : Int) := by rw [IntWalk.i64_in _ (by omega)]; omega
        have q1 : (0 : Int) ≤ (k : Int) := by omega
        have q2 : (k : Int) < 3 := by omega
        obtain ⟨f0, f1, f2⟩ := HK.out k hkl wr _ E.2.2.1 hpc.out
        have hN : Hid (LP[k].bd 1000 → ∀ e ∈ LP.take (k + 1), e.bd 1000) := Lib.hid (fun h e he => by
          rw [List.take_succ_eq_append_getElem hkl, List.mem_append] at he
          rcases he with he | he
          · exact hK.out e he
          · rw [List.mem_singleton.1 he]; exact h)
        generalize LP[k] = el at *
        obtain ⟨x0, x1, x2⟩ := el
        dsimp only at f0 f1 f2
        by_cases a : x0 < x1
        · have a2 : ¬ x1 < x0 := by omega
          by_cases b : x1 < x2
          · by_cases d : x2 < x0
            · exfalso; omega
            · have hmx := fun wz => mx3 x0 x1 x2 x2 wz (by (repeat' split) <;> omega)
              have hmn := fun wz => mn3 x0 x1 x2 x0 wz (by (repeat' split) <;> omega)
              have hN9 : Hid (¬ x2 > 1000 → ¬ x0 < -1000 → ∀ e ∈ LP.take (k + 1), e.bd 1000) := Lib.hid (fun z1 z2 => hN.out (by unfold Pt.bd; dsimp only; omega))
              clear a a2 b d
              by_cases z1 : x2 > 1000
              · have r0 : decide (x2 > 1000) = true := by simp; omega
                have r1 : decide (1000 < x2) = true := by simp; omega
                clear z1
                go_wp2
                go_ret
                exact ⟨rfl, al (envb E) _⟩
              · by_cases z2 : x0 < -1000
                · have r0 : decide (x2 > 1000) = false := by simp; omega
                  have r1 : decide (1000 < x2) = false := by simp; omega
                  have r2 : decide (x0 < -1000) = true := by simp; omega
                  clear z1 z2
                  go_wp2
                  go_ret
                  exact ⟨rfl, al (envb E) _⟩
                · have r0 : decide (x2 > 1000) = false := by simp; omega
                  have r1 : decide (1000 < x2) = false := by simp; omega
                  have r2 : decide (x0 < -1000) = false := by simp; omega
                  have hN2 := Lib.hid (hN9.out z1 z2)
                  clear z1 z2
                  go_wp2
                  exact ⟨⟨k + 1, rfl, hlt, hN2, E.more _⟩, by simp [intOf]; omega⟩
          · by_cases d : x2 < x0
            · have hmx := fun wz => mx3 x0 x1 x2 x1 wz (by (repeat' split) <;> omega)
              have hmn := fun wz => mn3 x0 x1 x2 x2 wz (by (repeat' split) <;> omega)
              have hN9 : Hid (¬ x1 > 1000 → ¬ x2 < -1000 → ∀ e ∈ LP.take (k + 1), e.bd 1000) := Lib.hid (fun z1 z2 => hN.out (by unfold Pt.bd; dsimp only; omega))
              clear a a2 b d
              by_cases z1 : x1 > 1000
              · have r0 : decide (x1 > 1000) = true := by simp; omega
                have r1 : decide (1000 < x1) = true := by simp; omega
                clear z1
                go_wp2
                go_ret
                exact ⟨rfl, al (envb E) _⟩
              · by_cases z2 : x2 < -1000
                · have r0 : decide (x1 > 1000) = false := by simp; omega
                  have r1 : decide (1000 < x1) = false := by simp; omega
                  have r2 : decide (x2 < -1000) = true := by simp; omega
                  clear z1 z2
                  go_wp2
                  go_ret
                  exact ⟨rfl, al (envb E) _⟩
                · have r0 : decide (x1 > 1000) = false := by simp; omega
                  have r1 : decide (1000 < x1) = false := by simp; omega
                  have r2 : decide (x2 < -1000) = false := by simp; omega
                  have hN2 := Lib.hid (hN9.out z1 z2)
                  clear z1 z2
                  go_wp2
                  exact ⟨⟨k + 1, rfl, hlt, hN2, E.more _⟩, by simp [intOf]; omega⟩
            · have hmx := fun wz => mx3 x0 x1 x2 x1 wz (by (repeat' split) <;> omega)
              have hmn := fun wz => mn3 x0 x1 x2 x0 wz (by (repeat' split) <;> omega)
              have hN9 : Hid (¬ x1 > 1000 → ¬ x0 < -1000 → ∀ e ∈ LP.take (k + 1), e.bd 1000) := Lib.hid (fun z1 z2 => hN.out (by unfold Pt.bd; dsimp only; omega))
              clear a a2 b d
              by_cases z1 : x1 > 1000
              · have r0 : decide (x1 > 1000) = true := by simp; omega
                have r1 : decide (1000 < x1) = true := by simp; omega
                clear z1
                go_wp2
                go_ret
                exact ⟨rfl, al (envb E) _⟩
              · by_cases z2 : x0 < -1000
                · have r0 : decide (x1 > 1000) = false := by simp; omega
                  have r1 : decide (1000 < x1) = false := by simp; omega
                  have r2 : decide (x0 < -1000) = true := by simp; omega
                  clear z1 z2
                  go_wp2
                  go_ret
                  exact ⟨rfl, al (envb E) _⟩
                · have r0 : decide (x1 > 1000) = false := by simp; omega
                  have r1 : decide (1000 < x1) = false := by simp; omega
                  have r2 : decide (x0 < -1000) = false := by simp; omega
                  have hN2 := Lib.hid (hN9.out z1 z2)
                  clear z1 z2
                  go_wp2
                  exact ⟨⟨k + 1, rfl, hlt, hN2, E.more _⟩, by simp [intOf]; omega⟩
        · by_cases c : x1 < x0
          · by_cases b : x0 < x2
            · by_cases d : x2 < x1
              · exfalso; omega
              · have hmx := fun wz => mx3 x0 x1 x2 x2 wz (by (repeat' split) <;> omega)
                have hmn := fun wz => mn3 x0 x1 x2 x1 wz (by (repeat' split) <;> omega)
                have hN9 : Hid (¬ x2 > 1000 → ¬ x1 < -1000 → ∀ e ∈ LP.take (k + 1), e.bd 1000) := Lib.hid (fun z1 z2 => hN.out (by unfold Pt.bd; dsimp only; omega))
                clear a b c d
                by_cases z1 : x2 > 1000
                · have r0 : decide (x2 > 1000) = true := by simp; omega
                  have r1 : decide (1000 < x2) = true := by simp; omega
                  clear z1
                  go_wp2
                  go_ret
                  exact ⟨rfl, al (envb E) _⟩
                · by_cases z2 : x1 < -1000
                  · have r0 : decide (x2 > 1000) = false := by simp; omega
                    have r1 : decide (1000 < x2) = false := by simp; omega
                    have r2 : decide (x1 < -1000) = true := by simp; omega
                    clear z1 z2
                    go_wp2
                    go_ret
                    exact ⟨rfl, al (envb E) _⟩
                  · have r0 : decide (x2 > 1000) = false := by simp; omega
                    have r1 : decide (1000 < x2) = false := by simp; omega
                    have r2 : decide (x1 < -1000) = false := by simp; omega
                    have hN2 := Lib.hid (hN9.out z1 z2)
                    clear z1 z2
                    go_wp2
                    exact ⟨⟨k + 1, rfl, hlt, hN2, E.more _⟩, by simp [intOf]; omega⟩
            · by_cases d : x2 < x1
              · have hmx := fun wz => mx3 x0 x1 x2 x0 wz (by (repeat' split) <;> omega)
                have hmn := fun wz => mn3 x0 x1 x2 x2 wz (by (repeat' split) <;> omega)
                have hN9 : Hid (¬ x0 > 1000 → ¬ x2 < -1000 → ∀ e ∈ LP.take (k + 1), e.bd 1000) := Lib.hid (fun z1 z2 => hN.out (by unfold Pt.bd; dsimp only; omega))
                clear a b c d
                by_cases z1 : x0 > 1000
                · have r0 : decide (x0 > 1000) = true := by simp; omega
                  have r1 : decide (1000 < x0) = true := by simp; omega
                  clear z1
                  go_wp2
                  go_ret
                  exact ⟨rfl, al (envb E) _⟩
                · by_cases z2 : x2 < -1000
                  · have r0 : decide (x0 > 1000) = false := by simp; omega
                    have r1 : decide (1000 < x0) = false := by simp; omega
                    have r2 : decide (x2 < -1000) = true := by simp; omega
                    clear z1 z2
                    go_wp2
                    go_ret
                    exact ⟨rfl, al (envb E) _⟩
                  · have r0 : decide (x0 > 1000) = false := by simp; omega
                    have r1 : decide (1000 < x0) = false := by simp; omega
                    have r2 : decide (x2 < -1000) = false := by simp; omega
                    have hN2 := Lib.hid (hN9.out z1 z2)
                    clear z1 z2
                    go_wp2
                    exact ⟨⟨k + 1, rfl, hlt, hN2, E.more _⟩, by simp [intOf]; omega⟩
              · have hmx := fun wz => mx3 x0 x1 x2 x0 wz (by (repeat' split) <;> omega)
                have hmn := fun wz => mn3 x0 x1 x2 x1 wz (by (repeat' split) <;> omega)
                have hN9 : Hid (¬ x0 > 1000 → ¬ x1 < -1000 → ∀ e ∈ LP.take (k + 1), e.bd 1000) := Lib.hid (fun z1 z2 => hN.out (by unfold Pt.bd; dsimp only; omega))
                clear a b c d
                by_cases z1 : x0 > 1000
                · have r0 : decide (x0 > 1000) = true := by simp; omega
                  have r1 : decide (1000 < x0) = true := by simp; omega
                  clear z1
                  go_wp2
                  go_ret
                  exact ⟨rfl, al (envb E) _⟩
                · by_cases z2 : x1 < -1000
                  · have r0 : decide (x0 > 1000) = false := by simp; omega
                    have r1 : decide (1000 < x0) = false := by simp; omega
                    have r2 : decide (x1 < -1000) = true := by simp; omega
                    clear z1 z2
                    go_wp2
                    go_ret
                    exact ⟨rfl, al (envb E) _⟩
                  · have r0 : decide (x0 > 1000) = false := by simp; omega
                    have r1 : decide (1000 < x0) = false := by simp; omega
                    have r2 : decide (x1 < -1000) = false := by simp; omega
                    have hN2 := Lib.hid (hN9.out z1 z2)
                    clear z1 z2
                    go_wp2
                    exact ⟨⟨k + 1, rfl, hlt, hN2, E.more _⟩, by simp [intOf]; omega⟩
          · by_cases b : x0 < x2
            · by_cases d : x2 < x0
              · exfalso; omega
              · have hmx := fun wz => mx3 x0 x1 x2 x2 wz (by (repeat' split) <;> omega)
                have hmn := fun wz => mn3 x0 x1 x2 x0 wz (by (repeat' split) <;> omega)
                have hN9 : Hid (¬ x2 > 1000 → ¬ x0 < -1000 → ∀ e ∈ LP.take (k + 1), e.bd 1000) := Lib.hid (fun z1 z2 => hN.out (by unfold Pt.bd; dsimp only; omega))
                clear a b c d
                by_cases z1 : x2 > 1000
                · have r0 : decide (x2 > 1000) = true := by simp; omega
                  have r1 : decide (1000 < x2) = true := by simp; omega
                  clear z1
                  go_wp2
                  go_ret
                  exact ⟨rfl, al (envb E) _⟩
                · by_cases z2 : x0 < -1000
                  · have r0 : decide (x2 > 1000) = false := by simp; omega
                    have r1 : decide (1000 < x2) = false := by simp; omega
                    have r2 : decide (x0 < -1000) = true := by simp; omega
                    clear z1 z2
                    go_wp2
                    go_ret
                    exact ⟨rfl, al (envb E) _⟩
                  · have r0 : decide (x2 > 1000) = false := by simp; omega
                    have r1 : decide (1000 < x2) = false := by simp; omega
                    have r2 : decide (x0 < -1000) = false := by simp; omega
                    have hN2 := Lib.hid (hN9.out z1 z2)
                    clear z1 z2
                    go_wp2
                    exact ⟨⟨k + 1, rfl, hlt, hN2, E.more _⟩, by simp [intOf]; omega⟩
            · by_cases d : x2 < x0
              · have hmx := fun wz => mx3 x0 x1 x2 x0 wz (by (repeat' split) <;> omega)
                have hmn := fun wz => mn3 x0 x1 x2 x2 wz (by (repeat' split) <;> omega)
                have hN9 : Hid (¬ x0 > 1000 → ¬ x2 < -1000 → ∀ e ∈ LP.take (k + 1), e.bd 1000) := Lib.hid (fun z1 z2 => hN.out (by unfold Pt.bd; dsimp only; omega))
                clear a b c d
                by_cases z1 : x0 > 1000
                · have r0 : decide (x0 > 1000) = true := by simp; omega
                  have r1 : decide (1000 < x0) = true := by simp; omega
                  clear z1
                  go_wp2
                  go_ret
                  exact ⟨rfl, al (envb E) _⟩
                · by_cases z2 : x2 < -1000
                  · have r0 : decide (x0 > 1000) = false := by simp; omega
                    have r1 : decide (1000 < x0) = false := by simp; omega
                    have r2 : decide (x2 < -1000) = true := by simp; omega
                    clear z1 z2
                    go_wp2
                    go_ret
                    exact ⟨rfl, al (envb E) _⟩
                  · have r0 : decide (x0 > 1000) = false := by simp; omega
                    have r1 : decide (1000 < x0) = false := by simp; omega
                    have r2 : decide (x2 < -1000) = false := by simp; omega
                    have hN2 := Lib.hid (hN9.out z1 z2)
                    clear z1 z2
                    go_wp2
                    exact ⟨⟨k + 1, rfl, hlt, hN2, E.more _⟩, by simp [intOf]; omega⟩
              · have hmx := fun wz => mx3 x0 x1 x2 x0 wz (by (repeat' split) <;> omega)
                have hmn := fun wz => mn3 x0 x1 x2 x0 wz (by (repeat' split) <;> omega)
                have hN9 : Hid (¬ x0 > 1000 → ¬ x0 < -1000 → ∀ e ∈ LP.take (k + 1), e.bd 1000) := Lib.hid (fun z1 z2 => hN.out (by unfold Pt.bd; dsimp only; omega))
                clear a b c d
                by_cases z1 : x0 > 1000
                · have r0 : decide (x0 > 1000) = true := by simp; omega
                  have r1 : decide (1000 < x0) = true := by simp; omega
                  clear z1
                  go_wp2
                  go_ret
                  exact ⟨rfl, al (envb E) _⟩
                · by_cases z2 : x0 < -1000
                  · have r0 : decide (x0 > 1000) = false := by simp; omega
                    have r1 : decide (1000 < x0) = false := by simp; omega
                    have r2 : decide (x0 < -1000) = true := by simp; omega
                    clear z1 z2
                    go_wp2
                    go_ret
                    exact ⟨rfl, al (envb E) _⟩
                  · have r0 : decide (x0 > 1000) = false := by simp; omega
                    have r1 : decide (1000 < x0) = false := by simp; omega
                    have r2 : decide (x0 < -1000) = false := by simp; omega
                    have hN2 := Lib.hid (hN9.out z1 z2)
                    clear z1 z2
                    go_wp2
                    exact ⟨⟨k + 1, rfl, hlt, hN2, E.more _⟩, by simp [intOf]; omega⟩
      · have hk3 : k = 3 := by omega
        subst hk3
        have g1 : decide ((3 : Int) < 3) = false := by simp
        have hall := hK.out
        rw [List.take_of_length_le (by rw [hLl.out]; omega), HLP.out] at hall
        simp only [List.mem_cons, List.not_mem_nil, or_false, forall_eq_or_imp, forall_eq] at hall
        obtain ⟨o1, o2⟩ := HV.out hall.1 hall.2.1 hall.2.2
        clear hall
        have cc3 : decide (VO = VO) = true := by simp
        go_upto_region 19 with fail
        refine wp_region_plan 11 [(0, true), (1, true), (2, true), (3, true), (5, true), (6, true), (7, true), (8, true), (4, false), (9, false), (10, true)] (fun W' => Env w W' [⟨wq.heap.size, 37, #[.int .i64 p0, .int .i64 p1, .int .i64 p2, .int .i64 q0, .int .i64 q1, .int .i64 q2, .int .i64 s0, .int .i64 s1, .int .i64 s2]⟩, ⟨wd.heap.size, 37, #[.int .i64 c0, .int .i64 c1, .int .i64 c2]⟩, ⟨wb.heap.size, 37, #[.int .i64 b0, .int .i64 b1, .int .i64 b2]⟩, ⟨wa.heap.size, 37, #[.int .i64 a0, .int .i64 a1, .int .i64 a2]⟩, ⟨w.heap.size + 3, 37, #[.int .i64 s0, .int .i64 s1, .int .i64 s2]⟩, ⟨w.heap.size + 2, 37, #[.int .i64 q0, .int .i64 q1, .int .i64 q2]⟩, ⟨w.heap.size + 1, 37, #[.int .i64 p0, .int .i64 p1, .int .i64 p2]⟩, ⟨w.heap.size, 23, #[.int .i64 x, .int .i64 y]⟩] ∧ W'.cell? ⟨wd.heap.size, 0, none⟩ = some (.int .i64 c0) ∧ W'.cell? ⟨wd.heap.size, 1, none⟩ = some (.int .i64 c1) ∧ W'.cell? ⟨wd.heap.size, 2, none⟩ = some (.int .i64 c2) ∧ W'.cell? ⟨wb.heap.size, 0, none⟩ = some (.int .i64 b0) ∧ W'.cell? ⟨wb.heap.size, 1, none⟩ = some (.int .i64 b1) ∧ W'.cell? ⟨wb.heap.size, 2, none⟩ = some (.int .i64 b2) ∧ W'.cell? ⟨wa.heap.size, 0, none⟩ = some (.int .i64 a0) ∧ W'.cell? ⟨wa.heap.size, 1, none⟩ = some (.int .i64 a1) ∧ W'.cell? ⟨wa.heap.size, 2, none⟩ = some (.int .i64 a2) ∧ W'.cell? ⟨w.heap.size + 3, 0, none⟩ = some (.int .i64 s0) ∧ W'.cell? ⟨w.heap.size + 3, 1, none⟩ = some (.int .i64 s1) ∧ W'.cell? ⟨w.heap.size + 3, 2, none⟩ = some (.int .i64 s2) ∧ W'.cell? ⟨w.heap.size + 2, 0, none⟩ = some (.int .i64 q0) ∧ W'.cell? ⟨w.heap.size + 2, 1, none⟩ = some (.int .i64 q1) ∧ W'.cell? ⟨w.heap.size + 2, 2, none⟩ = some (.int .i64 q2) ∧ W'.cell? ⟨w.heap.size + 1, 0, none⟩ = some (.int .i64 p0) ∧ W'.cell? ⟨w.heap.size + 1, 1, none⟩ = some (.int .i64 p1) ∧ W'.cell? ⟨w.heap.size + 1, 2, none⟩ = some (.int .i64 p2)) (by kernel_rfl) (by kernel_rfl) (fun _ _ d _ _ h => by cases d <;> exact h) (s_k8 E.drw) ?_
        simp only [List.filterMap_cons, List.filterMap_nil, List.getElem?_cons_zero, List.getElem?_cons_succ, Option.map_some, List.drop_succ_cons, List.drop_zero]
        replace E := E.drw
        iterate 8 (first | (refine wpPlan_still (v := ?_) (Or.inl ⟨by rfl, ?_⟩) ?_; rotate_left; (focus (intro W hW; (try dsimp only at hW); go_split_ands; go_simp; try with_reducible rfl)); try simp only [Act.put, List.setIfInBounds_toArray, List.set_cons_zero, List.set_cons_succ]) | (refine wpPlan_still (Or.inr ⟨by rfl, rfl⟩) ?_; try simp only [Act.put, List.setIfInBounds_toArray, List.set_cons_zero, List.set_cons_succ]))
        refine wpPlan_only (fun K hK => ?_)
        try go_simp
        (go_at_call 31; (with_reducible refine (o1 _).mono ?_); rintro X wq ⟨rfl, hb⟩)
        replace E := E.on hb
        clear hb
        refine hK.out _ _ (s_k8 E) ?_
        clear hK K
        try simp only [Act.put, List.setIfInBounds_toArray, List.set_cons_zero, List.set_cons_succ]
        refine wpPlan_only (fun K hK => ?_)
        try go_simp
        (go_at_call 31; (with_reducible refine (o2 _).mono ?_); rintro X wq ⟨rfl, hb⟩)
        replace E := E.on hb
        clear hb
        refine hK.out _ _ (s_k8 E) ?_
        clear hK K
        try simp only [Act.put, List.setIfInBounds_toArray, List.set_cons_zero, List.set_cons_succ]
        iterate 1 (first | (refine wpPlan_still (v := ?_) (Or.inl ⟨by rfl, ?_⟩) ?_; rotate_left; (focus (intro W hW; (try dsimp only at hW); go_split_ands; go_simp; try with_reducible rfl)); try simp only [Act.put, List.setIfInBounds_toArray, List.set_cons_zero, List.set_cons_succ]) | (refine wpPlan_still (Or.inr ⟨by rfl, rfl⟩) ?_; try simp only [Act.put, List.setIfInBounds_toArray, List.set_cons_zero, List.set_cons_succ]))
        refine wpPlan_end ?_
        replace C := E.cells
        simp [BC, CF] at C
        go_wp2
        go_ret
        exact ⟨rfl, envb E⟩
end Go.Proofs.Ytmfclelnaceonaa
