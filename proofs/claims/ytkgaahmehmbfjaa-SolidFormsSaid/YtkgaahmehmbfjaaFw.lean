/- SolidForms. -/
import Derived.Test.YtkgaahmehmbfjaaAwk
import Derived.Test.YtkgaahmehmbfjaaFb
namespace Go.Proofs.Ytkgaahmehmbfjaa
open Go.ChangeShapes Go.WideShapes Go.ChangeAt Go.RowKit Go.Maps Go.Shelf
set_option linter.unusedVariables false
set_option linter.unusedSimpArgs false

set_option maxHeartbeats 8000000 in
set_option maxRecDepth 100000 in
theorem forms_skip (p q : Option Addr) (l h : List Bx) (c d : Nat) (nm : ByteArray) (cv ag po : Int) (x y z : Int) (b : Bx) (w : World) (hS : Sl w p l) (hT : Sl w q h) (hv : smallB l h = false ∨ 60 < nm.size) :
    Calls Try.prog 3 #[.agg #[.string nm, .slice p l.length c, .slice q h.length d, .int .i64 cv, .int .i64 ag, .int .i64 po], .agg #[.int .i64 x, .int .i64 y, .int .i64 z], b.val] w fun e w' => e = .returned (.bool true) ∧ Below w.heap.size w w' := by
  have awk := fun W => awake_9 W
  have h10 := fun W a b => small_10 p q l h c d W a b
  have E := (((Env.nil w).add w.heap.size 26 #[.string nm, .slice p l.length c, .slice q h.length d, .int .i64 cv, .int .i64 ag, .int .i64 po] rfl).add (w.heap.size + 1) 28 #[.int .i64 x, .int .i64 y, .int .i64 z] (by simp)).add (w.heap.size + 1 + 1) 30 #[.int .i64 b.a, .int .i64 b.b, .int .i64 b.c, .int .i64 b.d, .int .i64 b.e, .int .i64 b.f] (by simp)
  have C := E.cells
  simp [BC, CF] at C
  unfold Bx.val at *
  cases hm : smallB l h
  · simp only [hm] at h10
    go_enter Try.func3, Try.ntmps3
    go_upto_region 3 with (first
      | (go_at_call 9; (with_reducible refine (awk _).mono ?_); rintro X w1 ⟨rfl, hb⟩; replace E := E.on hb; replace C := E.cells; simp [BC, CF] at C; clear hb))
    go_upto_region 4 with fail
    replace E := E.add w1.heap.size 24 #[.slice p l.length c, .slice q h.length d] rfl
    replace C := E.cells
    simp [BC, CF] at C
    go_wp2_with (first
      | (go_at_call 10; (with_reducible refine (h10 _ (hS.on (envC E)) (hT.on (envC E))).mono ?_); rintro X wq ⟨rfl, hb⟩; replace E := E.on hb; replace C := E.cells; simp [BC, CF] at C; clear hb))
    go_ret
    exact ⟨rfl, E.1⟩
  · have h60 : 60 < nm.size := by
      rcases hv with hv | hv
      · rw [hm] at hv; cases hv
      · exact hv
    have q1 : decide ((60 : Int) < (nm.size : Int)) = true := by simp only [decide_eq_true_eq]; omega
    simp only [hm] at h10
    go_enter Try.func3, Try.ntmps3
    go_upto_region 3 with (first
      | (go_at_call 9; (with_reducible refine (awk _).mono ?_); rintro X w1 ⟨rfl, hb⟩; replace E := E.on hb; replace C := E.cells; simp [BC, CF] at C; clear hb))
    go_upto_region 4 with fail
    replace E := E.add w1.heap.size 24 #[.slice p l.length c, .slice q h.length d] rfl
    replace C := E.cells
    simp [BC, CF] at C
    go_wp2_with (first
      | (go_at_call 10; (with_reducible refine (h10 _ (hS.on (envC E)) (hT.on (envC E))).mono ?_); rintro X wq ⟨rfl, hb⟩; replace E := E.on hb; replace C := E.cells; simp [BC, CF] at C; clear hb))
    go_ret
    exact ⟨rfl, E.1⟩
theorem s_f9 {w0 w : World} {g1 g4 : Nat} {a1_0 a1_1 a4_0 a4_1 a4_2 a4_3 a4_4 a4_5 : Value} {c0 c2 c3 : Fb} (E : Env w0 w (c0 :: ⟨g1, 24, #[a1_0, a1_1]⟩ :: c2 :: c3 :: ⟨g4, 26, #[a4_0, a4_1, a4_2, a4_3, a4_4, a4_5]⟩ :: [])) : Env w0 w (c0 :: ⟨g1, 24, #[a1_0, a1_1]⟩ :: c2 :: c3 :: ⟨g4, 26, #[a4_0, a4_1, a4_2, a4_3, a4_4, a4_5]⟩ :: []) ∧ w.cell? ⟨g1, 0, none⟩ = some a1_0 ∧ w.cell? ⟨g1, 1, none⟩ = some a1_1 ∧ w.cell? ⟨g4, 0, none⟩ = some a4_0 ∧ w.cell? ⟨g4, 1, none⟩ = some a4_1 ∧ w.cell? ⟨g4, 2, none⟩ = some a4_2 ∧ w.cell? ⟨g4, 3, none⟩ = some a4_3 ∧ w.cell? ⟨g4, 4, none⟩ = some a4_4 ∧ w.cell? ⟨g4, 5, none⟩ = some a4_5 := by
  have C := E.cells
  simp [BC, CF] at C
  exact ⟨E, C.2.1.2.1.1, C.2.1.2.2.1, C.2.2.2.2.2.1.1, C.2.2.2.2.2.2.1.1, C.2.2.2.2.2.2.2.1.1, C.2.2.2.2.2.2.2.2.1.1, C.2.2.2.2.2.2.2.2.2.1.1, C.2.2.2.2.2.2.2.2.2.2.1⟩
theorem s_f13 {w0 w : World} {g0 g1 : Nat} {a0_0 a0_1 a0_2 a0_3 a0_4 a0_5 a1_0 a1_1 : Value} {c2 c3 c4 : Fb} (E : Env w0 w (⟨g0, 30, #[a0_0, a0_1, a0_2, a0_3, a0_4, a0_5]⟩ :: ⟨g1, 24, #[a1_0, a1_1]⟩ :: c2 :: c3 :: c4 :: [])) : Env w0 w (⟨g0, 30, #[a0_0, a0_1, a0_2, a0_3, a0_4, a0_5]⟩ :: ⟨g1, 24, #[a1_0, a1_1]⟩ :: c2 :: c3 :: c4 :: []) ∧ w.cell? ⟨g0, 0, none⟩ = some a0_0 ∧ w.cell? ⟨g0, 1, none⟩ = some a0_1 ∧ w.cell? ⟨g0, 2, none⟩ = some a0_2 ∧ w.cell? ⟨g0, 3, none⟩ = some a0_3 ∧ w.cell? ⟨g0, 4, none⟩ = some a0_4 ∧ w.cell? ⟨g0, 5, none⟩ = some a0_5 ∧ w.cell? ⟨g1, 0, none⟩ = some a1_0 ∧ w.cell? ⟨g1, 1, none⟩ = some a1_1 := by
  have C := E.cells
  simp [BC, CF] at C
  exact ⟨E, C.1.2.1.1, C.1.2.2.1.1, C.1.2.2.2.1.1, C.1.2.2.2.2.1.1, C.1.2.2.2.2.2.1.1, C.1.2.2.2.2.2.2.1, C.2.1.2.1.1, C.2.1.2.2.1⟩
set_option maxHeartbeats 8000000 in
set_option maxRecDepth 100000 in
theorem forms_bad (p q : Option Addr) (l h : List Bx) (c d : Nat) (nm : ByteArray) (cv ag po : Int) (x y z : Int) (b : Bx) (w : World) (hS : Sl w p l) (hT : Sl w q h) (hm : smallB l h = true) (h60 : nm.size ≤ 60) (hs : okS l h = false) :
    Calls Try.prog 3 #[.agg #[.string nm, .slice p l.length c, .slice q h.length d, .int .i64 cv, .int .i64 ag, .int .i64 po], .agg #[.int .i64 x, .int .i64 y, .int .i64 z], b.val] w fun e w' => e = .returned (.bool true) ∧ Below w.heap.size w w' := by
  have awk := fun W => awake_9 W
  have h10 := fun W a b => small_10 p q l h c d W a b
  have E := (((Env.nil w).add w.heap.size 26 #[.string nm, .slice p l.length c, .slice q h.length d, .int .i64 cv, .int .i64 ag, .int .i64 po] rfl).add (w.heap.size + 1) 28 #[.int .i64 x, .int .i64 y, .int .i64 z] (by simp)).add (w.heap.size + 1 + 1) 30 #[.int .i64 b.a, .int .i64 b.b, .int .i64 b.c, .int .i64 b.d, .int .i64 b.e, .int .i64 b.f] (by simp)
  have C := E.cells
  simp [BC, CF] at C
  have h14 := fun W a b => val14 p q l h c d W a b
  have h15 : ∀ W, Sl W p l → Sl W q h → Calls Try.prog 15 #[.agg #[.slice p l.length c, .slice q h.length d]] W fun e w' => e = .returned (.bool (okS l h)) ∧ Below W.heap.size W w' := fun W a b => rvalid_15 p q l h c d W a b
  have h16 := fun W a b => member_16 p q l h c d nm cv ag po W a b (by unfold maxLen; omega)
  have h17 := fun W a b => rmember_17 p q l h c d nm cv ag po W a b (by unfold maxLen; omega)
  have q1 : decide ((60 : Int) < (nm.size : Int)) = false := by simp only [decide_eq_false_iff_not]; omega
  have h11 := fun W a b => Hull_no p q l h c d W a b hs
  have h12 : ∀ W, Sl W p l → Sl W q h → Calls Try.prog 12 #[.agg #[.slice p l.length c, .slice q h.length d], .agg #[.int .i64 x, .int .i64 y, .int .i64 z]] W fun e w' => e = .returned (.tuple #[.bool false, .int .i64 1]) ∧ Below W.heap.size W w' := fun W a e => Inside_no p q l h c d x y z W a e hs
  have h13 : ∀ W, Sl W p l → Sl W q h → Calls Try.prog 13 #[.agg #[.slice p l.length c, .slice q h.length d], b.val] W fun e w' => e = .returned (.tuple #[.bool false, .int .i64 1]) ∧ Below W.heap.size W w' := fun W a e => Contains_no p q l h c d b W a e (.inl hs)
  simp only [hm] at h10
  simp only [hs] at h14 h15
  generalize okM nm l h cv ag po = R at *
  unfold Bx.val at *
  clear hm hs h60
  go_enter Try.func3, Try.ntmps3
  go_upto_region 3 with (first
    | (go_at_call 9; (with_reducible refine (awk _).mono ?_); rintro X w1 ⟨rfl, hb⟩; replace E := E.on hb; replace C := E.cells; simp [BC, CF] at C; clear hb))
  go_upto_region 4 with fail
  replace E := E.add w1.heap.size 24 #[.slice p l.length c, .slice q h.length d] rfl
  replace C := E.cells
  simp [BC, CF] at C
  go_upto_region 6 with (first
    | (go_at_call 10; (with_reducible refine (h10 _ (hS.on (envC E)) (hT.on (envC E))).mono ?_); rintro X w1b ⟨rfl, hb⟩; replace E := E.on hb; replace C := E.cells; simp [BC, CF] at C; clear hb))
  go_upto_region 7 with (first
    | (go_at_call 11; (with_reducible refine (h11 _ (hS.on (envC E)) (hT.on (envC E))).mono ?_); rintro X w2 ⟨rfl, hb⟩; replace E := E.on hb; replace C := E.cells; simp [BC, CF] at C; clear hb))
  replace E := E.add w2.heap.size 30 #[.int .i64 0, .int .i64 0, .int .i64 0, .int .i64 0, .int .i64 0, .int .i64 0] rfl
  replace C := E.cells
  simp [BC, CF] at C
  go_upto_region 9 with (first
    | (go_at_call 12; (with_reducible refine (h12 _ (hS.on (envC E)) (hT.on (envC E))).mono ?_); rintro X wq ⟨rfl, hb⟩; replace E := E.on hb; replace C := E.cells; simp [BC, CF] at C; clear hb)
    | (go_at_call 13; (with_reducible refine (h13 _ (hS.on (envC E)) (hT.on (envC E))).mono ?_); rintro X wq ⟨rfl, hb⟩; replace E := E.on hb; replace C := E.cells; simp [BC, CF] at C; clear hb))
  replace E := E.drw
  refine wp_region_plan 11 [(0, true), (2, true), (1, false), (3, false), (4, true), (5, true), (6, true), (8, true), (7, false), (9, false), (10, true)] (fun W' => Env w W' [⟨w2.heap.size, 30, #[.int .i64 0, .int .i64 0, .int .i64 0, .int .i64 0, .int .i64 0, .int .i64 0]⟩, ⟨w1.heap.size, 24, #[.slice p l.length c, .slice q h.length d]⟩, ⟨w.heap.size + 1 + 1, 30, #[.int .i64 b.a, .int .i64 b.b, .int .i64 b.c, .int .i64 b.d, .int .i64 b.e, .int .i64 b.f]⟩, ⟨w.heap.size + 1, 28, #[.int .i64 x, .int .i64 y, .int .i64 z]⟩, ⟨w.heap.size, 26, #[.string nm, .slice p l.length c, .slice q h.length d, .int .i64 cv, .int .i64 ag, .int .i64 po]⟩] ∧ W'.cell? ⟨w1.heap.size, 0, none⟩ = some (.slice p l.length c) ∧ W'.cell? ⟨w1.heap.size, 1, none⟩ = some (.slice q h.length d) ∧ W'.cell? ⟨w.heap.size, 0, none⟩ = some (.string nm) ∧ W'.cell? ⟨w.heap.size, 1, none⟩ = some (.slice p l.length c) ∧ W'.cell? ⟨w.heap.size, 2, none⟩ = some (.slice q h.length d) ∧ W'.cell? ⟨w.heap.size, 3, none⟩ = some (.int .i64 cv) ∧ W'.cell? ⟨w.heap.size, 4, none⟩ = some (.int .i64 ag) ∧ W'.cell? ⟨w.heap.size, 5, none⟩ = some (.int .i64 po)) (by kernel_rfl) (by kernel_rfl) (fun _ _ d _ _ h => by cases d <;> exact h) (s_f9 E) ?_
  simp only [List.filterMap_cons, List.filterMap_nil, List.getElem?_cons_zero, List.getElem?_cons_succ, Option.map_some, List.drop_succ_cons, List.drop_zero]
  iterate 2 (first | (refine wpPlan_still (v := ?_) (Or.inl ⟨by rfl, ?_⟩) ?_; rotate_left; (focus (intro W hW; (try dsimp only at hW); go_split_ands; go_simp; try with_reducible rfl)); try simp only [Act.put, List.setIfInBounds_toArray, List.set_cons_zero, List.set_cons_succ]) | (refine wpPlan_still (Or.inr ⟨by rfl, rfl⟩) ?_; try simp only [Act.put, List.setIfInBounds_toArray, List.set_cons_zero, List.set_cons_succ]))
  refine wpPlan_only (fun K hK => ?_)
  try go_simp
  (go_at_call 14; (with_reducible refine (h14 _ (hS.on (envC E)) (hT.on (envC E))).mono ?_); rintro X wq ⟨rfl, hb⟩)
  replace E := E.on hb
  clear hb
  refine hK.out _ _ (s_f9 E) ?_
  clear hK K
  try simp only [Act.put, List.setIfInBounds_toArray, List.set_cons_zero, List.set_cons_succ]
  refine wpPlan_only (fun K hK => ?_)
  try go_simp
  (go_at_call 15; (with_reducible refine (h15 _ (hS.on (envC E)) (hT.on (envC E))).mono ?_); rintro X wq ⟨rfl, hb⟩)
  replace E := E.on hb
  clear hb
  refine hK.out _ _ (s_f9 E) ?_
  clear hK K
  try simp only [Act.put, List.setIfInBounds_toArray, List.set_cons_zero, List.set_cons_succ]
  iterate 4 (first | (refine wpPlan_still (v := ?_) (Or.inl ⟨by rfl, ?_⟩) ?_; rotate_left; (focus (intro W hW; (try dsimp only at hW); go_split_ands; go_simp; try with_reducible rfl)); try simp only [Act.put, List.setIfInBounds_toArray, List.set_cons_zero, List.set_cons_succ]) | (refine wpPlan_still (Or.inr ⟨by rfl, rfl⟩) ?_; try simp only [Act.put, List.setIfInBounds_toArray, List.set_cons_zero, List.set_cons_succ]))
  refine wpPlan_only (fun K hK => ?_)
  try go_simp
  (go_at_call 16; (with_reducible refine (h16 _ (hS.on (envC E)) (hT.on (envC E))).mono ?_); rintro X wq ⟨rfl, hb⟩)
  replace E := E.on hb
  clear hb
  refine hK.out _ _ (s_f9 E) ?_
  clear hK K
  try simp only [Act.put, List.setIfInBounds_toArray, List.set_cons_zero, List.set_cons_succ]
  refine wpPlan_only (fun K hK => ?_)
  try go_simp
  (go_at_call 17; (with_reducible refine (h17 _ (hS.on (envC E)) (hT.on (envC E))).mono ?_); rintro X wq ⟨rfl, hb⟩)
  replace E := E.on hb
  clear hb
  refine hK.out _ _ (s_f9 E) ?_
  clear hK K
  try simp only [Act.put, List.setIfInBounds_toArray, List.set_cons_zero, List.set_cons_succ]
  iterate 1 (first | (refine wpPlan_still (v := ?_) (Or.inl ⟨by rfl, ?_⟩) ?_; rotate_left; (focus (intro W hW; (try dsimp only at hW); go_split_ands; go_simp; try with_reducible rfl)); try simp only [Act.put, List.setIfInBounds_toArray, List.set_cons_zero, List.set_cons_succ]) | (refine wpPlan_still (Or.inr ⟨by rfl, rfl⟩) ?_; try simp only [Act.put, List.setIfInBounds_toArray, List.set_cons_zero, List.set_cons_succ]))
  refine wpPlan_end ?_
  replace C := E.cells
  simp [BC, CF] at C
  go_wp2_with (first
    | (go_at_call 15; (with_reducible refine (h15 _ (hS.on (envC E)) (hT.on (envC E))).mono ?_); rintro X wq ⟨rfl, hb⟩; replace E := E.on hb; replace C := E.cells; simp [BC, CF] at C; clear hb))
  go_ret
  exact ⟨by simp, E.1⟩
set_option maxHeartbeats 8000000 in
set_option maxRecDepth 100000 in
theorem forms_ok (p q : Option Addr) (l h : List Bx) (c d : Nat) (nm : ByteArray) (cv ag po : Int) (x y z : Int) (b : Bx) (w : World) (hS : Sl w p l) (hT : Sl w q h) (hc : l.length ≤ c) (hm : smallB l h = true) (h60 : nm.size ≤ 60) (hs : okS l h = true) :
    Calls Try.prog 3 #[.agg #[.string nm, .slice p l.length c, .slice q h.length d, .int .i64 cv, .int .i64 ag, .int .i64 po], .agg #[.int .i64 x, .int .i64 y, .int .i64 z], b.val] w fun e w' => e = .returned (.bool true) ∧ Below w.heap.size w w' := by
  have awk := fun W => awake_9 W
  have h10 := fun W a b => small_10 p q l h c d W a b
  have E := (((Env.nil w).add w.heap.size 26 #[.string nm, .slice p l.length c, .slice q h.length d, .int .i64 cv, .int .i64 ag, .int .i64 po] rfl).add (w.heap.size + 1) 28 #[.int .i64 x, .int .i64 y, .int .i64 z] (by simp)).add (w.heap.size + 1 + 1) 30 #[.int .i64 b.a, .int .i64 b.b, .int .i64 b.c, .int .i64 b.d, .int .i64 b.e, .int .i64 b.f] (by simp)
  have C := E.cells
  simp [BC, CF] at C
  have h14 := fun W a b => val14 p q l h c d W a b
  have h15 : ∀ W, Sl W p l → Sl W q h → Calls Try.prog 15 #[.agg #[.slice p l.length c, .slice q h.length d]] W fun e w' => e = .returned (.bool (okS l h)) ∧ Below W.heap.size W w' := fun W a b => rvalid_15 p q l h c d W a b
  have h16 := fun W a b => member_16 p q l h c d nm cv ag po W a b (by unfold maxLen; omega)
  have h17 := fun W a b => rmember_17 p q l h c d nm cv ag po W a b (by unfold maxLen; omega)
  have q1 : decide ((60 : Int) < (nm.size : Int)) = false := by simp only [decide_eq_false_iff_not]; omega
  have hl8 := small_ok hm hs
  have h11 := fun W a b => Hull_yes p q l h c d W a b hs hc
  have h18 := fun W a => rHull_18 p q l h c d W a (okS_i.1 hs).1.1
  obtain ⟨fa, Ia, Ip, h12, h20, hIa⟩ : ∃ (fa : Int) (Ia Ip : Bool), (∀ W, Sl W p l → Sl W q h → Calls Try.prog 12 #[.agg #[.slice p l.length c, .slice q h.length d], .agg #[.int .i64 x, .int .i64 y, .int .i64 z]] W fun e w' => e = .returned (.tuple #[.bool Ia, .int .i64 fa]) ∧ Below W.heap.size W w')
      ∧ (Ip = true → ∀ W, Sl W p l → Sl W q h → Calls Try.prog 20 #[.agg #[.slice p l.length c, .slice q h.length d], .agg #[.int .i64 x, .int .i64 y, .int .i64 z]] W fun e w' => e = .returned (.bool Ia) ∧ Below W.heap.size W w') ∧ (Ip = (ptX x y z).ok ∧ ((Ip = false ∧ Ia = false ∧ fa = 2) ∨ (Ip = true ∧ fa = 0))) := by
    cases hp : (ptX x y z).ok
    · exact ⟨2, false, false, fun W a e => Inside_far p q l h c d x y z W a e hs hp, (fun e => by cases e), rfl, .inl ⟨rfl, rfl, rfl⟩⟩
    · exact ⟨0, inS l h (ptX x y z), true, fun W a e => Inside_ok p q l h c d x y z W a e hs hp, fun _ W a e => rinside_20 p q l h c d x y z W a e hs (by omega) hp, rfl, .inr ⟨rfl, rfl⟩⟩
  obtain ⟨ga, Ib, Iq, h13, h21, hIb⟩ : ∃ (ga : Int) (Ib Iq : Bool), (∀ W, Sl W p l → Sl W q h → Calls Try.prog 13 #[.agg #[.slice p l.length c, .slice q h.length d], b.val] W fun e w' => e = .returned (.tuple #[.bool Ib, .int .i64 ga]) ∧ Below W.heap.size W w')
      ∧ (Iq = true → ∀ W, Sl W p l → Sl W q h → Calls Try.prog 21 #[.agg #[.slice p l.length c, .slice q h.length d], b.val] W fun e w' => e = .returned (.bool Ib) ∧ Below W.heap.size W w') ∧ (Iq = b.ok ∧ ((Iq = false ∧ Ib = false ∧ ga = 1) ∨ (Iq = true ∧ ga = 0))) := by
    cases hb : b.ok
    · exact ⟨1, false, false, fun W a e => Contains_no p q l h c d b W a e (.inr hb), (fun e => by cases e), rfl, .inl ⟨rfl, rfl, rfl⟩⟩
    · exact ⟨0, inS l h b, true, fun W a e => Contains_ok p q l h c d b W a e hs hb, fun _ W a e => rcontains_21 p q l h c d b W a e hs (by omega) hb, rfl, .inr ⟨rfl, rfl⟩⟩
  have h19p : ∀ W, Calls Try.prog 19 #[.agg #[.int .i64 x, .int .i64 y, .int .i64 z, .int .i64 x, .int .i64 y, .int .i64 z]] W fun e w' => e = .returned (.bool Ip) ∧ Below W.heap.size W w' := fun W => by rw [hIa.1]; exact rvalid_any (ptX x y z) W
  have h19b : ∀ W, Calls Try.prog 19 #[b.val] W fun e w' => e = .returned (.bool Iq) ∧ Below W.heap.size W w' := fun W => by rw [hIb.1]; exact rvalid_any b W
  replace hIa := hIa.2
  replace hIb := hIb.2
  simp only [hm] at h10
  simp only [hs] at h14 h15
  generalize okM nm l h cv ag po = R at *
  generalize hulS l = H at *
  unfold Bx.val at *
  clear hm hs h60 hl8 hc
  go_enter Try.func3, Try.ntmps3
  go_upto_region 3 with (first
    | (go_at_call 9; (with_reducible refine (awk _).mono ?_); rintro X w1 ⟨rfl, hb⟩; replace E := E.on hb; replace C := E.cells; simp [BC, CF] at C; clear hb))
  go_upto_region 4 with fail
  replace E := E.add w1.heap.size 24 #[.slice p l.length c, .slice q h.length d] rfl
  replace C := E.cells
  simp [BC, CF] at C
  go_upto_region 6 with (first
    | (go_at_call 10; (with_reducible refine (h10 _ (hS.on (envC E)) (hT.on (envC E))).mono ?_); rintro X w1b ⟨rfl, hb⟩; replace E := E.on hb; replace C := E.cells; simp [BC, CF] at C; clear hb))
  go_upto_region 7 with (first
    | (go_at_call 11; (with_reducible refine (h11 _ (hS.on (envC E)) (hT.on (envC E))).mono ?_); rintro X w2 ⟨rfl, hb⟩; replace E := E.on hb; replace C := E.cells; simp [BC, CF] at C; clear hb))
  replace E := E.add w2.heap.size 30 #[.int .i64 H.a, .int .i64 H.b, .int .i64 H.c, .int .i64 H.d, .int .i64 H.e, .int .i64 H.f] rfl
  replace C := E.cells
  simp [BC, CF] at C
  go_upto_region 9 with (first
    | (go_at_call 12; (with_reducible refine (h12 _ (hS.on (envC E)) (hT.on (envC E))).mono ?_); rintro X wq ⟨rfl, hb⟩; replace E := E.on hb; replace C := E.cells; simp [BC, CF] at C; clear hb)
    | (go_at_call 13; (with_reducible refine (h13 _ (hS.on (envC E)) (hT.on (envC E))).mono ?_); rintro X wq ⟨rfl, hb⟩; replace E := E.on hb; replace C := E.cells; simp [BC, CF] at C; clear hb))
  replace E := E.drw
  refine wp_region_plan 11 [(0, true), (2, true), (1, false), (3, false), (4, true), (5, true), (6, true), (8, true), (7, false), (9, false), (10, true)] (fun W' => Env w W' [⟨w2.heap.size, 30, #[.int .i64 H.a, .int .i64 H.b, .int .i64 H.c, .int .i64 H.d, .int .i64 H.e, .int .i64 H.f]⟩, ⟨w1.heap.size, 24, #[.slice p l.length c, .slice q h.length d]⟩, ⟨w.heap.size + 1 + 1, 30, #[.int .i64 b.a, .int .i64 b.b, .int .i64 b.c, .int .i64 b.d, .int .i64 b.e, .int .i64 b.f]⟩, ⟨w.heap.size + 1, 28, #[.int .i64 x, .int .i64 y, .int .i64 z]⟩, ⟨w.heap.size, 26, #[.string nm, .slice p l.length c, .slice q h.length d, .int .i64 cv, .int .i64 ag, .int .i64 po]⟩] ∧ W'.cell? ⟨w1.heap.size, 0, none⟩ = some (.slice p l.length c) ∧ W'.cell? ⟨w1.heap.size, 1, none⟩ = some (.slice q h.length d) ∧ W'.cell? ⟨w.heap.size, 0, none⟩ = some (.string nm) ∧ W'.cell? ⟨w.heap.size, 1, none⟩ = some (.slice p l.length c) ∧ W'.cell? ⟨w.heap.size, 2, none⟩ = some (.slice q h.length d) ∧ W'.cell? ⟨w.heap.size, 3, none⟩ = some (.int .i64 cv) ∧ W'.cell? ⟨w.heap.size, 4, none⟩ = some (.int .i64 ag) ∧ W'.cell? ⟨w.heap.size, 5, none⟩ = some (.int .i64 po)) (by kernel_rfl) (by kernel_rfl) (fun _ _ d _ _ h => by cases d <;> exact h) (s_f9 E) ?_
  simp only [List.filterMap_cons, List.filterMap_nil, List.getElem?_cons_zero, List.getElem?_cons_succ, Option.map_some, List.drop_succ_cons, List.drop_zero]
  iterate 2 (first | (refine wpPlan_still (v := ?_) (Or.inl ⟨by rfl, ?_⟩) ?_; rotate_left; (focus (intro W hW; (try dsimp only at hW); go_split_ands; go_simp; try with_reducible rfl)); try simp only [Act.put, List.setIfInBounds_toArray, List.set_cons_zero, List.set_cons_succ]) | (refine wpPlan_still (Or.inr ⟨by rfl, rfl⟩) ?_; try simp only [Act.put, List.setIfInBounds_toArray, List.set_cons_zero, List.set_cons_succ]))
  refine wpPlan_only (fun K hK => ?_)
  try go_simp
  (go_at_call 14; (with_reducible refine (h14 _ (hS.on (envC E)) (hT.on (envC E))).mono ?_); rintro X wq ⟨rfl, hb⟩)
  replace E := E.on hb
  clear hb
  refine hK.out _ _ (s_f9 E) ?_
  clear hK K
  try simp only [Act.put, List.setIfInBounds_toArray, List.set_cons_zero, List.set_cons_succ]
  refine wpPlan_only (fun K hK => ?_)
  try go_simp
  (go_at_call 15; (with_reducible refine (h15 _ (hS.on (envC E)) (hT.on (envC E))).mono ?_); rintro X wq ⟨rfl, hb⟩)
  replace E := E.on hb
  clear hb
  refine hK.out _ _ (s_f9 E) ?_
  clear hK K
  try simp only [Act.put, List.setIfInBounds_toArray, List.set_cons_zero, List.set_cons_succ]
  iterate 4 (first | (refine wpPlan_still (v := ?_) (Or.inl ⟨by rfl, ?_⟩) ?_; rotate_left; (focus (intro W hW; (try dsimp only at hW); go_split_ands; go_simp; try with_reducible rfl)); try simp only [Act.put, List.setIfInBounds_toArray, List.set_cons_zero, List.set_cons_succ]) | (refine wpPlan_still (Or.inr ⟨by rfl, rfl⟩) ?_; try simp only [Act.put, List.setIfInBounds_toArray, List.set_cons_zero, List.set_cons_succ]))
  refine wpPlan_only (fun K hK => ?_)
  try go_simp
  (go_at_call 16; (with_reducible refine (h16 _ (hS.on (envC E)) (hT.on (envC E))).mono ?_); rintro X wq ⟨rfl, hb⟩)
  replace E := E.on hb
  clear hb
  refine hK.out _ _ (s_f9 E) ?_
  clear hK K
  try simp only [Act.put, List.setIfInBounds_toArray, List.set_cons_zero, List.set_cons_succ]
  refine wpPlan_only (fun K hK => ?_)
  try go_simp
  (go_at_call 17; (with_reducible refine (h17 _ (hS.on (envC E)) (hT.on (envC E))).mono ?_); rintro X wq ⟨rfl, hb⟩)
  replace E := E.on hb
  clear hb
  refine hK.out _ _ (s_f9 E) ?_
  clear hK K
  try simp only [Act.put, List.setIfInBounds_toArray, List.set_cons_zero, List.set_cons_succ]
  iterate 1 (first | (refine wpPlan_still (v := ?_) (Or.inl ⟨by rfl, ?_⟩) ?_; rotate_left; (focus (intro W hW; (try dsimp only at hW); go_split_ands; go_simp; try with_reducible rfl)); try simp only [Act.put, List.setIfInBounds_toArray, List.set_cons_zero, List.set_cons_succ]) | (refine wpPlan_still (Or.inr ⟨by rfl, rfl⟩) ?_; try simp only [Act.put, List.setIfInBounds_toArray, List.set_cons_zero, List.set_cons_succ]))
  refine wpPlan_end ?_
  replace C := E.cells
  simp [BC, CF] at C
  go_upto_region 13 with (first
    | (go_at_call 15; (with_reducible refine (h15 _ (hS.on (envC E)) (hT.on (envC E))).mono ?_); rintro X wq ⟨rfl, hb⟩; replace E := E.on hb; replace C := E.cells; simp [BC, CF] at C; clear hb))
  replace E := E.drw
  refine wp_region_plan 7 [(0, true), (1, true), (2, false), (3, true), (4, true), (5, true), (6, true)] (fun W' => Env w W' [⟨w2.heap.size, 30, #[.int .i64 H.a, .int .i64 H.b, .int .i64 H.c, .int .i64 H.d, .int .i64 H.e, .int .i64 H.f]⟩, ⟨w1.heap.size, 24, #[.slice p l.length c, .slice q h.length d]⟩, ⟨w.heap.size + 1 + 1, 30, #[.int .i64 b.a, .int .i64 b.b, .int .i64 b.c, .int .i64 b.d, .int .i64 b.e, .int .i64 b.f]⟩, ⟨w.heap.size + 1, 28, #[.int .i64 x, .int .i64 y, .int .i64 z]⟩, ⟨w.heap.size, 26, #[.string nm, .slice p l.length c, .slice q h.length d, .int .i64 cv, .int .i64 ag, .int .i64 po]⟩] ∧ W'.cell? ⟨w2.heap.size, 0, none⟩ = some (.int .i64 H.a) ∧ W'.cell? ⟨w2.heap.size, 1, none⟩ = some (.int .i64 H.b) ∧ W'.cell? ⟨w2.heap.size, 2, none⟩ = some (.int .i64 H.c) ∧ W'.cell? ⟨w2.heap.size, 3, none⟩ = some (.int .i64 H.d) ∧ W'.cell? ⟨w2.heap.size, 4, none⟩ = some (.int .i64 H.e) ∧ W'.cell? ⟨w2.heap.size, 5, none⟩ = some (.int .i64 H.f) ∧ W'.cell? ⟨w1.heap.size, 0, none⟩ = some (.slice p l.length c) ∧ W'.cell? ⟨w1.heap.size, 1, none⟩ = some (.slice q h.length d)) (by kernel_rfl) (by kernel_rfl) (fun _ _ d _ _ h => by cases d <;> exact h) (s_f13 E) ?_
  simp only [List.filterMap_cons, List.filterMap_nil, List.getElem?_cons_zero, List.getElem?_cons_succ, Option.map_some, List.drop_succ_cons, List.drop_zero]
  iterate 2 (first | (refine wpPlan_still (v := ?_) (Or.inl ⟨by rfl, ?_⟩) ?_; rotate_left; (focus (intro W hW; (try dsimp only at hW); go_split_ands; go_simp; try with_reducible rfl)); try simp only [Act.put, List.setIfInBounds_toArray, List.set_cons_zero, List.set_cons_succ]) | (refine wpPlan_still (Or.inr ⟨by rfl, rfl⟩) ?_; try simp only [Act.put, List.setIfInBounds_toArray, List.set_cons_zero, List.set_cons_succ]))
  refine wpPlan_only (fun K hK => ?_)
  try go_simp
  (go_at_call 18; (with_reducible refine (h18 _ (hS.on (envC E))).mono ?_); rintro X wq ⟨rfl, hb⟩)
  replace E := E.on hb
  clear hb
  refine hK.out _ _ (s_f13 E) ?_
  clear hK K
  try simp only [Act.put, List.setIfInBounds_toArray, List.set_cons_zero, List.set_cons_succ]
  iterate 4 (first | (refine wpPlan_still (v := ?_) (Or.inl ⟨by rfl, ?_⟩) ?_; rotate_left; (focus (intro W hW; (try dsimp only at hW); go_split_ands; go_simp; try with_reducible rfl)); try simp only [Act.put, List.setIfInBounds_toArray, List.set_cons_zero, List.set_cons_succ]) | (refine wpPlan_still (Or.inr ⟨by rfl, rfl⟩) ?_; try simp only [Act.put, List.setIfInBounds_toArray, List.set_cons_zero, List.set_cons_succ]))
  refine wpPlan_end ?_
  replace C := E.cells
  simp [BC, CF] at C
  clear h10 h11 h12 h13 h14 h16 h17 h18 awk
  rcases hIa with ⟨e1, e2, e3⟩ | ⟨e1, e3⟩ <;> rcases hIb with ⟨e4, e5, e6⟩ | ⟨e4, e6⟩
  · subst e1 e2 e3 e4 e5 e6
    clear h20 h21
    go_wp2_with (first
      | (go_at_call 19; (with_reducible refine (h19p _).mono ?_); rintro X wq ⟨rfl, hb⟩; replace E := E.on hb; replace C := E.cells; simp [BC, CF] at C; clear hb)
      | (go_at_call 19; (with_reducible refine (h19b _).mono ?_); rintro X wq ⟨rfl, hb⟩; replace E := E.on hb; replace C := E.cells; simp [BC, CF] at C; clear hb))
    go_ret
    exact ⟨by simp, E.1⟩
  · subst e1 e2 e3 e4 e6
    replace h21 := h21 rfl
    clear h20
    go_wp2_with (first
      | (go_at_call 19; (with_reducible refine (h19p _).mono ?_); rintro X wq ⟨rfl, hb⟩; replace E := E.on hb; replace C := E.cells; simp [BC, CF] at C; clear hb)
      | (go_at_call 19; (with_reducible refine (h19b _).mono ?_); rintro X wq ⟨rfl, hb⟩; replace E := E.on hb; replace C := E.cells; simp [BC, CF] at C; clear hb)
      | (go_at_call 21; (with_reducible refine (h21 _ (hS.on (envC E)) (hT.on (envC E))).mono ?_); rintro X wq ⟨rfl, hb⟩; replace E := E.on hb; replace C := E.cells; simp [BC, CF] at C; clear hb))
    go_ret
    exact ⟨by simp, E.1⟩
  · subst e1 e3 e4 e5 e6
    replace h20 := h20 rfl
    clear h21
    go_wp2_with (first
      | (go_at_call 19; (with_reducible refine (h19p _).mono ?_); rintro X wq ⟨rfl, hb⟩; replace E := E.on hb; replace C := E.cells; simp [BC, CF] at C; clear hb)
      | (go_at_call 19; (with_reducible refine (h19b _).mono ?_); rintro X wq ⟨rfl, hb⟩; replace E := E.on hb; replace C := E.cells; simp [BC, CF] at C; clear hb)
      | (go_at_call 20; (with_reducible refine (h20 _ (hS.on (envC E)) (hT.on (envC E))).mono ?_); rintro X wq ⟨rfl, hb⟩; replace E := E.on hb; replace C := E.cells; simp [BC, CF] at C; clear hb))
    go_ret
    exact ⟨by simp, E.1⟩
  · subst e1 e3 e4 e6
    replace h20 := h20 rfl
    replace h21 := h21 rfl
    go_wp2_with (first
      | (go_at_call 19; (with_reducible refine (h19p _).mono ?_); rintro X wq ⟨rfl, hb⟩; replace E := E.on hb; replace C := E.cells; simp [BC, CF] at C; clear hb)
      | (go_at_call 19; (with_reducible refine (h19b _).mono ?_); rintro X wq ⟨rfl, hb⟩; replace E := E.on hb; replace C := E.cells; simp [BC, CF] at C; clear hb)
      | (go_at_call 20; (with_reducible refine (h20 _ (hS.on (envC E)) (hT.on (envC E))).mono ?_); rintro X wq ⟨rfl, hb⟩; replace E := E.on hb; replace C := E.cells; simp [BC, CF] at C; clear hb)
      | (go_at_call 21; (with_reducible refine (h21 _ (hS.on (envC E)) (hT.on (envC E))).mono ?_); rintro X wq ⟨rfl, hb⟩; replace E := E.on hb; replace C := E.cells; simp [BC, CF] at C; clear hb))
    go_ret
    exact ⟨by simp, E.1⟩
theorem forms_walk (p q : Option Addr) (l h : List Bx) (c d : Nat) (nm : ByteArray) (cv ag po : Int) (x y z : Int) (b : Bx) (w : World) (hS : Sl w p l) (hT : Sl w q h) (hc : l.length ≤ c) :
    Calls Try.prog 3 #[.agg #[.string nm, .slice p l.length c, .slice q h.length d, .int .i64 cv, .int .i64 ag, .int .i64 po], .agg #[.int .i64 x, .int .i64 y, .int .i64 z], b.val] w fun e w' => e = .returned (.bool true) ∧ Below w.heap.size w w' := by
  cases hm : smallB l h
  · exact forms_skip p q l h c d nm cv ag po x y z b w hS hT (.inl hm)
  rcases Nat.lt_or_ge 60 nm.size with h60 | h60
  · exact forms_skip p q l h c d nm cv ag po x y z b w hS hT (.inr h60)
  cases hs : okS l h
  · exact forms_bad p q l h c d nm cv ag po x y z b w hS hT hm h60 hs
  · exact forms_ok p q l h c d nm cv ag po x y z b w hS hT hc hm h60 hs
end Go.Proofs.Ytkgaahmehmbfjaa
