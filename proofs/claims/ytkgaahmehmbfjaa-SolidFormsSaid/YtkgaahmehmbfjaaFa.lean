/- small; the reference's cuts, Contains, Inside; Hull of both. -/
import Derived.Test.YtkgaahmehmbfjaaRv
import Derived.Test.YtkgaahmehmbfjaaHv1
import Derived.Test.YtkgaahmehmbfjaaZ8
import Derived.Test.YtkgaahmehmbfjaaZ2
import Derived.Test.YtkgaahmehmbfjaaZ9
namespace Go.Proofs.Ytkgaahmehmbfjaa
open Go.ChangeShapes Go.WideShapes Go.ChangeAt Go.RowKit
set_option linter.unusedVariables false
set_option linter.unusedSimpArgs false

def smallB (l h : List Bx) : Bool := (decide (l.length ≤ 4) || decide (20 < l.length)) && decide (l.length ≤ 25) && (decide (h.length ≤ 4) || decide (20 < h.length)) && decide (h.length ≤ 25)
theorem small_ok {l h : List Bx} (hs : smallB l h = true) (hv : okS l h = true) : l.length ≤ 4 ∧ h.length ≤ 4 := by
  have := (okS_i.1 hv).1
  have := (okS_i.1 hv).2.1
  unfold smallB at hs
  simp only [Bool.and_eq_true, Bool.or_eq_true, decide_eq_true_eq] at hs
  omega
set_option maxHeartbeats 8000000 in
set_option maxRecDepth 100000 in
theorem small_44 (p q : Option Addr) (l h : List Bx) (c d : Nat) (w : World) (hS : Sl w p l) (hT : Sl w q h) :
    Calls Try.prog 44 #[.agg #[.slice p l.length c, .slice q h.length d], .int .i64 4] w fun e w' => e = .returned (.bool (smallB l h)) ∧ Below w.heap.size w w' := by
  have hm := hS.2.2
  have hn := hT.2.2
  unfold maxLen at hm hn
  have E := (Env.nil w).add w.heap.size 24 #[.slice p l.length c, .slice q h.length d] rfl
  have c0 := E.2.2.1.read 0
  have c1 := E.2.2.1.read 1
  simp only [List.getElem?_toArray, List.getElem?_cons_succ, List.getElem?_cons_zero] at c0 c1
  have HE := Lib.hid (envC E.drw)
  have main : ∀ a b e f : Bool, decide ((l.length : Int) ≤ 4) = a → decide ((20 : Int) < (l.length : Int)) = b → decide ((l.length : Int) ≤ 25) = e → decide ((h.length : Int) ≤ 4) = f → ∀ g k : Bool, decide ((20 : Int) < (h.length : Int)) = g → decide ((h.length : Int) ≤ 25) = k → ((a || b) && e && (f || g) && k) = smallB l h →
      Calls Try.prog 44 #[.agg #[.slice p l.length c, .slice q h.length d], .int .i64 4] w fun e w' => e = .returned (.bool (smallB l h)) ∧ Below w.heap.size w w' := by
    intro a b e f q1 q2 q3 q4 g k q5 q6 hq
    rw [← hq]
    clear hq
    go_enter Try.func44, Try.ntmps44
    go_upto_region 1 with fail
    refine wp_region_plan 7 [(0, true), (1, true), (2, true), (3, true), (4, true), (5, true), (6, true)] (fun W' => W'.cell? ⟨w.heap.size, 0, none⟩ = some (.slice p l.length c) ∧ W'.cell? ⟨w.heap.size, 1, none⟩ = some (.slice q h.length d)) (by kernel_rfl) (by kernel_rfl) (fun _ _ d _ _ h => by cases d <;> exact h) ⟨c0, c1⟩ ?_
    simp only [List.filterMap_cons, List.filterMap_nil, List.getElem?_cons_zero, List.getElem?_cons_succ, Option.map_some, List.drop_succ_cons, List.drop_zero]
    iterate 7 (first | (refine wpPlan_still (v := ?_) (Or.inl ⟨by rfl, ?_⟩) ?_; rotate_left; (focus (intro W hW; (try dsimp only at hW); go_split_ands; go_simp; try with_reducible rfl)); try simp only [Act.put, List.setIfInBounds_toArray, List.set_cons_zero, List.set_cons_succ]) | (refine wpPlan_still (Or.inr ⟨by rfl, rfl⟩) ?_; try simp only [Act.put, List.setIfInBounds_toArray, List.set_cons_zero, List.set_cons_succ]))
    refine wpPlan_end ?_
    cases a <;> cases b <;> cases e <;> cases f <;> cases g <;> cases k <;> (go_wp2; go_ret; exact ⟨rfl, HE.out⟩)
  refine main _ _ _ _ rfl rfl rfl rfl _ _ rfl rfl ?_
  unfold smallB
  simp only [show ∀ m : Nat, decide ((m : Int) ≤ 4) = decide (m ≤ 4) from fun m => by simp only [decide_eq_decide]; omega, show ∀ m : Nat, decide ((20 : Int) < (m : Int)) = decide (20 < m) from fun m => by simp only [decide_eq_decide]; omega, show ∀ m : Nat, decide ((m : Int) ≤ 25) = decide (m ≤ 25) from fun m => by simp only [decide_eq_decide]; omega]
set_option maxHeartbeats 8000000 in
set_option maxRecDepth 100000 in
theorem small_10 (p q : Option Addr) (l h : List Bx) (c d : Nat) (w : World) (hS : Sl w p l) (hT : Sl w q h) :
    Calls Try.prog 10 #[.agg #[.slice p l.length c, .slice q h.length d]] w fun e w' => e = .returned (.bool (smallB l h)) ∧ Below w.heap.size w w' := by
  have h44 := fun W a b => small_44 p q l h c d W a b
  have E := (Env.nil w).add w.heap.size 24 #[.slice p l.length c, .slice q h.length d] rfl
  have C := E.cells
  simp [BC, CF] at C
  go_enter Try.func10, Try.ntmps10
  go_wp2_with (first
    | (go_at_call 44; (with_reducible refine (h44 _ (hS.on (envC E)) (hT.on (envC E))).mono ?_); rintro X wq ⟨rfl, hb⟩; replace E := E.on hb; replace C := E.cells; simp [BC, CF] at C; clear hb))
  go_ret
  exact ⟨rfl, E.1⟩
theorem two_box {x b : Bx} {w W : World} (E : Env w W [⟨w.heap.size + 1, 30, #[.int .i64 b.a, .int .i64 b.b, .int .i64 b.c, .int .i64 b.d, .int .i64 b.e, .int .i64 b.f]⟩, ⟨w.heap.size, 30, #[.int .i64 x.a, .int .i64 x.b, .int .i64 x.c, .int .i64 x.d, .int .i64 x.e, .int .i64 x.f]⟩]) : W.cell? ⟨w.heap.size, 0, none⟩ = some (.int .i64 x.a) ∧ W.cell? ⟨w.heap.size, 1, none⟩ = some (.int .i64 x.b) ∧ W.cell? ⟨w.heap.size, 2, none⟩ = some (.int .i64 x.c) ∧ W.cell? ⟨w.heap.size, 3, none⟩ = some (.int .i64 x.d) ∧ W.cell? ⟨w.heap.size, 4, none⟩ = some (.int .i64 x.e) ∧ W.cell? ⟨w.heap.size, 5, none⟩ = some (.int .i64 x.f) ∧ W.cell? ⟨w.heap.size + 1, 0, none⟩ = some (.int .i64 b.a) ∧ W.cell? ⟨w.heap.size + 1, 1, none⟩ = some (.int .i64 b.b) ∧ W.cell? ⟨w.heap.size + 1, 2, none⟩ = some (.int .i64 b.c) ∧ W.cell? ⟨w.heap.size + 1, 3, none⟩ = some (.int .i64 b.d) ∧ W.cell? ⟨w.heap.size + 1, 4, none⟩ = some (.int .i64 b.e) ∧ W.cell? ⟨w.heap.size + 1, 5, none⟩ = some (.int .i64 b.f) :=
  ⟨E.2.2.2.2.2.1.read 0, E.2.2.2.2.2.1.read 1, E.2.2.2.2.2.1.read 2, E.2.2.2.2.2.1.read 3, E.2.2.2.2.2.1.read 4, E.2.2.2.2.2.1.read 5, E.2.2.1.read 0, E.2.2.1.read 1, E.2.2.1.read 2, E.2.2.1.read 3, E.2.2.1.read 4, E.2.2.1.read 5⟩
theorem cut_iff (x b : Bx) : decide (gapB x b < 0) = (!(decide (b.a ≥ x.d) || decide (b.d ≤ x.a)) && !(decide (b.b ≥ x.e) || decide (b.e ≤ x.b)) && !(decide (b.c ≥ x.f) || decide (b.f ≤ x.c))) := by
  rw [Bool.eq_iff_iff]
  simp only [Bool.and_eq_true, Bool.not_eq_true', Bool.or_eq_false_iff, decide_eq_true_eq, decide_eq_false_iff_not, gap_neg]
  omega
set_option maxHeartbeats 8000000 in
set_option maxRecDepth 100000 in
theorem cuts_54 (x b : Bx) (w : World) : Calls Try.prog 54 #[x.val, b.val] w fun e w' => e = .returned (.bool (decide (gapB x b < 0))) ∧ Below w.heap.size w w' := by
  obtain ⟨RES, hRES⟩ : ∃ R, R = decide (gapB x b < 0) := ⟨_, rfl⟩
  rw [← hRES]
  have hg := gap_neg x b
  have HR : Hid (RES = decide ((x.a < b.d ∧ b.a < x.d) ∧ (x.b < b.e ∧ b.b < x.e) ∧ x.c < b.f ∧ b.c < x.f)) := Lib.hid (hRES.trans (by simp only [decide_eq_decide]; exact hg))
  clear hRES hg
  have E := ((Env.nil w).add w.heap.size 30 #[.int .i64 x.a, .int .i64 x.b, .int .i64 x.c, .int .i64 x.d, .int .i64 x.e, .int .i64 x.f] rfl).add (w.heap.size + 1) 30 #[.int .i64 b.a, .int .i64 b.b, .int .i64 b.c, .int .i64 b.d, .int .i64 b.e, .int .i64 b.f] (by simp)
  unfold Bx.val
  go_enter Try.func54, Try.ntmps54
  go_upto_region 2 with fail
  go_loopw [5] (fun v wr => ∃ i : Nat, v = .int .i64 (i : Int) ∧ i ≤ 3 ∧ Hid (∀ j, j < i → pk b.a b.b b.c j < pk x.d x.e x.f j ∧ pk x.a x.b x.c j < pk b.d b.e b.f j) ∧ Env w wr [⟨w.heap.size + 1, 30, #[.int .i64 b.a, .int .i64 b.b, .int .i64 b.c, .int .i64 b.d, .int .i64 b.e, .int .i64 b.f]⟩, ⟨w.heap.size, 30, #[.int .i64 x.a, .int .i64 x.b, .int .i64 x.c, .int .i64 x.d, .int .i64 x.e, .int .i64 x.f]⟩]) (fun v _ => 3 - (intOf v).toNat)
  case atStart => exact ⟨0, rfl, by omega, Lib.hid (fun j hj => by omega), E⟩
  case round =>
  clear E
  obtain ⟨i, rfl, hi, HK, E⟩ := hrel
  rcases (by omega : i = 0 ∨ i = 1 ∨ i = 2 ∨ i = 3) with rfl | rfl | rfl | rfl
  · by_cases c1 : b.a ≥ x.d
    · have q1 : decide (b.a ≥ x.d) = true := by simp; omega
      have q1' : decide (x.d ≤ b.a) = true := by simp; omega
      have e : RES = false := HR.out.trans (by simp; omega)
      subst e
      clear HR HK
      have k0 := fun W => rcoord0 b.a b.b b.c W
      have k1 := fun W => rcoord0 x.d x.e x.f W
      have k2 := fun W => rcoord0 b.d b.e b.f W
      have k3 := fun W => rcoord0 x.a x.b x.c W
      go_upto_region 4 with fail
      replace E := E.drw
      refine wp_region_plan 19 [(0, true), (1, true), (2, true), (4, true), (5, true), (6, true), (3, false), (7, false), (8, true), (9, true), (10, true), (11, true), (12, true), (14, true), (15, true), (16, true), (13, false), (17, false), (18, true)] (fun W' => W'.cell? ⟨w.heap.size, 0, none⟩ = some (.int .i64 x.a) ∧ W'.cell? ⟨w.heap.size, 1, none⟩ = some (.int .i64 x.b) ∧ W'.cell? ⟨w.heap.size, 2, none⟩ = some (.int .i64 x.c) ∧ W'.cell? ⟨w.heap.size, 3, none⟩ = some (.int .i64 x.d) ∧ W'.cell? ⟨w.heap.size, 4, none⟩ = some (.int .i64 x.e) ∧ W'.cell? ⟨w.heap.size, 5, none⟩ = some (.int .i64 x.f) ∧ W'.cell? ⟨w.heap.size + 1, 0, none⟩ = some (.int .i64 b.a) ∧ W'.cell? ⟨w.heap.size + 1, 1, none⟩ = some (.int .i64 b.b) ∧ W'.cell? ⟨w.heap.size + 1, 2, none⟩ = some (.int .i64 b.c) ∧ W'.cell? ⟨w.heap.size + 1, 3, none⟩ = some (.int .i64 b.d) ∧ W'.cell? ⟨w.heap.size + 1, 4, none⟩ = some (.int .i64 b.e) ∧ W'.cell? ⟨w.heap.size + 1, 5, none⟩ = some (.int .i64 b.f)) (by kernel_rfl) (by kernel_rfl) (fun _ _ d _ _ h => by cases d <;> exact h) (two_box E) ?_
      simp only [List.filterMap_cons, List.filterMap_nil, List.getElem?_cons_zero, List.getElem?_cons_succ, Option.map_some, List.drop_succ_cons, List.drop_zero]
      iterate 6 (first | (refine wpPlan_still (v := ?_) (Or.inl ⟨by rfl, ?_⟩) ?_; rotate_left; (focus (intro W hW; (try dsimp only at hW); go_split_ands; go_simp; try with_reducible rfl)); try simp only [Act.put, List.setIfInBounds_toArray, List.set_cons_zero, List.set_cons_succ]) | (refine wpPlan_still (Or.inr ⟨by rfl, rfl⟩) ?_; try simp only [Act.put, List.setIfInBounds_toArray, List.set_cons_zero, List.set_cons_succ]))
      refine wpPlan_only (fun K hK => ?_)
      try go_simp
      (go_at_call 39; (with_reducible refine (k0 _).mono ?_); rintro X wq ⟨rfl, hb⟩)
      replace E := E.on hb
      clear hb
      refine hK.out _ _ (two_box E) ?_
      clear hK K
      try simp only [Act.put, List.setIfInBounds_toArray, List.set_cons_zero, List.set_cons_succ]
      refine wpPlan_only (fun K hK => ?_)
      try go_simp
      (go_at_call 39; (with_reducible refine (k1 _).mono ?_); rintro X wq ⟨rfl, hb⟩)
      replace E := E.on hb
      clear hb
      refine hK.out _ _ (two_box E) ?_
      clear hK K
      try simp only [Act.put, List.setIfInBounds_toArray, List.set_cons_zero, List.set_cons_succ]
      iterate 8 (first | (refine wpPlan_still (v := ?_) (Or.inl ⟨by rfl, ?_⟩) ?_; rotate_left; (focus (intro W hW; (try dsimp only at hW); go_split_ands; go_simp; try with_reducible rfl)); try simp only [Act.put, List.setIfInBounds_toArray, List.set_cons_zero, List.set_cons_succ]) | (refine wpPlan_still (Or.inr ⟨by rfl, rfl⟩) ?_; try simp only [Act.put, List.setIfInBounds_toArray, List.set_cons_zero, List.set_cons_succ]))
      refine wpPlan_only (fun K hK => ?_)
      rw [if_neg (by exact Bool.false_ne_true)]
      refine hK.out _ _ (two_box E) ?_
      clear hK K
      try simp only [Act.put, List.setIfInBounds_toArray, List.set_cons_zero, List.set_cons_succ]
      refine wpPlan_only (fun K hK => ?_)
      rw [if_neg (by exact Bool.false_ne_true)]
      refine hK.out _ _ (two_box E) ?_
      clear hK K
      try simp only [Act.put, List.setIfInBounds_toArray, List.set_cons_zero, List.set_cons_succ]
      iterate 1 (first | (refine wpPlan_still (v := ?_) (Or.inl ⟨by rfl, ?_⟩) ?_; rotate_left; (focus (intro W hW; (try dsimp only at hW); go_split_ands; go_simp; try with_reducible rfl)); try simp only [Act.put, List.setIfInBounds_toArray, List.set_cons_zero, List.set_cons_succ]) | (refine wpPlan_still (Or.inr ⟨by rfl, rfl⟩) ?_; try simp only [Act.put, List.setIfInBounds_toArray, List.set_cons_zero, List.set_cons_succ]))
      refine wpPlan_end ?_
      have C := E.cells
      simp [BC, CF] at C
      go_wp2
      go_ret
      exact ⟨rfl, E.1⟩
    have q1 : decide (b.a ≥ x.d) = false := by simp; omega
    have q1' : decide (x.d ≤ b.a) = false := by simp; omega
    by_cases c2 : b.d ≤ x.a
    · have q2 : decide (b.d ≤ x.a) = true := by simp; omega
      have e : RES = false := HR.out.trans (by simp; omega)
      subst e
      clear HR HK
      have k0 := fun W => rcoord0 b.a b.b b.c W
      have k1 := fun W => rcoord0 x.d x.e x.f W
      have k2 := fun W => rcoord0 b.d b.e b.f W
      have k3 := fun W => rcoord0 x.a x.b x.c W
      go_upto_region 4 with fail
      replace E := E.drw
      refine wp_region_plan 19 [(0, true), (1, true), (2, true), (4, true), (5, true), (6, true), (3, false), (7, false), (8, true), (9, true), (10, true), (11, true), (12, true), (14, true), (15, true), (16, true), (13, false), (17, false), (18, true)] (fun W' => W'.cell? ⟨w.heap.size, 0, none⟩ = some (.int .i64 x.a) ∧ W'.cell? ⟨w.heap.size, 1, none⟩ = some (.int .i64 x.b) ∧ W'.cell? ⟨w.heap.size, 2, none⟩ = some (.int .i64 x.c) ∧ W'.cell? ⟨w.heap.size, 3, none⟩ = some (.int .i64 x.d) ∧ W'.cell? ⟨w.heap.size, 4, none⟩ = some (.int .i64 x.e) ∧ W'.cell? ⟨w.heap.size, 5, none⟩ = some (.int .i64 x.f) ∧ W'.cell? ⟨w.heap.size + 1, 0, none⟩ = some (.int .i64 b.a) ∧ W'.cell? ⟨w.heap.size + 1, 1, none⟩ = some (.int .i64 b.b) ∧ W'.cell? ⟨w.heap.size + 1, 2, none⟩ = some (.int .i64 b.c) ∧ W'.cell? ⟨w.heap.size + 1, 3, none⟩ = some (.int .i64 b.d) ∧ W'.cell? ⟨w.heap.size + 1, 4, none⟩ = some (.int .i64 b.e) ∧ W'.cell? ⟨w.heap.size + 1, 5, none⟩ = some (.int .i64 b.f)) (by kernel_rfl) (by kernel_rfl) (fun _ _ d _ _ h => by cases d <;> exact h) (two_box E) ?_
      simp only [List.filterMap_cons, List.filterMap_nil, List.getElem?_cons_zero, List.getElem?_cons_succ, Option.map_some, List.drop_succ_cons, List.drop_zero]
      iterate 6 (first | (refine wpPlan_still (v := ?_) (Or.inl ⟨by rfl, ?_⟩) ?_; rotate_left; (focus (intro W hW; (try dsimp only at hW); go_split_ands; go_simp; try with_reducible rfl)); try simp only [Act.put, List.setIfInBounds_toArray, List.set_cons_zero, List.set_cons_succ]) | (refine wpPlan_still (Or.inr ⟨by rfl, rfl⟩) ?_; try simp only [Act.put, List.setIfInBounds_toArray, List.set_cons_zero, List.set_cons_succ]))
      refine wpPlan_only (fun K hK => ?_)
      try go_simp
      (go_at_call 39; (with_reducible refine (k0 _).mono ?_); rintro X wq ⟨rfl, hb⟩)
      replace E := E.on hb
      clear hb
      refine hK.out _ _ (two_box E) ?_
      clear hK K
      try simp only [Act.put, List.setIfInBounds_toArray, List.set_cons_zero, List.set_cons_succ]
      refine wpPlan_only (fun K hK => ?_)
      try go_simp
      (go_at_call 39; (with_reducible refine (k1 _).mono ?_); rintro X wq ⟨rfl, hb⟩)
      replace E := E.on hb
      clear hb
      refine hK.out _ _ (two_box E) ?_
      clear hK K
      try simp only [Act.put, List.setIfInBounds_toArray, List.set_cons_zero, List.set_cons_succ]
      iterate 8 (first | (refine wpPlan_still (v := ?_) (Or.inl ⟨by rfl, ?_⟩) ?_; rotate_left; (focus (intro W hW; (try dsimp only at hW); go_split_ands; go_simp; try with_reducible rfl)); try simp only [Act.put, List.setIfInBounds_toArray, List.set_cons_zero, List.set_cons_succ]) | (refine wpPlan_still (Or.inr ⟨by rfl, rfl⟩) ?_; try simp only [Act.put, List.setIfInBounds_toArray, List.set_cons_zero, List.set_cons_succ]))
      refine wpPlan_only (fun K hK => ?_)
      try go_simp
      (go_at_call 39; (with_reducible refine (k2 _).mono ?_); rintro X wq ⟨rfl, hb⟩)
      replace E := E.on hb
      clear hb
      refine hK.out _ _ (two_box E) ?_
      clear hK K
      try simp only [Act.put, List.setIfInBounds_toArray, List.set_cons_zero, List.set_cons_succ]
      refine wpPlan_only (fun K hK => ?_)
      try go_simp
      (go_at_call 39; (with_reducible refine (k3 _).mono ?_); rintro X wq ⟨rfl, hb⟩)
      replace E := E.on hb
      clear hb
      refine hK.out _ _ (two_box E) ?_
      clear hK K
      try simp only [Act.put, List.setIfInBounds_toArray, List.set_cons_zero, List.set_cons_succ]
      iterate 1 (first | (refine wpPlan_still (v := ?_) (Or.inl ⟨by rfl, ?_⟩) ?_; rotate_left; (focus (intro W hW; (try dsimp only at hW); go_split_ands; go_simp; try with_reducible rfl)); try simp only [Act.put, List.setIfInBounds_toArray, List.set_cons_zero, List.set_cons_succ]) | (refine wpPlan_still (Or.inr ⟨by rfl, rfl⟩) ?_; try simp only [Act.put, List.setIfInBounds_toArray, List.set_cons_zero, List.set_cons_succ]))
      refine wpPlan_end ?_
      have C := E.cells
      simp [BC, CF] at C
      go_wp2
      go_ret
      exact ⟨rfl, E.1⟩
    · have q2 : decide (b.d ≤ x.a) = false := by simp; omega
      have HK2 : Hid (∀ j, j < 1 → pk b.a b.b b.c j < pk x.d x.e x.f j ∧ pk x.a x.b x.c j < pk b.d b.e b.f j) := Lib.hid (fun j hj => by
        rcases (by omega : j < 0 ∨ j = 0) with hj | rfl
        · exact HK.out j hj
        · simp only [pk]; omega)
      clear c1 c2 HK
      have k0 := fun W => rcoord0 b.a b.b b.c W
      have k1 := fun W => rcoord0 x.d x.e x.f W
      have k2 := fun W => rcoord0 b.d b.e b.f W
      have k3 := fun W => rcoord0 x.a x.b x.c W
      go_upto_region 4 with fail
      replace E := E.drw
      refine wp_region_plan 19 [(0, true), (1, true), (2, true), (4, true), (5, true), (6, true), (3, false), (7, false), (8, true), (9, true), (10, true), (11, true), (12, true), (14, true), (15, true), (16, true), (13, false), (17, false), (18, true)] (fun W' => W'.cell? ⟨w.heap.size, 0, none⟩ = some (.int .i64 x.a) ∧ W'.cell? ⟨w.heap.size, 1, none⟩ = some (.int .i64 x.b) ∧ W'.cell? ⟨w.heap.size, 2, none⟩ = some (.int .i64 x.c) ∧ W'.cell? ⟨w.heap.size, 3, none⟩ = some (.int .i64 x.d) ∧ W'.cell? ⟨w.heap.size, 4, none⟩ = some (.int .i64 x.e) ∧ W'.cell? ⟨w.heap.size, 5, none⟩ = some (.int .i64 x.f) ∧ W'.cell? ⟨w.heap.size + 1, 0, none⟩ = some (.int .i64 b.a) ∧ W'.cell? ⟨w.heap.size + 1, 1, none⟩ = some (.int .i64 b.b) ∧ W'.cell? ⟨w.heap.size + 1, 2, none⟩ = some (.int .i64 b.c) ∧ W'.cell? ⟨w.heap.size + 1, 3, none⟩ = some (.int .i64 b.d) ∧ W'.cell? ⟨w.heap.size + 1, 4, none⟩ = some (.int .i64 b.e) ∧ W'.cell? ⟨w.heap.size + 1, 5, none⟩ = some (.int .i64 b.f)) (by kernel_rfl) (by kernel_rfl) (fun _ _ d _ _ h => by cases d <;> exact h) (two_box E) ?_
      simp only [List.filterMap_cons, List.filterMap_nil, List.getElem?_cons_zero, List.getElem?_cons_succ, Option.map_some, List.drop_succ_cons, List.drop_zero]
      iterate 6 (first | (refine wpPlan_still (v := ?_) (Or.inl ⟨by rfl, ?_⟩) ?_; rotate_left; (focus (intro W hW; (try dsimp only at hW); go_split_ands; go_simp; try with_reducible rfl)); try simp only [Act.put, List.setIfInBounds_toArray, List.set_cons_zero, List.set_cons_succ]) | (refine wpPlan_still (Or.inr ⟨by rfl, rfl⟩) ?_; try simp only [Act.put, List.setIfInBounds_toArray, List.set_cons_zero, List.set_cons_succ]))
      refine wpPlan_only (fun K hK => ?_)
      try go_simp
      (go_at_call 39; (with_reducible refine (k0 _).mono ?_); rintro X wq ⟨rfl, hb⟩)
      replace E := E.on hb
      clear hb
      refine hK.out _ _ (two_box E) ?_
      clear hK K
      try simp only [Act.put, List.setIfInBounds_toArray, List.set_cons_zero, List.set_cons_succ]
      refine wpPlan_only (fun K hK => ?_)
      try go_simp
      (go_at_call 39; (with_reducible refine (k1 _).mono ?_); rintro X wq ⟨rfl, hb⟩)
      replace E := E.on hb
      clear hb
      refine hK.out _ _ (two_box E) ?_
      clear hK K
      try simp only [Act.put, List.setIfInBounds_toArray, List.set_cons_zero, List.set_cons_succ]
      iterate 8 (first | (refine wpPlan_still (v := ?_) (Or.inl ⟨by rfl, ?_⟩) ?_; rotate_left; (focus (intro W hW; (try dsimp only at hW); go_split_ands; go_simp; try with_reducible rfl)); try simp only [Act.put, List.setIfInBounds_toArray, List.set_cons_zero, List.set_cons_succ]) | (refine wpPlan_still (Or.inr ⟨by rfl, rfl⟩) ?_; try simp only [Act.put, List.setIfInBounds_toArray, List.set_cons_zero, List.set_cons_succ]))
      refine wpPlan_only (fun K hK => ?_)
      try go_simp
      (go_at_call 39; (with_reducible refine (k2 _).mono ?_); rintro X wq ⟨rfl, hb⟩)
      replace E := E.on hb
      clear hb
      refine hK.out _ _ (two_box E) ?_
      clear hK K
      try simp only [Act.put, List.setIfInBounds_toArray, List.set_cons_zero, List.set_cons_succ]
      refine wpPlan_only (fun K hK => ?_)
      try go_simp
      (go_at_call 39; (with_reducible refine (k3 _).mono ?_); rintro X wq ⟨rfl, hb⟩)
      replace E := E.on hb
      clear hb
      refine hK.out _ _ (two_box E) ?_
      clear hK K
      try simp only [Act.put, List.setIfInBounds_toArray, List.set_cons_zero, List.set_cons_succ]
      iterate 1 (first | (refine wpPlan_still (v := ?_) (Or.inl ⟨by rfl, ?_⟩) ?_; rotate_left; (focus (intro W hW; (try dsimp only at hW); go_split_ands; go_simp; try with_reducible rfl)); try simp only [Act.put, List.setIfInBounds_toArray, List.set_cons_zero, List.set_cons_succ]) | (refine wpPlan_still (Or.inr ⟨by rfl, rfl⟩) ?_; try simp only [Act.put, List.setIfInBounds_toArray, List.set_cons_zero, List.set_cons_succ]))
      refine wpPlan_end ?_
      have C := E.cells
      simp [BC, CF] at C
      go_wp2
      exact ⟨⟨1, rfl, by omega, HK2, E⟩, by simp [intOf]⟩
  · by_cases c1 : b.b ≥ x.e
    · have q1 : decide (b.b ≥ x.e) = true := by simp; omega
      have q1' : decide (x.e ≤ b.b) = true := by simp; omega
      have e : RES = false := HR.out.trans (by simp; omega)
      subst e
      clear HR HK
      have k0 := fun W => rcoord1 b.a b.b b.c W
      have k1 := fun W => rcoord1 x.d x.e x.f W
      have k2 := fun W => rcoord1 b.d b.e b.f W
      have k3 := fun W => rcoord1 x.a x.b x.c W
      go_upto_region 4 with fail
      replace E := E.drw
      refine wp_region_plan 19 [(0, true), (1, true), (2, true), (4, true), (5, true), (6, true), (3, false), (7, false), (8, true), (9, true), (10, true), (11, true), (12, true), (14, true), (15, true), (16, true), (13, false), (17, false), (18, true)] (fun W' => W'.cell? ⟨w.heap.size, 0, none⟩ = some (.int .i64 x.a) ∧ W'.cell? ⟨w.heap.size, 1, none⟩ = some (.int .i64 x.b) ∧ W'.cell? ⟨w.heap.size, 2, none⟩ = some (.int .i64 x.c) ∧ W'.cell? ⟨w.heap.size, 3, none⟩ = some (.int .i64 x.d) ∧ W'.cell? ⟨w.heap.size, 4, none⟩ = some (.int .i64 x.e) ∧ W'.cell? ⟨w.heap.size, 5, none⟩ = some (.int .i64 x.f) ∧ W'.cell? ⟨w.heap.size + 1, 0, none⟩ = some (.int .i64 b.a) ∧ W'.cell? ⟨w.heap.size + 1, 1, none⟩ = some (.int .i64 b.b) ∧ W'.cell? ⟨w.heap.size + 1, 2, none⟩ = some (.int .i64 b.c) ∧ W'.cell? ⟨w.heap.size + 1, 3, none⟩ = some (.int .i64 b.d) ∧ W'.cell? ⟨w.heap.size + 1, 4, none⟩ = some (.int .i64 b.e) ∧ W'.cell? ⟨w.heap.size + 1, 5, none⟩ = some (.int .i64 b.f)) (by kernel_rfl) (by kernel_rfl) (fun _ _ d _ _ h => by cases d <;> exact h) (two_box E) ?_
      simp only [List.filterMap_cons, List.filterMap_nil, List.getElem?_cons_zero, List.getElem?_cons_succ, Option.map_some, List.drop_succ_cons, List.drop_zero]
      iterate 6 (first | (refine wpPlan_still (v := ?_) (Or.inl ⟨by rfl, ?_⟩) ?_; rotate_left; (focus (intro W hW; (try dsimp only at hW); go_split_ands; go_simp; try with_reducible rfl)); try simp only [Act.put, List.setIfInBounds_toArray, List.set_cons_zero, List.set_cons_succ]) | (refine wpPlan_still (Or.inr ⟨by rfl, rfl⟩) ?_; try simp only [Act.put, List.setIfInBounds_toArray, List.set_cons_zero, List.set_cons_succ]))
      refine wpPlan_only (fun K hK => ?_)
      try go_simp
      (go_at_call 39; (with_reducible refine (k0 _).mono ?_); rintro X wq ⟨rfl, hb⟩)
      replace E := E.on hb
      clear hb
      refine hK.out _ _ (two_box E) ?_
      clear hK K
      try simp only [Act.put, List.setIfInBounds_toArray, List.set_cons_zero, List.set_cons_succ]
      refine wpPlan_only (fun K hK => ?_)
      try go_simp
      (go_at_call 39; (with_reducible refine (k1 _).mono ?_); rintro X wq ⟨rfl, hb⟩)
      replace E := E.on hb
      clear hb
      refine hK.out _ _ (two_box E) ?_
      clear hK K
      try simp only [Act.put, List.setIfInBounds_toArray, List.set_cons_zero, List.set_cons_succ]
      iterate 8 (first | (refine wpPlan_still (v := ?_) (Or.inl ⟨by rfl, ?_⟩) ?_; rotate_left; (focus (intro W hW; (try dsimp only at hW); go_split_ands; go_simp; try with_reducible rfl)); try simp only [Act.put, List.setIfInBounds_toArray, List.set_cons_zero, List.set_cons_succ]) | (refine wpPlan_still (Or.inr ⟨by rfl, rfl⟩) ?_; try simp only [Act.put, List.setIfInBounds_toArray, List.set_cons_zero, List.set_cons_succ]))
      refine wpPlan_only (fun K hK => ?_)
      rw [if_neg (by exact Bool.false_ne_true)]
      refine hK.out _ _ (two_box E) ?_
      clear hK K
      try simp only [Act.put, List.setIfInBounds_toArray, List.set_cons_zero, List.set_cons_succ]
      refine wpPlan_only (fun K hK => ?_)
      rw [if_neg (by exact Bool.false_ne_true)]
      refine hK.out _ _ (two_box E) ?_
      clear hK K
      try simp only [Act.put, List.setIfInBounds_toArray, List.set_cons_zero, List.set_cons_succ]
      iterate 1 (first | (refine wpPlan_still (v := ?_) (Or.inl ⟨by rfl, ?_⟩) ?_; rotate_left; (focus (intro W hW; (try dsimp only at hW); go_split_ands; go_simp; try with_reducible rfl)); try simp only [Act.put, List.setIfInBounds_toArray, List.set_cons_zero, List.set_cons_succ]) | (refine wpPlan_still (Or.inr ⟨by rfl, rfl⟩) ?_; try simp only [Act.put, List.setIfInBounds_toArray, List.set_cons_zero, List.set_cons_succ]))
      refine wpPlan_end ?_
      have C := E.cells
      simp [BC, CF] at C
      go_wp2
      go_ret
      exact ⟨rfl, E.1⟩
    have q1 : decide (b.b ≥ x.e) = false := by simp; omega
    have q1' : decide (x.e ≤ b.b) = false := by simp; omega
    by_cases c2 : b.e ≤ x.b
    · have q2 : decide (b.e ≤ x.b) = true := by simp; omega
      have e : RES = false := HR.out.trans (by simp; omega)
      subst e
      clear HR HK
      have k0 := fun W => rcoord1 b.a b.b b.c W
      have k1 := fun W => rcoord1 x.d x.e x.f W
      have k2 := fun W => rcoord1 b.d b.e b.f W
      have k3 := fun W => rcoord1 x.a x.b x.c W
      go_upto_region 4 with fail
      replace E := E.drw
      refine wp_region_plan 19 [(0, true), (1, true), (2, true), (4, true), (5, true), (6, true), (3, false), (7, false), (8, true), (9, true), (10, true), (11, true), (12, true), (14, true), (15, true), (16, true), (13, false), (17, false), (18, true)] (fun W' => W'.cell? ⟨w.heap.size, 0, none⟩ = some (.int .i64 x.a) ∧ W'.cell? ⟨w.heap.size, 1, none⟩ = some (.int .i64 x.b) ∧ W'.cell? ⟨w.heap.size, 2, none⟩ = some (.int .i64 x.c) ∧ W'.cell? ⟨w.heap.size, 3, none⟩ = some (.int .i64 x.d) ∧ W'.cell? ⟨w.heap.size, 4, none⟩ = some (.int .i64 x.e) ∧ W'.cell? ⟨w.heap.size, 5, none⟩ = some (.int .i64 x.f) ∧ W'.cell? ⟨w.heap.size + 1, 0, none⟩ = some (.int .i64 b.a) ∧ W'.cell? ⟨w.heap.size + 1, 1, none⟩ = some (.int .i64 b.b) ∧ W'.cell? ⟨w.heap.size + 1, 2, none⟩ = some (.int .i64 b.c) ∧ W'.cell? ⟨w.heap.size + 1, 3, none⟩ = some (.int .i64 b.d) ∧ W'.cell? ⟨w.heap.size + 1, 4, none⟩ = some (.int .i64 b.e) ∧ W'.cell? ⟨w.heap.size + 1, 5, none⟩ = some (.int .i64 b.f)) (by kernel_rfl) (by kernel_rfl) (fun _ _ d _ _ h => by cases d <;> exact h) (two_box E) ?_
      simp only [List.filterMap_cons, List.filterMap_nil, List.getElem?_cons_zero, List.getElem?_cons_succ, Option.map_some, List.drop_succ_cons, List.drop_zero]
      iterate 6 (first | (refine wpPlan_still (v := ?_) (Or.inl ⟨by rfl, ?_⟩) ?_; rotate_left; (focus (intro W hW; (try dsimp only at hW); go_split_ands; go_simp; try with_reducible rfl)); try simp only [Act.put, List.setIfInBounds_toArray, List.set_cons_zero, List.set_cons_succ]) | (refine wpPlan_still (Or.inr ⟨by rfl, rfl⟩) ?_; try simp only [Act.put, List.setIfInBounds_toArray, List.set_cons_zero, List.set_cons_succ]))
      refine wpPlan_only (fun K hK => ?_)
      try go_simp
      (go_at_call 39; (with_reducible refine (k0 _).mono ?_); rintro X wq ⟨rfl, hb⟩)
      replace E := E.on hb
      clear hb
      refine hK.out _ _ (two_box E) ?_
      clear hK K
      try simp only [Act.put, List.setIfInBounds_toArray, List.set_cons_zero, List.set_cons_succ]
      refine wpPlan_only (fun K hK => ?_)
      try go_simp
      (go_at_call 39; (with_reducible refine (k1 _).mono ?_); rintro X wq ⟨rfl, hb⟩)
      replace E := E.on hb
      clear hb
      refine hK.out _ _ (two_box E) ?_
      clear hK K
      try simp only [Act.put, List.setIfInBounds_toArray, List.set_cons_zero, List.set_cons_succ]
      iterate 8 (first | (refine wpPlan_still (v := ?_) (Or.inl ⟨by rfl, ?_⟩) ?_; rotate_left; (focus (intro W hW; (try dsimp only at hW); go_split_ands; go_simp; try with_reducible rfl)); try simp only [Act.put, List.setIfInBounds_toArray, List.set_cons_zero, List.set_cons_succ]) | (refine wpPlan_still (Or.inr ⟨by rfl, rfl⟩) ?_; try simp only [Act.put, List.setIfInBounds_toArray, List.set_cons_zero, List.set_cons_succ]))
      refine wpPlan_only (fun K hK => ?_)
      try go_simp
      (go_at_call 39; (with_reducible refine (k2 _).mono ?_); rintro X wq ⟨rfl, hb⟩)
      replace E := E.on hb
      clear hb
      refine hK.out _ _ (two_box E) ?_
      clear hK K
      try simp only [Act.put, List.setIfInBounds_toArray, List.set_cons_zero, List.set_cons_succ]
      refine wpPlan_only (fun K hK => ?_)
      try go_simp
      (go_at_call 39; (with_reducible refine (k3 _).mono ?_); rintro X wq ⟨rfl, hb⟩)
      replace E := E.on hb
      clear hb
      refine hK.out _ _ (two_box E) ?_
      clear hK K
      try simp only [Act.put, List.setIfInBounds_toArray, List.set_cons_zero, List.set_cons_succ]
      iterate 1 (first | (refine wpPlan_still (v := ?_) (Or.inl ⟨by rfl, ?_⟩) ?_; rotate_left; (focus (intro W hW; (try dsimp only at hW); go_split_ands; go_simp; try with_reducible rfl)); try simp only [Act.put, List.setIfInBounds_toArray, List.set_cons_zero, List.set_cons_succ]) | (refine wpPlan_still (Or.inr ⟨by rfl, rfl⟩) ?_; try simp only [Act.put, List.setIfInBounds_toArray, List.set_cons_zero, List.set_cons_succ]))
      refine wpPlan_end ?_
      have C := E.cells
      simp [BC, CF] at C
      go_wp2
      go_ret
      exact ⟨rfl, E.1⟩
    · have q2 : decide (b.e ≤ x.b) = false := by simp; omega
      have HK2 : Hid (∀ j, j < 2 → pk b.a b.b b.c j < pk x.d x.e x.f j ∧ pk x.a x.b x.c j < pk b.d b.e b.f j) := Lib.hid (fun j hj => by
        rcases (by omega : j < 1 ∨ j = 1) with hj | rfl
        · exact HK.out j hj
        · simp only [pk]; omega)
      clear c1 c2 HK
      have k0 := fun W => rcoord1 b.a b.b b.c W
      have k1 := fun W => rcoord1 x.d x.e x.f W
      have k2 := fun W => rcoord1 b.d b.e b.f W
      have k3 := fun W => rcoord1 x.a x.b x.c W
      go_upto_region 4 with fail
      replace E := E.drw
      refine wp_region_plan 19 [(0, true), (1, true), (2, true), (4, true), (5, true), (6, true), (3, false), (7, false), (8, true), (9, true), (10, true), (11, true), (12, true), (14, true), (15, true), (16, true), (13, false), (17, false), (18, true)] (fun W' => W'.cell? ⟨w.heap.size, 0, none⟩ = some (.int .i64 x.a) ∧ W'.cell? ⟨w.heap.size, 1, none⟩ = some (.int .i64 x.b) ∧ W'.cell? ⟨w.heap.size, 2, none⟩ = some (.int .i64 x.c) ∧ W'.cell? ⟨w.heap.size, 3, none⟩ = some (.int .i64 x.d) ∧ W'.cell? ⟨w.heap.size, 4, none⟩ = some (.int .i64 x.e) ∧ W'.cell? ⟨w.heap.size, 5, none⟩ = some (.int .i64 x.f) ∧ W'.cell? ⟨w.heap.size + 1, 0, none⟩ = some (.int .i64 b.a) ∧ W'.cell? ⟨w.heap.size + 1, 1, none⟩ = some (.int .i64 b.b) ∧ W'.cell? ⟨w.heap.size + 1, 2, none⟩ = some (.int .i64 b.c) ∧ W'.cell? ⟨w.heap.size + 1, 3, none⟩ = some (.int .i64 b.d) ∧ W'.cell? ⟨w.heap.size + 1, 4, none⟩ = some (.int .i64 b.e) ∧ W'.cell? ⟨w.heap.size + 1, 5, none⟩ = some (.int .i64 b.f)) (by kernel_rfl) (by kernel_rfl) (fun _ _ d _ _ h => by cases d <;> exact h) (two_box E) ?_
      simp only [List.filterMap_cons, List.filterMap_nil, List.getElem?_cons_zero, List.getElem?_cons_succ, Option.map_some, List.drop_succ_cons, List.drop_zero]
      iterate 6 (first | (refine wpPlan_still (v := ?_) (Or.inl ⟨by rfl, ?_⟩) ?_; rotate_left; (focus (intro W hW; (try dsimp only at hW); go_split_ands; go_simp; try with_reducible rfl)); try simp only [Act.put, List.setIfInBounds_toArray, List.set_cons_zero, List.set_cons_succ]) | (refine wpPlan_still (Or.inr ⟨by rfl, rfl⟩) ?_; try simp only [Act.put, List.setIfInBounds_toArray, List.set_cons_zero, List.set_cons_succ]))
      refine wpPlan_only (fun K hK => ?_)
      try go_simp
      (go_at_call 39; (with_reducible refine (k0 _).mono ?_); rintro X wq ⟨rfl, hb⟩)
      replace E := E.on hb
      clear hb
      refine hK.out _ _ (two_box E) ?_
      clear hK K
      try simp only [Act.put, List.setIfInBounds_toArray, List.set_cons_zero, List.set_cons_succ]
      refine wpPlan_only (fun K hK => ?_)
      try go_simp
      (go_at_call 39; (with_reducible refine (k1 _).mono ?_); rintro X wq ⟨rfl, hb⟩)
      replace E := E.on hb
      clear hb
      refine hK.out _ _ (two_box E) ?_
      clear hK K
      try simp only [Act.put, List.setIfInBounds_toArray, List.set_cons_zero, List.set_cons_succ]
      iterate 8 (first | (refine wpPlan_still (v := ?_) (Or.inl ⟨by rfl, ?_⟩) ?_; rotate_left; (focus (intro W hW; (try dsimp only at hW); go_split_ands; go_simp; try with_reducible rfl)); try simp only [Act.put, List.setIfInBounds_toArray, List.set_cons_zero, List.set_cons_succ]) | (refine wpPlan_still (Or.inr ⟨by rfl, rfl⟩) ?_; try simp only [Act.put, List.setIfInBounds_toArray, List.set_cons_zero, List.set_cons_succ]))
      refine wpPlan_only (fun K hK => ?_)
      try go_simp
      (go_at_call 39; (with_reducible refine (k2 _).mono ?_); rintro X wq ⟨rfl, hb⟩)
      replace E := E.on hb
      clear hb
      refine hK.out _ _ (two_box E) ?_
      clear hK K
      try simp only [Act.put, List.setIfInBounds_toArray, List.set_cons_zero, List.set_cons_succ]
      refine wpPlan_only (fun K hK => ?_)
      try go_simp
      (go_at_call 39; (with_reducible refine (k3 _).mono ?_); rintro X wq ⟨rfl, hb⟩)
      replace E := E.on hb
      clear hb
      refine hK.out _ _ (two_box E) ?_
      clear hK K
      try simp only [Act.put, List.setIfInBounds_toArray, List.set_cons_zero, List.set_cons_succ]
      iterate 1 (first | (refine wpPlan_still (v := ?_) (Or.inl ⟨by rfl, ?_⟩) ?_; rotate_left; (focus (intro W hW; (try dsimp only at hW); go_split_ands; go_simp; try with_reducible rfl)); try simp only [Act.put, List.setIfInBounds_toArray, List.set_cons_zero, List.set_cons_succ]) | (refine wpPlan_still (Or.inr ⟨by rfl, rfl⟩) ?_; try simp only [Act.put, List.setIfInBounds_toArray, List.set_cons_zero, List.set_cons_succ]))
      refine wpPlan_end ?_
      have C := E.cells
      simp [BC, CF] at C
      go_wp2
      exact ⟨⟨2, rfl, by omega, HK2, E⟩, by simp [intOf]⟩
  · by_cases c1 : b.c ≥ x.f
    · have q1 : decide (b.c ≥ x.f) = true := by simp; omega
      have q1' : decide (x.f ≤ b.c) = true := by simp; omega
      have e : RES = false := HR.out.trans (by simp; omega)
      subst e
      clear HR HK
      have k0 := fun W => rcoord2 b.a b.b b.c W
      have k1 := fun W => rcoord2 x.d x.e x.f W
      have k2 := fun W => rcoord2 b.d b.e b.f W
      have k3 := fun W => rcoord2 x.a x.b x.c W
      go_upto_region 4 with fail
      replace E := E.drw
      refine wp_region_plan 19 [(0, true), (1, true), (2, true), (4, true), (5, true), (6, true), (3, false), (7, false), (8, true), (9, true), (10, true), (11, true), (12, true), (14, true), (15, true), (16, true), (13, false), (17, false), (18, true)] (fun W' => W'.cell? ⟨w.heap.size, 0, none⟩ = some (.int .i64 x.a) ∧ W'.cell? ⟨w.heap.size, 1, none⟩ = some (.int .i64 x.b) ∧ W'.cell? ⟨w.heap.size, 2, none⟩ = some (.int .i64 x.c) ∧ W'.cell? ⟨w.heap.size, 3, none⟩ = some (.int .i64 x.d) ∧ W'.cell? ⟨w.heap.size, 4, none⟩ = some (.int .i64 x.e) ∧ W'.cell? ⟨w.heap.size, 5, none⟩ = some (.int .i64 x.f) ∧ W'.cell? ⟨w.heap.size + 1, 0, none⟩ = some (.int .i64 b.a) ∧ W'.cell? ⟨w.heap.size + 1, 1, none⟩ = some (.int .i64 b.b) ∧ W'.cell? ⟨w.heap.size + 1, 2, none⟩ = some (.int .i64 b.c) ∧ W'.cell? ⟨w.heap.size + 1, 3, none⟩ = some (.int .i64 b.d) ∧ W'.cell? ⟨w.heap.size + 1, 4, none⟩ = some (.int .i64 b.e) ∧ W'.cell? ⟨w.heap.size + 1, 5, none⟩ = some (.int .i64 b.f)) (by kernel_rfl) (by kernel_rfl) (fun _ _ d _ _ h => by cases d <;> exact h) (two_box E) ?_
      simp only [List.filterMap_cons, List.filterMap_nil, List.getElem?_cons_zero, List.getElem?_cons_succ, Option.map_some, List.drop_succ_cons, List.drop_zero]
      iterate 6 (first | (refine wpPlan_still (v := ?_) (Or.inl ⟨by rfl, ?_⟩) ?_; rotate_left; (focus (intro W hW; (try dsimp only at hW); go_split_ands; go_simp; try with_reducible rfl)); try simp only [Act.put, List.setIfInBounds_toArray, List.set_cons_zero, List.set_cons_succ]) | (refine wpPlan_still (Or.inr ⟨by rfl, rfl⟩) ?_; try simp only [Act.put, List.setIfInBounds_toArray, List.set_cons_zero, List.set_cons_succ]))
      refine wpPlan_only (fun K hK => ?_)
      try go_simp
      (go_at_call 39; (with_reducible refine (k0 _).mono ?_); rintro X wq ⟨rfl, hb⟩)
      replace E := E.on hb
      clear hb
      refine hK.out _ _ (two_box E) ?_
      clear hK K
      try simp only [Act.put, List.setIfInBounds_toArray, List.set_cons_zero, List.set_cons_succ]
      refine wpPlan_only (fun K hK => ?_)
      try go_simp
      (go_at_call 39; (with_reducible refine (k1 _).mono ?_); rintro X wq ⟨rfl, hb⟩)
      replace E := E.on hb
      clear hb
      refine hK.out _ _ (two_box E) ?_
      clear hK K
      try simp only [Act.put, List.setIfInBounds_toArray, List.set_cons_zero, List.set_cons_succ]
      iterate 8 (first | (refine wpPlan_still (v := ?_) (Or.inl ⟨by rfl, ?_⟩) ?_; rotate_left; (focus (intro W hW; (try dsimp only at hW); go_split_ands; go_simp; try with_reducible rfl)); try simp only [Act.put, List.setIfInBounds_toArray, List.set_cons_zero, List.set_cons_succ]) | (refine wpPlan_still (Or.inr ⟨by rfl, rfl⟩) ?_; try simp only [Act.put, List.setIfInBounds_toArray, List.set_cons_zero, List.set_cons_succ]))
      refine wpPlan_only (fun K hK => ?_)
      rw [if_neg (by exact Bool.false_ne_true)]
      refine hK.out _ _ (two_box E) ?_
      clear hK K
      try simp only [Act.put, List.setIfInBounds_toArray, List.set_cons_zero, List.set_cons_succ]
      refine wpPlan_only (fun K hK => ?_)
      rw [if_neg (by exact Bool.false_ne_true)]
      refine hK.out _ _ (two_box E) ?_
      clear hK K
      try simp only [Act.put, List.setIfInBounds_toArray, List.set_cons_zero, List.set_cons_succ]
      iterate 1 (first | (refine wpPlan_still (v := ?_) (Or.inl ⟨by rfl, ?_⟩) ?_; rotate_left; (focus (intro W hW; (try dsimp only at hW); go_split_ands; go_simp; try with_reducible rfl)); try simp only [Act.put, List.setIfInBounds_toArray, List.set_cons_zero, List.set_cons_succ]) | (refine wpPlan_still (Or.inr ⟨by rfl, rfl⟩) ?_; try simp only [Act.put, List.setIfInBounds_toArray, List.set_cons_zero, List.set_cons_succ]))
      refine wpPlan_end ?_
      have C := E.cells
      simp [BC, CF] at C
      go_wp2
      go_ret
      exact ⟨rfl, E.1⟩
    have q1 : decide (b.c ≥ x.f) = false := by simp; omega
    have q1' : decide (x.f ≤ b.c) = false := by simp; omega
    by_cases c2 : b.f ≤ x.c
    · have q2 : decide (b.f ≤ x.c) = true := by simp; omega
      have e : RES = false := HR.out.trans (by simp; omega)
      subst e
      clear HR HK
      have k0 := fun W => rcoord2 b.a b.b b.c W
      have k1 := fun W => rcoord2 x.d x.e x.f W
      have k2 := fun W => rcoord2 b.d b.e b.f W
      have k3 := fun W => rcoord2 x.a x.b x.c W
      go_upto_region 4 with fail
      replace E := E.drw
      refine wp_region_plan 19 [(0, true), (1, true), (2, true), (4, true), (5, true), (6, true), (3, false), (7, false), (8, true), (9, true), (10, true), (11, true), (12, true), (14, true), (15, true), (16, true), (13, false), (17, false), (18, true)] (fun W' => W'.cell? ⟨w.heap.size, 0, none⟩ = some (.int .i64 x.a) ∧ W'.cell? ⟨w.heap.size, 1, none⟩ = some (.int .i64 x.b) ∧ W'.cell? ⟨w.heap.size, 2, none⟩ = some (.int .i64 x.c) ∧ W'.cell? ⟨w.heap.size, 3, none⟩ = some (.int .i64 x.d) ∧ W'.cell? ⟨w.heap.size, 4, none⟩ = some (.int .i64 x.e) ∧ W'.cell? ⟨w.heap.size, 5, none⟩ = some (.int .i64 x.f) ∧ W'.cell? ⟨w.heap.size + 1, 0, none⟩ = some (.int .i64 b.a) ∧ W'.cell? ⟨w.heap.size + 1, 1, none⟩ = some (.int .i64 b.b) ∧ W'.cell? ⟨w.heap.size + 1, 2, none⟩ = some (.int .i64 b.c) ∧ W'.cell? ⟨w.heap.size + 1, 3, none⟩ = some (.int .i64 b.d) ∧ W'.cell? ⟨w.heap.size + 1, 4, none⟩ = some (.int .i64 b.e) ∧ W'.cell? ⟨w.heap.size + 1, 5, none⟩ = some (.int .i64 b.f)) (by kernel_rfl) (by kernel_rfl) (fun _ _ d _ _ h => by cases d <;> exact h) (two_box E) ?_
      simp only [List.filterMap_cons, List.filterMap_nil, List.getElem?_cons_zero, List.getElem?_cons_succ, Option.map_some, List.drop_succ_cons, List.drop_zero]
      iterate 6 (first | (refine wpPlan_still (v := ?_) (Or.inl ⟨by rfl, ?_⟩) ?_; rotate_left; (focus (intro W hW; (try dsimp only at hW); go_split_ands; go_simp; try with_reducible rfl)); try simp only [Act.put, List.setIfInBounds_toArray, List.set_cons_zero, List.set_cons_succ]) | (refine wpPlan_still (Or.inr ⟨by rfl, rfl⟩) ?_; try simp only [Act.put, List.setIfInBounds_toArray, List.set_cons_zero, List.set_cons_succ]))
      refine wpPlan_only (fun K hK => ?_)
      try go_simp
      (go_at_call 39; (with_reducible refine (k0 _).mono ?_); rintro X wq ⟨rfl, hb⟩)
      replace E := E.on hb
      clear hb
      refine hK.out _ _ (two_box E) ?_
      clear hK K
      try simp only [Act.put, List.setIfInBounds_toArray, List.set_cons_zero, List.set_cons_succ]
      refine wpPlan_only (fun K hK => ?_)
      try go_simp
      (go_at_call 39; (with_reducible refine (k1 _).mono ?_); rintro X wq ⟨rfl, hb⟩)
      replace E := E.on hb
      clear hb
      refine hK.out _ _ (two_box E) ?_
      clear hK K
      try simp only [Act.put, List.setIfInBounds_toArray, List.set_cons_zero, List.set_cons_succ]
      iterate 8 (first | (refine wpPlan_still (v := ?_) (Or.inl ⟨by rfl, ?_⟩) ?_; rotate_left; (focus (intro W hW; (try dsimp only at hW); go_split_ands; go_simp; try with_reducible rfl)); try simp only [Act.put, List.setIfInBounds_toArray, List.set_cons_zero, List.set_cons_succ]) | (refine wpPlan_still (Or.inr ⟨by rfl, rfl⟩) ?_; try simp only [Act.put, List.setIfInBounds_toArray, List.set_cons_zero, List.set_cons_succ]))
      refine wpPlan_only (fun K hK => ?_)
      try go_simp
      (go_at_call 39; (with_reducible refine (k2 _).mono ?_); rintro X wq ⟨rfl, hb⟩)
      replace E := E.on hb
      clear hb
      refine hK.out _ _ (two_box E) ?_
      clear hK K
      try simp only [Act.put, List.setIfInBounds_toArray, List.set_cons_zero, List.set_cons_succ]
      refine wpPlan_only (fun K hK => ?_)
      try go_simp
      (go_at_call 39; (with_reducible refine (k3 _).mono ?_); rintro X wq ⟨rfl, hb⟩)
      replace E := E.on hb
      clear hb
      refine hK.out _ _ (two_box E) ?_
      clear hK K
      try simp only [Act.put, List.setIfInBounds_toArray, List.set_cons_zero, List.set_cons_succ]
      iterate 1 (first | (refine wpPlan_still (v := ?_) (Or.inl ⟨by rfl, ?_⟩) ?_; rotate_left; (focus (intro W hW; (try dsimp only at hW); go_split_ands; go_simp; try with_reducible rfl)); try simp only [Act.put, List.setIfInBounds_toArray, List.set_cons_zero, List.set_cons_succ]) | (refine wpPlan_still (Or.inr ⟨by rfl, rfl⟩) ?_; try simp only [Act.put, List.setIfInBounds_toArray, List.set_cons_zero, List.set_cons_succ]))
      refine wpPlan_end ?_
      have C := E.cells
      simp [BC, CF] at C
      go_wp2
      go_ret
      exact ⟨rfl, E.1⟩
    · have q2 : decide (b.f ≤ x.c) = false := by simp; omega
      have HK2 : Hid (∀ j, j < 3 → pk b.a b.b b.c j < pk x.d x.e x.f j ∧ pk x.a x.b x.c j < pk b.d b.e b.f j) := Lib.hid (fun j hj => by
        rcases (by omega : j < 2 ∨ j = 2) with hj | rfl
        · exact HK.out j hj
        · simp only [pk]; omega)
      clear c1 c2 HK
      have k0 := fun W => rcoord2 b.a b.b b.c W
      have k1 := fun W => rcoord2 x.d x.e x.f W
      have k2 := fun W => rcoord2 b.d b.e b.f W
      have k3 := fun W => rcoord2 x.a x.b x.c W
      go_upto_region 4 with fail
      replace E := E.drw
      refine wp_region_plan 19 [(0, true), (1, true), (2, true), (4, true), (5, true), (6, true), (3, false), (7, false), (8, true), (9, true), (10, true), (11, true), (12, true), (14, true), (15, true), (16, true), (13, false), (17, false), (18, true)] (fun W' => W'.cell? ⟨w.heap.size, 0, none⟩ = some (.int .i64 x.a) ∧ W'.cell? ⟨w.heap.size, 1, none⟩ = some (.int .i64 x.b) ∧ W'.cell? ⟨w.heap.size, 2, none⟩ = some (.int .i64 x.c) ∧ W'.cell? ⟨w.heap.size, 3, none⟩ = some (.int .i64 x.d) ∧ W'.cell? ⟨w.heap.size, 4, none⟩ = some (.int .i64 x.e) ∧ W'.cell? ⟨w.heap.size, 5, none⟩ = some (.int .i64 x.f) ∧ W'.cell? ⟨w.heap.size + 1, 0, none⟩ = some (.int .i64 b.a) ∧ W'.cell? ⟨w.heap.size + 1, 1, none⟩ = some (.int .i64 b.b) ∧ W'.cell? ⟨w.heap.size + 1, 2, none⟩ = some (.int .i64 b.c) ∧ W'.cell? ⟨w.heap.size + 1, 3, none⟩ = some (.int .i64 b.d) ∧ W'.cell? ⟨w.heap.size + 1, 4, none⟩ = some (.int .i64 b.e) ∧ W'.cell? ⟨w.heap.size + 1, 5, none⟩ = some (.int .i64 b.f)) (by kernel_rfl) (by kernel_rfl) (fun _ _ d _ _ h => by cases d <;> exact h) (two_box E) ?_
      simp only [List.filterMap_cons, List.filterMap_nil, List.getElem?_cons_zero, List.getElem?_cons_succ, Option.map_some, List.drop_succ_cons, List.drop_zero]
      iterate 6 (first | (refine wpPlan_still (v := ?_) (Or.inl ⟨by rfl, ?_⟩) ?_; rotate_left; (focus (intro W hW; (try dsimp only at hW); go_split_ands; go_simp; try with_reducible rfl)); try simp only [Act.put, List.setIfInBounds_toArray, List.set_cons_zero, List.set_cons_succ]) | (refine wpPlan_still (Or.inr ⟨by rfl, rfl⟩) ?_; try simp only [Act.put, List.setIfInBounds_toArray, List.set_cons_zero, List.set_cons_succ]))
      refine wpPlan_only (fun K hK => ?_)
      try go_simp
      (go_at_call 39; (with_reducible refine (k0 _).mono ?_); rintro X wq ⟨rfl, hb⟩)
      replace E := E.on hb
      clear hb
      refine hK.out _ _ (two_box E) ?_
      clear hK K
      try simp only [Act.put, List.setIfInBounds_toArray, List.set_cons_zero, List.set_cons_succ]
      refine wpPlan_only (fun K hK => ?_)
      try go_simp
      (go_at_call 39; (with_reducible refine (k1 _).mono ?_); rintro X wq ⟨rfl, hb⟩)
      replace E := E.on hb
      clear hb
      refine hK.out _ _ (two_box E) ?_
      clear hK K
      try simp only [Act.put, List.setIfInBounds_toArray, List.set_cons_zero, List.set_cons_succ]
      iterate 8 (first | (refine wpPlan_still (v := ?_) (Or.inl ⟨by rfl, ?_⟩) ?_; rotate_left; (focus (intro W hW; (try dsimp only at hW); go_split_ands; go_simp; try with_reducible rfl)); try simp only [Act.put, List.setIfInBounds_toArray, List.set_cons_zero, List.set_cons_succ]) | (refine wpPlan_still (Or.inr ⟨by rfl, rfl⟩) ?_; try simp only [Act.put, List.setIfInBounds_toArray, List.set_cons_zero, List.set_cons_succ]))
      refine wpPlan_only (fun K hK => ?_)
      try go_simp
      (go_at_call 39; (with_reducible refine (k2 _).mono ?_); rintro X wq ⟨rfl, hb⟩)
      replace E := E.on hb
      clear hb
      refine hK.out _ _ (two_box E) ?_
      clear hK K
      try simp only [Act.put, List.setIfInBounds_toArray, List.set_cons_zero, List.set_cons_succ]
      refine wpPlan_only (fun K hK => ?_)
      try go_simp
      (go_at_call 39; (with_reducible refine (k3 _).mono ?_); rintro X wq ⟨rfl, hb⟩)
      replace E := E.on hb
      clear hb
      refine hK.out _ _ (two_box E) ?_
      clear hK K
      try simp only [Act.put, List.setIfInBounds_toArray, List.set_cons_zero, List.set_cons_succ]
      iterate 1 (first | (refine wpPlan_still (v := ?_) (Or.inl ⟨by rfl, ?_⟩) ?_; rotate_left; (focus (intro W hW; (try dsimp only at hW); go_split_ands; go_simp; try with_reducible rfl)); try simp only [Act.put, List.setIfInBounds_toArray, List.set_cons_zero, List.set_cons_succ]) | (refine wpPlan_still (Or.inr ⟨by rfl, rfl⟩) ?_; try simp only [Act.put, List.setIfInBounds_toArray, List.set_cons_zero, List.set_cons_succ]))
      refine wpPlan_end ?_
      have C := E.cells
      simp [BC, CF] at C
      go_wp2
      exact ⟨⟨3, rfl, by omega, HK2, E⟩, by simp [intOf]⟩
  · have e : RES = true := HR.out.trans (by
      have h0 := HK.out 0 (by omega)
      have h1 := HK.out 1 (by omega)
      have h2 := HK.out 2 (by omega)
      simp only [pk] at h0 h1 h2
      simp; omega)
    subst e
    go_wp2
    go_ret
    exact ⟨rfl, E.1⟩
end Go.Proofs.Ytkgaahmehmbfjaa
