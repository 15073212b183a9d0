/- The reference: Valid; Short. Small facts on points and rows. The reference: Moves. The reference: Legs, Path. Radii and masses. Lengths: arcs, allowances, sums. Arc, Allowance, parts, Developed, Cut, Mass, Bends. parts, Bends, Developed of the program. Cut, Mass; long, right, total; the reference. The reference: Bends, Developed, Cut, Mass; total. The reference: Cut, Mass; total; awake; BendArcs. -/
import Derived.Test.YthdafpbmmfelpaaGreatDoorLg
import Derived.Test.YthdafpbmmfelpaaGreatDoorPl
import Derived.Deep.CutBlock
import Derived.Test.YthdafpbmmfelpaaGreatDoorPa
import Derived.Test.YthdafpbmmfelpaaGreatDoorM2
import Derived.Test.YthdafpbmmfelpaaGreatDoorOpn
import Derived.Laws.StructEq
namespace Go.Proofs.YthdafpbmmfelpaaGreatDoor
open Go.ChangeShapes Go.WideShapes Go.ChangeAt Go.RowKit
set_option linter.unusedVariables false
set_option linter.unusedSimpArgs false

def posB (l : List Int) : Bool := l.all fun x => decide (1 ≤ x)
def okL (l : List Int) : Bool := l.all fun x => decide (1 ≤ x) && decide (x ≤ 1048576)
theorem pos_sum : ∀ l : List Int, posB l = true → 0 ≤ l.sum
  | [], _ => by simp
  | x :: r, h => by
    simp only [posB, List.all_cons, Bool.and_eq_true, decide_eq_true_eq] at h
    have := pos_sum r h.2
    simp only [List.sum_cons]; omega
theorem fit_pos : ∀ (l : List Int) (b : Int), 0 ≤ b → fitB b l = (posB l && decide (l.sum ≤ b))
  | [], b, h => by
    have e : decide (([] : List Int).sum ≤ b) = true := decide_eq_true h
    rw [e]; rfl
  | x :: r, b, h => by
    by_cases h1 : 1 ≤ x
    · by_cases h2 : x ≤ b
      · have e := fit_pos r (b - x) (by omega)
        have e2 : decide (r.sum ≤ b - x) = decide (x + r.sum ≤ b) := by simp only [decide_eq_decide]; omega
        simp only [fitB, e, posB, List.all_cons, List.sum_cons, h1, h2, decide_true, Bool.true_and]
        exact congrArg _ e2
      · simp only [fitB, h2, decide_false, Bool.and_false, Bool.false_and]
        cases k : posB (x :: r)
        · rfl
        · have k' := k
          simp only [posB, List.all_cons, Bool.and_eq_true, decide_eq_true_eq] at k
          have := pos_sum r k.2
          have e : decide ((x :: r).sum ≤ b) = false := decide_eq_false (by rw [List.sum_cons]; omega)
          rw [e]; rfl
    · simp [fitB, posB, h1]
theorem fit_ok (l : List Int) : fitB 262144 l = (okL l && decide (l.sum ≤ 262144)) := by
  rw [fit_pos l _ (by omega)]
  cases k : okL l
  · cases k2 : posB l
    · rfl
    · have : ∃ x ∈ l, 1048576 < x := by
        obtain ⟨x, hx, h⟩ := List.all_eq_false.1 k
        have h1 := List.all_eq_true.1 k2 x hx
        refine ⟨x, hx, ?_⟩
        simp only [decide_eq_true_eq] at h1
        simp only [Bool.and_eq_true, decide_eq_true_eq] at h
        omega
      obtain ⟨x, hx, h⟩ := this
      have hs : x ≤ l.sum := by
        clear k h
        induction l with
        | nil => cases hx
        | cons y r ih =>
          have k3 := k2
          simp only [posB, List.all_cons, Bool.and_eq_true, decide_eq_true_eq] at k2
          have := pos_sum r k2.2
          simp only [List.sum_cons]
          rcases List.mem_cons.1 hx with rfl | hx
          · omega
          · have := ih k2.2 hx; omega
      simp; omega
  · have k2 : posB l = true := List.all_eq_true.2 fun x hx => by
      have := List.all_eq_true.1 k x hx
      simp only [Bool.and_eq_true] at this; exact this.1
    rw [k2]
theorem okL_step {l : List Int} {k : Nat} (hk : k < l.length) (h : okL (l.take k) = true) : okL (l.take (k + 1)) = (decide (1 ≤ l[k]) && decide (l[k] ≤ 1048576)) := by
  unfold okL at *
  rw [List.take_succ_eq_append_getElem hk, List.all_append, h]; simp
theorem okL_take {l : List Int} (k : Nat) (h : okL (l.take k) = false) : okL l = false := by
  unfold okL at *
  rw [← List.take_append_drop k l, List.all_append, h]; rfl
theorem s_rv {w W : World} {mk : ByteArray} {sz ct cd : Int} {p : Option Addr} {ds : List Int} {cap : Nat} (E : Env w W [⟨w.heap.size, 60, #[.string mk, .int .i64 sz, .int .i64 ct, .int .i64 cd, .slice p ds.length cap]⟩]) : Env w W [⟨w.heap.size, 60, #[.string mk, .int .i64 sz, .int .i64 ct, .int .i64 cd, .slice p ds.length cap]⟩] ∧ W.cell? ⟨w.heap.size, 0, none⟩ = some (.string mk) ∧ W.cell? ⟨w.heap.size, 1, none⟩ = some (.int .i64 sz) ∧ W.cell? ⟨w.heap.size, 2, none⟩ = some (.int .i64 ct) ∧ W.cell? ⟨w.heap.size, 3, none⟩ = some (.int .i64 cd) ∧ W.cell? ⟨w.heap.size, 4, none⟩ = some (.slice p ds.length cap) := by
  have C := E.cells
  simp [BC, CF] at C
  exact ⟨E, C.2.1.1, C.2.2.1.1, C.2.2.2.1.1, C.2.2.2.2.1.1, C.2.2.2.2.2.1⟩
set_option maxHeartbeats 16000000 in
set_option maxRecDepth 100000 in
theorem rValid_any (b : Bar) (w : World) (hk : b.Ok w) : Calls Tryz.prog 39 #[b.val] w fun e w' => e = .returned (.bool (barB b)) ∧ Below w.heap.size w w' := by
  have hD := fun W => rdims_any b.code W
  have hN := fun W => Dec.risName_any b.mark W hk.nm
  have hS := fun W => riz_any b.size W
  have E := (Env.nil w).add w.heap.size 60 b.cs rfl
  have e0 : nmB b = Dec.nameB b.mark.data.toList := rfl
  rw [← e0] at hN
  have hz := @ndim_zero b.code
  have hle := ndim_le b.code
  have hd := hk.rd
  unfold Bar.sv at hd
  obtain ⟨q, c0, e1, hd⟩ := hd
  simp only [Value.slice.injEq] at e1
  obtain ⟨rfl, -, rfl⟩ := e1
  have HD := Lib.hid hd
  have HF := Lib.hid (fit_ok b.ds)
  unfold barB
  generalize nmB b = NM at *
  generalize isz b.size = SZ at *
  generalize fitB 262144 b.ds = FT at *
  generalize ndim b.code = n at *
  generalize isC b.code = IC at *
  obtain ⟨mk, sz, ct, cd, p, ds, cap⟩ := b
  simp only [Bar.sv, Bar.cs, Bar.val] at *
  clear e0 hk hd
  have C := E.cells
  simp [BC, CF] at C
  cases NM
  · simp only [Bool.false_and, Bool.and_false]
    go_enter Tryz.func39, Tryz.ntmps39
    go_upto_region 1 with fail
    refine wp_region_plan 34 [(0, true), (1, true), (2, false), (3, true), (4, true), (5, true), (6, true), (7, false), (8, true), (9, true), (10, true), (11, true), (12, true), (13, true), (14, true), (15, true), (16, true), (17, true), (18, true), (19, true), (20, true), (21, true), (22, true), (23, false), (24, true), (25, true), (26, true), (27, true), (28, true), (29, true), (30, true), (31, true), (32, false), (33, true)] (fun W' => Env w W' [⟨w.heap.size, 60, #[.string mk, .int .i64 sz, .int .i64 ct, .int .i64 cd, .slice p ds.length cap]⟩] ∧ W'.cell? ⟨w.heap.size, 0, none⟩ = some (.string mk) ∧ W'.cell? ⟨w.heap.size, 1, none⟩ = some (.int .i64 sz) ∧ W'.cell? ⟨w.heap.size, 2, none⟩ = some (.int .i64 ct) ∧ W'.cell? ⟨w.heap.size, 3, none⟩ = some (.int .i64 cd) ∧ W'.cell? ⟨w.heap.size, 4, none⟩ = some (.slice p ds.length cap)) (by kernel_rfl) (by kernel_rfl) (fun _ _ d _ _ h => by cases d <;> exact h) (s_rv E.drw) ?_
    simp only [List.filterMap_cons, List.filterMap_nil, List.getElem?_cons_zero, List.getElem?_cons_succ, Option.map_some, List.drop_succ_cons, List.drop_zero]
    replace E := E.drw
    iterate 2 (first | (refine wpPlan_still (v := ?_) (Or.inl ⟨by rfl, ?_⟩) ?_; rotate_left; (focus (intro W hW; (try dsimp only at hW); go_split_ands; go_simp; try with_reducible rfl)); try simp only [Act.put, List.setIfInBounds_toArray, List.set_cons_zero, List.set_cons_succ]) | (refine wpPlan_still (Or.inr ⟨by rfl, rfl⟩) ?_; try simp only [Act.put, List.setIfInBounds_toArray, List.set_cons_zero, List.set_cons_succ]))
    refine wpPlan_only (fun K hK => ?_)
    first
      | (rw [if_neg (by exact Bool.false_ne_true)]; refine hK.out _ _ (s_rv E) ?_; clear hK K; try simp only [Act.put, List.setIfInBounds_toArray, List.set_cons_zero, List.set_cons_succ])
      | (try go_simp
         go_at_call 67
         (with_reducible refine (hN _).mono ?_)
         rintro X wp1 ⟨rfl, rfl⟩
         skip
         refine hK.out _ _ (s_rv E) ?_
         clear hK K
         try simp only [Act.put, List.setIfInBounds_toArray, List.set_cons_zero, List.set_cons_succ])
    iterate 4 (first | (refine wpPlan_still (v := ?_) (Or.inl ⟨by rfl, ?_⟩) ?_; rotate_left; (focus (intro W hW; (try dsimp only at hW); go_split_ands; go_simp; try with_reducible rfl)); try simp only [Act.put, List.setIfInBounds_toArray, List.set_cons_zero, List.set_cons_succ]) | (refine wpPlan_still (Or.inr ⟨by rfl, rfl⟩) ?_; try simp only [Act.put, List.setIfInBounds_toArray, List.set_cons_zero, List.set_cons_succ]))
    refine wpPlan_only (fun K hK => ?_)
    first
      | (rw [if_neg (by exact Bool.false_ne_true)]; refine hK.out _ _ (s_rv E) ?_; clear hK K; try simp only [Act.put, List.setIfInBounds_toArray, List.set_cons_zero, List.set_cons_succ])
      | (try go_simp
         go_at_call 55
         (with_reducible refine (hS _).mono ?_)
         rintro X wp1 ⟨rfl, hb⟩
         replace E := E.on hb; clear hb
         refine hK.out _ _ (s_rv E) ?_
         clear hK K
         try simp only [Act.put, List.setIfInBounds_toArray, List.set_cons_zero, List.set_cons_succ])
    iterate 15 (first | (refine wpPlan_still (v := ?_) (Or.inl ⟨by rfl, ?_⟩) ?_; rotate_left; (focus (intro W hW; (try dsimp only at hW); go_split_ands; go_simp; try with_reducible rfl)); try simp only [Act.put, List.setIfInBounds_toArray, List.set_cons_zero, List.set_cons_succ]) | (refine wpPlan_still (Or.inr ⟨by rfl, rfl⟩) ?_; try simp only [Act.put, List.setIfInBounds_toArray, List.set_cons_zero, List.set_cons_succ]))
    refine wpPlan_only (fun K hK => ?_)
    first
      | (rw [if_neg (by exact Bool.false_ne_true)]; refine hK.out _ _ (s_rv E) ?_; clear hK K; try simp only [Act.put, List.setIfInBounds_toArray, List.set_cons_zero, List.set_cons_succ])
      | (try go_simp
         go_at_call 68
         (with_reducible refine (hD _).mono ?_)
         rintro X wp1 ⟨rfl, rfl⟩
         skip
         refine hK.out _ _ (s_rv E) ?_
         clear hK K
         try simp only [Act.put, List.setIfInBounds_toArray, List.set_cons_zero, List.set_cons_succ])
    iterate 8 (first | (refine wpPlan_still (v := ?_) (Or.inl ⟨by rfl, ?_⟩) ?_; rotate_left; (focus (intro W hW; (try dsimp only at hW); go_split_ands; go_simp; try with_reducible rfl)); try simp only [Act.put, List.setIfInBounds_toArray, List.set_cons_zero, List.set_cons_succ]) | (refine wpPlan_still (Or.inr ⟨by rfl, rfl⟩) ?_; try simp only [Act.put, List.setIfInBounds_toArray, List.set_cons_zero, List.set_cons_succ]))
    refine wpPlan_only (fun K hK => ?_)
    first
      | (rw [if_neg (by exact Bool.false_ne_true)]; refine hK.out _ _ (s_rv E) ?_; clear hK K; try simp only [Act.put, List.setIfInBounds_toArray, List.set_cons_zero, List.set_cons_succ])
      | (try go_simp
         go_at_call 68
         (with_reducible refine (hD _).mono ?_)
         rintro X wp1 ⟨rfl, rfl⟩
         skip
         refine hK.out _ _ (s_rv E) ?_
         clear hK K
         try simp only [Act.put, List.setIfInBounds_toArray, List.set_cons_zero, List.set_cons_succ])
    iterate 1 (first | (refine wpPlan_still (v := ?_) (Or.inl ⟨by rfl, ?_⟩) ?_; rotate_left; (focus (intro W hW; (try dsimp only at hW); go_split_ands; go_simp; try with_reducible rfl)); try simp only [Act.put, List.setIfInBounds_toArray, List.set_cons_zero, List.set_cons_succ]) | (refine wpPlan_still (Or.inr ⟨by rfl, rfl⟩) ?_; try simp only [Act.put, List.setIfInBounds_toArray, List.set_cons_zero, List.set_cons_succ]))
    refine wpPlan_end ?_
    replace C := E.cells
    simp [BC, CF] at C
    go_wp2_with fail
    go_ret
    exact ⟨rfl, E.1⟩
  cases SZ
  · simp only [Bool.false_and, Bool.and_false]
    go_enter Tryz.func39, Tryz.ntmps39
    go_upto_region 1 with fail
    refine wp_region_plan 34 [(0, true), (1, true), (2, false), (3, true), (4, true), (5, true), (6, true), (7, false), (8, true), (9, true), (10, true), (11, true), (12, true), (13, true), (14, true), (15, true), (16, true), (17, true), (18, true), (19, true), (20, true), (21, true), (22, true), (23, false), (24, true), (25, true), (26, true), (27, true), (28, true), (29, true), (30, true), (31, true), (32, false), (33, true)] (fun W' => Env w W' [⟨w.heap.size, 60, #[.string mk, .int .i64 sz, .int .i64 ct, .int .i64 cd, .slice p ds.length cap]⟩] ∧ W'.cell? ⟨w.heap.size, 0, none⟩ = some (.string mk) ∧ W'.cell? ⟨w.heap.size, 1, none⟩ = some (.int .i64 sz) ∧ W'.cell? ⟨w.heap.size, 2, none⟩ = some (.int .i64 ct) ∧ W'.cell? ⟨w.heap.size, 3, none⟩ = some (.int .i64 cd) ∧ W'.cell? ⟨w.heap.size, 4, none⟩ = some (.slice p ds.length cap)) (by kernel_rfl) (by kernel_rfl) (fun _ _ d _ _ h => by cases d <;> exact h) (s_rv E.drw) ?_
    simp only [List.filterMap_cons, List.filterMap_nil, List.getElem?_cons_zero, List.getElem?_cons_succ, Option.map_some, List.drop_succ_cons, List.drop_zero]
    replace E := E.drw
    iterate 2 (first | (refine wpPlan_still (v := ?_) (Or.inl ⟨by rfl, ?_⟩) ?_; rotate_left; (focus (intro W hW; (try dsimp only at hW); go_split_ands; go_simp; try with_reducible rfl)); try simp only [Act.put, List.setIfInBounds_toArray, List.set_cons_zero, List.set_cons_succ]) | (refine wpPlan_still (Or.inr ⟨by rfl, rfl⟩) ?_; try simp only [Act.put, List.setIfInBounds_toArray, List.set_cons_zero, List.set_cons_succ]))
    refine wpPlan_only (fun K hK => ?_)
    first
      | (rw [if_neg (by exact Bool.false_ne_true)]; refine hK.out _ _ (s_rv E) ?_; clear hK K; try simp only [Act.put, List.setIfInBounds_toArray, List.set_cons_zero, List.set_cons_succ])
      | (try go_simp
         go_at_call 67
         (with_reducible refine (hN _).mono ?_)
         rintro X wp1 ⟨rfl, rfl⟩
         skip
         refine hK.out _ _ (s_rv E) ?_
         clear hK K
         try simp only [Act.put, List.setIfInBounds_toArray, List.set_cons_zero, List.set_cons_succ])
    iterate 4 (first | (refine wpPlan_still (v := ?_) (Or.inl ⟨by rfl, ?_⟩) ?_; rotate_left; (focus (intro W hW; (try dsimp only at hW); go_split_ands; go_simp; try with_reducible rfl)); try simp only [Act.put, List.setIfInBounds_toArray, List.set_cons_zero, List.set_cons_succ]) | (refine wpPlan_still (Or.inr ⟨by rfl, rfl⟩) ?_; try simp only [Act.put, List.setIfInBounds_toArray, List.set_cons_zero, List.set_cons_succ]))
    refine wpPlan_only (fun K hK => ?_)
    first
      | (rw [if_neg (by exact Bool.false_ne_true)]; refine hK.out _ _ (s_rv E) ?_; clear hK K; try simp only [Act.put, List.setIfInBounds_toArray, List.set_cons_zero, List.set_cons_succ])
      | (try go_simp
         go_at_call 55
         (with_reducible refine (hS _).mono ?_)
         rintro X wp1 ⟨rfl, hb⟩
         replace E := E.on hb; clear hb
         refine hK.out _ _ (s_rv E) ?_
         clear hK K
         try simp only [Act.put, List.setIfInBounds_toArray, List.set_cons_zero, List.set_cons_succ])
    iterate 15 (first | (refine wpPlan_still (v := ?_) (Or.inl ⟨by rfl, ?_⟩) ?_; rotate_left; (focus (intro W hW; (try dsimp only at hW); go_split_ands; go_simp; try with_reducible rfl)); try simp only [Act.put, List.setIfInBounds_toArray, List.set_cons_zero, List.set_cons_succ]) | (refine wpPlan_still (Or.inr ⟨by rfl, rfl⟩) ?_; try simp only [Act.put, List.setIfInBounds_toArray, List.set_cons_zero, List.set_cons_succ]))
    refine wpPlan_only (fun K hK => ?_)
    first
      | (rw [if_neg (by exact Bool.false_ne_true)]; refine hK.out _ _ (s_rv E) ?_; clear hK K; try simp only [Act.put, List.setIfInBounds_toArray, List.set_cons_zero, List.set_cons_succ])
      | (try go_simp
         go_at_call 68
         (with_reducible refine (hD _).mono ?_)
         rintro X wp1 ⟨rfl, rfl⟩
         skip
         refine hK.out _ _ (s_rv E) ?_
         clear hK K
         try simp only [Act.put, List.setIfInBounds_toArray, List.set_cons_zero, List.set_cons_succ])
    iterate 8 (first | (refine wpPlan_still (v := ?_) (Or.inl ⟨by rfl, ?_⟩) ?_; rotate_left; (focus (intro W hW; (try dsimp only at hW); go_split_ands; go_simp; try with_reducible rfl)); try simp only [Act.put, List.setIfInBounds_toArray, List.set_cons_zero, List.set_cons_succ]) | (refine wpPlan_still (Or.inr ⟨by rfl, rfl⟩) ?_; try simp only [Act.put, List.setIfInBounds_toArray, List.set_cons_zero, List.set_cons_succ]))
    refine wpPlan_only (fun K hK => ?_)
    first
      | (rw [if_neg (by exact Bool.false_ne_true)]; refine hK.out _ _ (s_rv E) ?_; clear hK K; try simp only [Act.put, List.setIfInBounds_toArray, List.set_cons_zero, List.set_cons_succ])
      | (try go_simp
         go_at_call 68
         (with_reducible refine (hD _).mono ?_)
         rintro X wp1 ⟨rfl, rfl⟩
         skip
         refine hK.out _ _ (s_rv E) ?_
         clear hK K
         try simp only [Act.put, List.setIfInBounds_toArray, List.set_cons_zero, List.set_cons_succ])
    iterate 1 (first | (refine wpPlan_still (v := ?_) (Or.inl ⟨by rfl, ?_⟩) ?_; rotate_left; (focus (intro W hW; (try dsimp only at hW); go_split_ands; go_simp; try with_reducible rfl)); try simp only [Act.put, List.setIfInBounds_toArray, List.set_cons_zero, List.set_cons_succ]) | (refine wpPlan_still (Or.inr ⟨by rfl, rfl⟩) ?_; try simp only [Act.put, List.setIfInBounds_toArray, List.set_cons_zero, List.set_cons_succ]))
    refine wpPlan_end ?_
    replace C := E.cells
    simp [BC, CF] at C
    go_wp2_with fail
    go_ret
    exact ⟨rfl, E.1⟩
  cases h1 : decide (1 ≤ ct)
  · simp only [Bool.false_and, Bool.and_false]
    have t1 : decide (ct < 1) = true := by simp at h1 ⊢; omega
    clear h1
    go_enter Tryz.func39, Tryz.ntmps39
    go_upto_region 1 with fail
    refine wp_region_plan 34 [(0, true), (1, true), (2, false), (3, true), (4, true), (5, true), (6, true), (7, false), (8, true), (9, true), (10, true), (11, true), (12, true), (13, true), (14, true), (15, true), (16, true), (17, true), (18, true), (19, true), (20, true), (21, true), (22, true), (23, false), (24, true), (25, true), (26, true), (27, true), (28, true), (29, true), (30, true), (31, true), (32, false), (33, true)] (fun W' => Env w W' [⟨w.heap.size, 60, #[.string mk, .int .i64 sz, .int .i64 ct, .int .i64 cd, .slice p ds.length cap]⟩] ∧ W'.cell? ⟨w.heap.size, 0, none⟩ = some (.string mk) ∧ W'.cell? ⟨w.heap.size, 1, none⟩ = some (.int .i64 sz) ∧ W'.cell? ⟨w.heap.size, 2, none⟩ = some (.int .i64 ct) ∧ W'.cell? ⟨w.heap.size, 3, none⟩ = some (.int .i64 cd) ∧ W'.cell? ⟨w.heap.size, 4, none⟩ = some (.slice p ds.length cap)) (by kernel_rfl) (by kernel_rfl) (fun _ _ d _ _ h => by cases d <;> exact h) (s_rv E.drw) ?_
    simp only [List.filterMap_cons, List.filterMap_nil, List.getElem?_cons_zero, List.getElem?_cons_succ, Option.map_some, List.drop_succ_cons, List.drop_zero]
    replace E := E.drw
    iterate 2 (first | (refine wpPlan_still (v := ?_) (Or.inl ⟨by rfl, ?_⟩) ?_; rotate_left; (focus (intro W hW; (try dsimp only at hW); go_split_ands; go_simp; try with_reducible rfl)); try simp only [Act.put, List.setIfInBounds_toArray, List.set_cons_zero, List.set_cons_succ]) | (refine wpPlan_still (Or.inr ⟨by rfl, rfl⟩) ?_; try simp only [Act.put, List.setIfInBounds_toArray, List.set_cons_zero, List.set_cons_succ]))
    refine wpPlan_only (fun K hK => ?_)
    first
      | (rw [if_neg (by exact Bool.false_ne_true)]; refine hK.out _ _ (s_rv E) ?_; clear hK K; try simp only [Act.put, List.setIfInBounds_toArray, List.set_cons_zero, List.set_cons_succ])
      | (try go_simp
         go_at_call 67
         (with_reducible refine (hN _).mono ?_)
         rintro X wp1 ⟨rfl, rfl⟩
         skip
         refine hK.out _ _ (s_rv E) ?_
         clear hK K
         try simp only [Act.put, List.setIfInBounds_toArray, List.set_cons_zero, List.set_cons_succ])
    iterate 4 (first | (refine wpPlan_still (v := ?_) (Or.inl ⟨by rfl, ?_⟩) ?_; rotate_left; (focus (intro W hW; (try dsimp only at hW); go_split_ands; go_simp; try with_reducible rfl)); try simp only [Act.put, List.setIfInBounds_toArray, List.set_cons_zero, List.set_cons_succ]) | (refine wpPlan_still (Or.inr ⟨by rfl, rfl⟩) ?_; try simp only [Act.put, List.setIfInBounds_toArray, List.set_cons_zero, List.set_cons_succ]))
    refine wpPlan_only (fun K hK => ?_)
    first
      | (rw [if_neg (by exact Bool.false_ne_true)]; refine hK.out _ _ (s_rv E) ?_; clear hK K; try simp only [Act.put, List.setIfInBounds_toArray, List.set_cons_zero, List.set_cons_succ])
      | (try go_simp
         go_at_call 55
         (with_reducible refine (hS _).mono ?_)
         rintro X wp1 ⟨rfl, hb⟩
         replace E := E.on hb; clear hb
         refine hK.out _ _ (s_rv E) ?_
         clear hK K
         try simp only [Act.put, List.setIfInBounds_toArray, List.set_cons_zero, List.set_cons_succ])
    iterate 15 (first | (refine wpPlan_still (v := ?_) (Or.inl ⟨by rfl, ?_⟩) ?_; rotate_left; (focus (intro W hW; (try dsimp only at hW); go_split_ands; go_simp; try with_reducible rfl)); try simp only [Act.put, List.setIfInBounds_toArray, List.set_cons_zero, List.set_cons_succ]) | (refine wpPlan_still (Or.inr ⟨by rfl, rfl⟩) ?_; try simp only [Act.put, List.setIfInBounds_toArray, List.set_cons_zero, List.set_cons_succ]))
    refine wpPlan_only (fun K hK => ?_)
    first
      | (rw [if_neg (by exact Bool.false_ne_true)]; refine hK.out _ _ (s_rv E) ?_; clear hK K; try simp only [Act.put, List.setIfInBounds_toArray, List.set_cons_zero, List.set_cons_succ])
      | (try go_simp
         go_at_call 68
         (with_reducible refine (hD _).mono ?_)
         rintro X wp1 ⟨rfl, rfl⟩
         skip
         refine hK.out _ _ (s_rv E) ?_
         clear hK K
         try simp only [Act.put, List.setIfInBounds_toArray, List.set_cons_zero, List.set_cons_succ])
    iterate 8 (first | (refine wpPlan_still (v := ?_) (Or.inl ⟨by rfl, ?_⟩) ?_; rotate_left; (focus (intro W hW; (try dsimp only at hW); go_split_ands; go_simp; try with_reducible rfl)); try simp only [Act.put, List.setIfInBounds_toArray, List.set_cons_zero, List.set_cons_succ]) | (refine wpPlan_still (Or.inr ⟨by rfl, rfl⟩) ?_; try simp only [Act.put, List.setIfInBounds_toArray, List.set_cons_zero, List.set_cons_succ]))
    refine wpPlan_only (fun K hK => ?_)
    first
      | (rw [if_neg (by exact Bool.false_ne_true)]; refine hK.out _ _ (s_rv E) ?_; clear hK K; try simp only [Act.put, List.setIfInBounds_toArray, List.set_cons_zero, List.set_cons_succ])
      | (try go_simp
         go_at_call 68
         (with_reducible refine (hD _).mono ?_)
         rintro X wp1 ⟨rfl, rfl⟩
         skip
         refine hK.out _ _ (s_rv E) ?_
         clear hK K
         try simp only [Act.put, List.setIfInBounds_toArray, List.set_cons_zero, List.set_cons_succ])
    iterate 1 (first | (refine wpPlan_still (v := ?_) (Or.inl ⟨by rfl, ?_⟩) ?_; rotate_left; (focus (intro W hW; (try dsimp only at hW); go_split_ands; go_simp; try with_reducible rfl)); try simp only [Act.put, List.setIfInBounds_toArray, List.set_cons_zero, List.set_cons_succ]) | (refine wpPlan_still (Or.inr ⟨by rfl, rfl⟩) ?_; try simp only [Act.put, List.setIfInBounds_toArray, List.set_cons_zero, List.set_cons_succ]))
    refine wpPlan_end ?_
    replace C := E.cells
    simp [BC, CF] at C
    go_wp2_with fail
    go_ret
    exact ⟨rfl, E.1⟩
  have t1 : decide (ct < 1) = false := by simp at h1 ⊢; omega
  cases h2 : decide (ct ≤ 1000)
  · simp only [Bool.and_false]
    have t2 : decide (ct > 1000) = true := by simp at h2 ⊢; omega
    have t3 : decide (1000 < ct) = true := t2
    clear h2
    go_enter Tryz.func39, Tryz.ntmps39
    go_upto_region 1 with fail
    refine wp_region_plan 34 [(0, true), (1, true), (2, false), (3, true), (4, true), (5, true), (6, true), (7, false), (8, true), (9, true), (10, true), (11, true), (12, true), (13, true), (14, true), (15, true), (16, true), (17, true), (18, true), (19, true), (20, true), (21, true), (22, true), (23, false), (24, true), (25, true), (26, true), (27, true), (28, true), (29, true), (30, true), (31, true), (32, false), (33, true)] (fun W' => Env w W' [⟨w.heap.size, 60, #[.string mk, .int .i64 sz, .int .i64 ct, .int .i64 cd, .slice p ds.length cap]⟩] ∧ W'.cell? ⟨w.heap.size, 0, none⟩ = some (.string mk) ∧ W'.cell? ⟨w.heap.size, 1, none⟩ = some (.int .i64 sz) ∧ W'.cell? ⟨w.heap.size, 2, none⟩ = some (.int .i64 ct) ∧ W'.cell? ⟨w.heap.size, 3, none⟩ = some (.int .i64 cd) ∧ W'.cell? ⟨w.heap.size, 4, none⟩ = some (.slice p ds.length cap)) (by kernel_rfl) (by kernel_rfl) (fun _ _ d _ _ h => by cases d <;> exact h) (s_rv E.drw) ?_
    simp only [List.filterMap_cons, List.filterMap_nil, List.getElem?_cons_zero, List.getElem?_cons_succ, Option.map_some, List.drop_succ_cons, List.drop_zero]
    replace E := E.drw
    iterate 2 (first | (refine wpPlan_still (v := ?_) (Or.inl ⟨by rfl, ?_⟩) ?_; rotate_left; (focus (intro W hW; (try dsimp only at hW); go_split_ands; go_simp; try with_reducible rfl)); try simp only [Act.put, List.setIfInBounds_toArray, List.set_cons_zero, List.set_cons_succ]) | (refine wpPlan_still (Or.inr ⟨by rfl, rfl⟩) ?_; try simp only [Act.put, List.setIfInBounds_toArray, List.set_cons_zero, List.set_cons_succ]))
    refine wpPlan_only (fun K hK => ?_)
    first
      | (rw [if_neg (by exact Bool.false_ne_true)]; refine hK.out _ _ (s_rv E) ?_; clear hK K; try simp only [Act.put, List.setIfInBounds_toArray, List.set_cons_zero, List.set_cons_succ])
      | (try go_simp
         go_at_call 67
         (with_reducible refine (hN _).mono ?_)
         rintro X wp1 ⟨rfl, rfl⟩
         skip
         refine hK.out _ _ (s_rv E) ?_
         clear hK K
         try simp only [Act.put, List.setIfInBounds_toArray, List.set_cons_zero, List.set_cons_succ])
    iterate 4 (first | (refine wpPlan_still (v := ?_) (Or.inl ⟨by rfl, ?_⟩) ?_; rotate_left; (focus (intro W hW; (try dsimp only at hW); go_split_ands; go_simp; try with_reducible rfl)); try simp only [Act.put, List.setIfInBounds_toArray, List.set_cons_zero, List.set_cons_succ]) | (refine wpPlan_still (Or.inr ⟨by rfl, rfl⟩) ?_; try simp only [Act.put, List.setIfInBounds_toArray, List.set_cons_zero, List.set_cons_succ]))
    refine wpPlan_only (fun K hK => ?_)
    first
      | (rw [if_neg (by exact Bool.false_ne_true)]; refine hK.out _ _ (s_rv E) ?_; clear hK K; try simp only [Act.put, List.setIfInBounds_toArray, List.set_cons_zero, List.set_cons_succ])
      | (try go_simp
         go_at_call 55
         (with_reducible refine (hS _).mono ?_)
         rintro X wp1 ⟨rfl, hb⟩
         replace E := E.on hb; clear hb
         refine hK.out _ _ (s_rv E) ?_
         clear hK K
         try simp only [Act.put, List.setIfInBounds_toArray, List.set_cons_zero, List.set_cons_succ])
    iterate 15 (first | (refine wpPlan_still (v := ?_) (Or.inl ⟨by rfl, ?_⟩) ?_; rotate_left; (focus (intro W hW; (try dsimp only at hW); go_split_ands; go_simp; try with_reducible rfl)); try simp only [Act.put, List.setIfInBounds_toArray, List.set_cons_zero, List.set_cons_succ]) | (refine wpPlan_still (Or.inr ⟨by rfl, rfl⟩) ?_; try simp only [Act.put, List.setIfInBounds_toArray, List.set_cons_zero, List.set_cons_succ]))
    refine wpPlan_only (fun K hK => ?_)
    first
      | (rw [if_neg (by exact Bool.false_ne_true)]; refine hK.out _ _ (s_rv E) ?_; clear hK K; try simp only [Act.put, List.setIfInBounds_toArray, List.set_cons_zero, List.set_cons_succ])
      | (try go_simp
         go_at_call 68
         (with_reducible refine (hD _).mono ?_)
         rintro X wp1 ⟨rfl, rfl⟩
         skip
         refine hK.out _ _ (s_rv E) ?_
         clear hK K
         try simp only [Act.put, List.setIfInBounds_toArray, List.set_cons_zero, List.set_cons_succ])
    iterate 8 (first | (refine wpPlan_still (v := ?_) (Or.inl ⟨by rfl, ?_⟩) ?_; rotate_left; (focus (intro W hW; (try dsimp only at hW); go_split_ands; go_simp; try with_reducible rfl)); try simp only [Act.put, List.setIfInBounds_toArray, List.set_cons_zero, List.set_cons_succ]) | (refine wpPlan_still (Or.inr ⟨by rfl, rfl⟩) ?_; try simp only [Act.put, List.setIfInBounds_toArray, List.set_cons_zero, List.set_cons_succ]))
    refine wpPlan_only (fun K hK => ?_)
    first
      | (rw [if_neg (by exact Bool.false_ne_true)]; refine hK.out _ _ (s_rv E) ?_; clear hK K; try simp only [Act.put, List.setIfInBounds_toArray, List.set_cons_zero, List.set_cons_succ])
      | (try go_simp
         go_at_call 68
         (with_reducible refine (hD _).mono ?_)
         rintro X wp1 ⟨rfl, rfl⟩
         skip
         refine hK.out _ _ (s_rv E) ?_
         clear hK K
         try simp only [Act.put, List.setIfInBounds_toArray, List.set_cons_zero, List.set_cons_succ])
    iterate 1 (first | (refine wpPlan_still (v := ?_) (Or.inl ⟨by rfl, ?_⟩) ?_; rotate_left; (focus (intro W hW; (try dsimp only at hW); go_split_ands; go_simp; try with_reducible rfl)); try simp only [Act.put, List.setIfInBounds_toArray, List.set_cons_zero, List.set_cons_succ]) | (refine wpPlan_still (Or.inr ⟨by rfl, rfl⟩) ?_; try simp only [Act.put, List.setIfInBounds_toArray, List.set_cons_zero, List.set_cons_succ]))
    refine wpPlan_end ?_
    replace C := E.cells
    simp [BC, CF] at C
    go_wp2_with fail
    go_ret
    exact ⟨rfl, E.1⟩
  have t2 : decide (ct > 1000) = false := by simp at h2 ⊢; omega
  have t3 : decide (1000 < ct) = false := t2
  cases IC
  · simp only [Bool.false_and]
    have e := hz.2 rfl
    subst e
    clear h1 h2 hz
    go_enter Tryz.func39, Tryz.ntmps39
    go_upto_region 1 with fail
    refine wp_region_plan 34 [(0, true), (1, true), (2, false), (3, true), (4, true), (5, true), (6, true), (7, false), (8, true), (9, true), (10, true), (11, true), (12, true), (13, true), (14, true), (15, true), (16, true), (17, true), (18, true), (19, true), (20, true), (21, true), (22, true), (23, false), (24, true), (25, true), (26, true), (27, true), (28, true), (29, true), (30, true), (31, true), (32, false), (33, true)] (fun W' => Env w W' [⟨w.heap.size, 60, #[.string mk, .int .i64 sz, .int .i64 ct, .int .i64 cd, .slice p ds.length cap]⟩] ∧ W'.cell? ⟨w.heap.size, 0, none⟩ = some (.string mk) ∧ W'.cell? ⟨w.heap.size, 1, none⟩ = some (.int .i64 sz) ∧ W'.cell? ⟨w.heap.size, 2, none⟩ = some (.int .i64 ct) ∧ W'.cell? ⟨w.heap.size, 3, none⟩ = some (.int .i64 cd) ∧ W'.cell? ⟨w.heap.size, 4, none⟩ = some (.slice p ds.length cap)) (by kernel_rfl) (by kernel_rfl) (fun _ _ d _ _ h => by cases d <;> exact h) (s_rv E.drw) ?_
    simp only [List.filterMap_cons, List.filterMap_nil, List.getElem?_cons_zero, List.getElem?_cons_succ, Option.map_some, List.drop_succ_cons, List.drop_zero]
    replace E := E.drw
    iterate 2 (first | (refine wpPlan_still (v := ?_) (Or.inl ⟨by rfl, ?_⟩) ?_; rotate_left; (focus (intro W hW; (try dsimp only at hW); go_split_ands; go_simp; try with_reducible rfl)); try simp only [Act.put, List.setIfInBounds_toArray, List.set_cons_zero, List.set_cons_succ]) | (refine wpPlan_still (Or.inr ⟨by rfl, rfl⟩) ?_; try simp only [Act.put, List.setIfInBounds_toArray, List.set_cons_zero, List.set_cons_succ]))
    refine wpPlan_only (fun K hK => ?_)
    first
      | (rw [if_neg (by exact Bool.false_ne_true)]; refine hK.out _ _ (s_rv E) ?_; clear hK K; try simp only [Act.put, List.setIfInBounds_toArray, List.set_cons_zero, List.set_cons_succ])
      | (try go_simp
         go_at_call 67
         (with_reducible refine (hN _).mono ?_)
         rintro X wp1 ⟨rfl, rfl⟩
         skip
         refine hK.out _ _ (s_rv E) ?_
         clear hK K
         try simp only [Act.put, List.setIfInBounds_toArray, List.set_cons_zero, List.set_cons_succ])
    iterate 4 (first | (refine wpPlan_still (v := ?_) (Or.inl ⟨by rfl, ?_⟩) ?_; rotate_left; (focus (intro W hW; (try dsimp only at hW); go_split_ands; go_simp; try with_reducible rfl)); try simp only [Act.put, List.setIfInBounds_toArray, List.set_cons_zero, List.set_cons_succ]) | (refine wpPlan_still (Or.inr ⟨by rfl, rfl⟩) ?_; try simp only [Act.put, List.setIfInBounds_toArray, List.set_cons_zero, List.set_cons_succ]))
    refine wpPlan_only (fun K hK => ?_)
    first
      | (rw [if_neg (by exact Bool.false_ne_true)]; refine hK.out _ _ (s_rv E) ?_; clear hK K; try simp only [Act.put, List.setIfInBounds_toArray, List.set_cons_zero, List.set_cons_succ])
      | (try go_simp
         go_at_call 55
         (with_reducible refine (hS _).mono ?_)
         rintro X wp1 ⟨rfl, hb⟩
         replace E := E.on hb; clear hb
         refine hK.out _ _ (s_rv E) ?_
         clear hK K
         try simp only [Act.put, List.setIfInBounds_toArray, List.set_cons_zero, List.set_cons_succ])
    iterate 15 (first | (refine wpPlan_still (v := ?_) (Or.inl ⟨by rfl, ?_⟩) ?_; rotate_left; (focus (intro W hW; (try dsimp only at hW); go_split_ands; go_simp; try with_reducible rfl)); try simp only [Act.put, List.setIfInBounds_toArray, List.set_cons_zero, List.set_cons_succ]) | (refine wpPlan_still (Or.inr ⟨by rfl, rfl⟩) ?_; try simp only [Act.put, List.setIfInBounds_toArray, List.set_cons_zero, List.set_cons_succ]))
    refine wpPlan_only (fun K hK => ?_)
    first
      | (rw [if_neg (by exact Bool.false_ne_true)]; refine hK.out _ _ (s_rv E) ?_; clear hK K; try simp only [Act.put, List.setIfInBounds_toArray, List.set_cons_zero, List.set_cons_succ])
      | (try go_simp
         go_at_call 68
         (with_reducible refine (hD _).mono ?_)
         rintro X wp1 ⟨rfl, rfl⟩
         skip
         refine hK.out _ _ (s_rv E) ?_
         clear hK K
         try simp only [Act.put, List.setIfInBounds_toArray, List.set_cons_zero, List.set_cons_succ])
    iterate 8 (first | (refine wpPlan_still (v := ?_) (Or.inl ⟨by rfl, ?_⟩) ?_; rotate_left; (focus (intro W hW; (try dsimp only at hW); go_split_ands; go_simp; try with_reducible rfl)); try simp only [Act.put, List.setIfInBounds_toArray, List.set_cons_zero, List.set_cons_succ]) | (refine wpPlan_still (Or.inr ⟨by rfl, rfl⟩) ?_; try simp only [Act.put, List.setIfInBounds_toArray, List.set_cons_zero, List.set_cons_succ]))
    refine wpPlan_only (fun K hK => ?_)
    first
      | (rw [if_neg (by exact Bool.false_ne_true)]; refine hK.out _ _ (s_rv E) ?_; clear hK K; try simp only [Act.put, List.setIfInBounds_toArray, List.set_cons_zero, List.set_cons_succ])
      | (try go_simp
         go_at_call 68
         (with_reducible refine (hD _).mono ?_)
         rintro X wp1 ⟨rfl, rfl⟩
         skip
         refine hK.out _ _ (s_rv E) ?_
         clear hK K
         try simp only [Act.put, List.setIfInBounds_toArray, List.set_cons_zero, List.set_cons_succ])
    iterate 1 (first | (refine wpPlan_still (v := ?_) (Or.inl ⟨by rfl, ?_⟩) ?_; rotate_left; (focus (intro W hW; (try dsimp only at hW); go_split_ands; go_simp; try with_reducible rfl)); try simp only [Act.put, List.setIfInBounds_toArray, List.set_cons_zero, List.set_cons_succ]) | (refine wpPlan_still (Or.inr ⟨by rfl, rfl⟩) ?_; try simp only [Act.put, List.setIfInBounds_toArray, List.set_cons_zero, List.set_cons_succ]))
    refine wpPlan_end ?_
    replace C := E.cells
    simp [BC, CF] at C
    go_wp2_with fail
    go_ret
    exact ⟨rfl, E.1⟩
  have hn : ((n : Int) == 0) = false := by
    have : ¬ n = 0 := fun k => by have := hz.1 k; cases this
    simp; omega
  cases hl : (ds.length == n)
  · simp only [Bool.false_and, Bool.and_false]
    have q1 : ((ds.length : Int) != (n : Int)) = true := by simp at hl ⊢; omega
    clear h1 h2 hz hl
    go_enter Tryz.func39, Tryz.ntmps39
    go_upto_region 1 with fail
    refine wp_region_plan 34 [(0, true), (1, true), (2, false), (3, true), (4, true), (5, true), (6, true), (7, false), (8, true), (9, true), (10, true), (11, true), (12, true), (13, true), (14, true), (15, true), (16, true), (17, true), (18, true), (19, true), (20, true), (21, true), (22, true), (23, false), (24, true), (25, true), (26, true), (27, true), (28, true), (29, true), (30, true), (31, true), (32, false), (33, true)] (fun W' => Env w W' [⟨w.heap.size, 60, #[.string mk, .int .i64 sz, .int .i64 ct, .int .i64 cd, .slice p ds.length cap]⟩] ∧ W'.cell? ⟨w.heap.size, 0, none⟩ = some (.string mk) ∧ W'.cell? ⟨w.heap.size, 1, none⟩ = some (.int .i64 sz) ∧ W'.cell? ⟨w.heap.size, 2, none⟩ = some (.int .i64 ct) ∧ W'.cell? ⟨w.heap.size, 3, none⟩ = some (.int .i64 cd) ∧ W'.cell? ⟨w.heap.size, 4, none⟩ = some (.slice p ds.length cap)) (by kernel_rfl) (by kernel_rfl) (fun _ _ d _ _ h => by cases d <;> exact h) (s_rv E.drw) ?_
    simp only [List.filterMap_cons, List.filterMap_nil, List.getElem?_cons_zero, List.getElem?_cons_succ, Option.map_some, List.drop_succ_cons, List.drop_zero]
    replace E := E.drw
    iterate 2 (first | (refine wpPlan_still (v := ?_) (Or.inl ⟨by rfl, ?_⟩) ?_; rotate_left; (focus (intro W hW; (try dsimp only at hW); go_split_ands; go_simp; try with_reducible rfl)); try simp only [Act.put, List.setIfInBounds_toArray, List.set_cons_zero, List.set_cons_succ]) | (refine wpPlan_still (Or.inr ⟨by rfl, rfl⟩) ?_; try simp only [Act.put, List.setIfInBounds_toArray, List.set_cons_zero, List.set_cons_succ]))
    refine wpPlan_only (fun K hK => ?_)
    first
      | (rw [if_neg (by exact Bool.false_ne_true)]; refine hK.out _ _ (s_rv E) ?_; clear hK K; try simp only [Act.put, List.setIfInBounds_toArray, List.set_cons_zero, List.set_cons_succ])
      | (try go_simp
         go_at_call 67
         (with_reducible refine (hN _).mono ?_)
         rintro X wp1 ⟨rfl, rfl⟩
         skip
         refine hK.out _ _ (s_rv E) ?_
         clear hK K
         try simp only [Act.put, List.setIfInBounds_toArray, List.set_cons_zero, List.set_cons_succ])
    iterate 4 (first | (refine wpPlan_still (v := ?_) (Or.inl ⟨by rfl, ?_⟩) ?_; rotate_left; (focus (intro W hW; (try dsimp only at hW); go_split_ands; go_simp; try with_reducible rfl)); try simp only [Act.put, List.setIfInBounds_toArray, List.set_cons_zero, List.set_cons_succ]) | (refine wpPlan_still (Or.inr ⟨by rfl, rfl⟩) ?_; try simp only [Act.put, List.setIfInBounds_toArray, List.set_cons_zero, List.set_cons_succ]))
    refine wpPlan_only (fun K hK => ?_)
    first
      | (rw [if_neg (by exact Bool.false_ne_true)]; refine hK.out _ _ (s_rv E) ?_; clear hK K; try simp only [Act.put, List.setIfInBounds_toArray, List.set_cons_zero, List.set_cons_succ])
      | (try go_simp
         go_at_call 55
         (with_reducible refine (hS _).mono ?_)
         rintro X wp1 ⟨rfl, hb⟩
         replace E := E.on hb; clear hb
         refine hK.out _ _ (s_rv E) ?_
         clear hK K
         try simp only [Act.put, List.setIfInBounds_toArray, List.set_cons_zero, List.set_cons_succ])
    iterate 15 (first | (refine wpPlan_still (v := ?_) (Or.inl ⟨by rfl, ?_⟩) ?_; rotate_left; (focus (intro W hW; (try dsimp only at hW); go_split_ands; go_simp; try with_reducible rfl)); try simp only [Act.put, List.setIfInBounds_toArray, List.set_cons_zero, List.set_cons_succ]) | (refine wpPlan_still (Or.inr ⟨by rfl, rfl⟩) ?_; try simp only [Act.put, List.setIfInBounds_toArray, List.set_cons_zero, List.set_cons_succ]))
    refine wpPlan_only (fun K hK => ?_)
    first
      | (rw [if_neg (by exact Bool.false_ne_true)]; refine hK.out _ _ (s_rv E) ?_; clear hK K; try simp only [Act.put, List.setIfInBounds_toArray, List.set_cons_zero, List.set_cons_succ])
      | (try go_simp
         go_at_call 68
         (with_reducible refine (hD _).mono ?_)
         rintro X wp1 ⟨rfl, rfl⟩
         skip
         refine hK.out _ _ (s_rv E) ?_
         clear hK K
         try simp only [Act.put, List.setIfInBounds_toArray, List.set_cons_zero, List.set_cons_succ])
    iterate 8 (first | (refine wpPlan_still (v := ?_) (Or.inl ⟨by rfl, ?_⟩) ?_; rotate_left; (focus (intro W hW; (try dsimp only at hW); go_split_ands; go_simp; try with_reducible rfl)); try simp only [Act.put, List.setIfInBounds_toArray, List.set_cons_zero, List.set_cons_succ]) | (refine wpPlan_still (Or.inr ⟨by rfl, rfl⟩) ?_; try simp only [Act.put, List.setIfInBounds_toArray, List.set_cons_zero, List.set_cons_succ]))
    refine wpPlan_only (fun K hK => ?_)
    first
      | (rw [if_neg (by exact Bool.false_ne_true)]; refine hK.out _ _ (s_rv E) ?_; clear hK K; try simp only [Act.put, List.setIfInBounds_toArray, List.set_cons_zero, List.set_cons_succ])
      | (try go_simp
         go_at_call 68
         (with_reducible refine (hD _).mono ?_)
         rintro X wp1 ⟨rfl, rfl⟩
         skip
         refine hK.out _ _ (s_rv E) ?_
         clear hK K
         try simp only [Act.put, List.setIfInBounds_toArray, List.set_cons_zero, List.set_cons_succ])
    iterate 1 (first | (refine wpPlan_still (v := ?_) (Or.inl ⟨by rfl, ?_⟩) ?_; rotate_left; (focus (intro W hW; (try dsimp only at hW); go_split_ands; go_simp; try with_reducible rfl)); try simp only [Act.put, List.setIfInBounds_toArray, List.set_cons_zero, List.set_cons_succ]) | (refine wpPlan_still (Or.inr ⟨by rfl, rfl⟩) ?_; try simp only [Act.put, List.setIfInBounds_toArray, List.set_cons_zero, List.set_cons_succ]))
    refine wpPlan_end ?_
    replace C := E.cells
    simp [BC, CF] at C
    go_wp2_with fail
    go_ret
    exact ⟨rfl, E.1⟩
  have hl' := Lib.hid (show ds.length = n by simpa using hl)
  have q1 : ((ds.length : Int) != (n : Int)) = false := by have := hl'.out; simp; omega
  simp only [Bool.true_and, Bool.and_true]
  clear h1 h2 hz hl
  go_enter Tryz.func39, Tryz.ntmps39
  go_upto_region 1 with fail
  refine wp_region_plan 34 [(0, true), (1, true), (2, false), (3, true), (4, true), (5, true), (6, true), (7, false), (8, true), (9, true), (10, true), (11, true), (12, true), (13, true), (14, true), (15, true), (16, true), (17, true), (18, true), (19, true), (20, true), (21, true), (22, true), (23, false), (24, true), (25, true), (26, true), (27, true), (28, true), (29, true), (30, true), (31, true), (32, false), (33, true)] (fun W' => Env w W' [⟨w.heap.size, 60, #[.string mk, .int .i64 sz, .int .i64 ct, .int .i64 cd, .slice p ds.length cap]⟩] ∧ W'.cell? ⟨w.heap.size, 0, none⟩ = some (.string mk) ∧ W'.cell? ⟨w.heap.size, 1, none⟩ = some (.int .i64 sz) ∧ W'.cell? ⟨w.heap.size, 2, none⟩ = some (.int .i64 ct) ∧ W'.cell? ⟨w.heap.size, 3, none⟩ = some (.int .i64 cd) ∧ W'.cell? ⟨w.heap.size, 4, none⟩ = some (.slice p ds.length cap)) (by kernel_rfl) (by kernel_rfl) (fun _ _ d _ _ h => by cases d <;> exact h) (s_rv E.drw) ?_
  simp only [List.filterMap_cons, List.filterMap_nil, List.getElem?_cons_zero, List.getElem?_cons_succ, Option.map_some, List.drop_succ_cons, List.drop_zero]
  replace E := E.drw
  iterate 2 (first | (refine wpPlan_still (v := ?_) (Or.inl ⟨by rfl, ?_⟩) ?_; rotate_left; (focus (intro W hW; (try dsimp only at hW); go_split_ands; go_simp; try with_reducible rfl)); try simp only [Act.put, List.setIfInBounds_toArray, List.set_cons_zero, List.set_cons_succ]) | (refine wpPlan_still (Or.inr ⟨by rfl, rfl⟩) ?_; try simp only [Act.put, List.setIfInBounds_toArray, List.set_cons_zero, List.set_cons_succ]))
  refine wpPlan_only (fun K hK => ?_)
  first
    | (rw [if_neg (by exact Bool.false_ne_true)]; refine hK.out _ _ (s_rv E) ?_; clear hK K; try simp only [Act.put, List.setIfInBounds_toArray, List.set_cons_zero, List.set_cons_succ])
    | (try go_simp
       go_at_call 67
       (with_reducible refine (hN _).mono ?_)
       rintro X wp1 ⟨rfl, rfl⟩
       skip
       refine hK.out _ _ (s_rv E) ?_
       clear hK K
       try simp only [Act.put, List.setIfInBounds_toArray, List.set_cons_zero, List.set_cons_succ])
  iterate 4 (first | (refine wpPlan_still (v := ?_) (Or.inl ⟨by rfl, ?_⟩) ?_; rotate_left; (focus (intro W hW; (try dsimp only at hW); go_split_ands; go_simp; try with_reducible rfl)); try simp only [Act.put, List.setIfInBounds_toArray, List.set_cons_zero, List.set_cons_succ]) | (refine wpPlan_still (Or.inr ⟨by rfl, rfl⟩) ?_; try simp only [Act.put, List.setIfInBounds_toArray, List.set_cons_zero, List.set_cons_succ]))
  refine wpPlan_only (fun K hK => ?_)
  first
    | (rw [if_neg (by exact Bool.false_ne_true)]; refine hK.out _ _ (s_rv E) ?_; clear hK K; try simp only [Act.put, List.setIfInBounds_toArray, List.set_cons_zero, List.set_cons_succ])
    | (try go_simp
       go_at_call 55
       (with_reducible refine (hS _).mono ?_)
       rintro X wp1 ⟨rfl, hb⟩
       replace E := E.on hb; clear hb
       refine hK.out _ _ (s_rv E) ?_
       clear hK K
       try simp only [Act.put, List.setIfInBounds_toArray, List.set_cons_zero, List.set_cons_succ])
  iterate 15 (first | (refine wpPlan_still (v := ?_) (Or.inl ⟨by rfl, ?_⟩) ?_; rotate_left; (focus (intro W hW; (try dsimp only at hW); go_split_ands; go_simp; try with_reducible rfl)); try simp only [Act.put, List.setIfInBounds_toArray, List.set_cons_zero, List.set_cons_succ]) | (refine wpPlan_still (Or.inr ⟨by rfl, rfl⟩) ?_; try simp only [Act.put, List.setIfInBounds_toArray, List.set_cons_zero, List.set_cons_succ]))
  refine wpPlan_only (fun K hK => ?_)
  first
    | (rw [if_neg (by exact Bool.false_ne_true)]; refine hK.out _ _ (s_rv E) ?_; clear hK K; try simp only [Act.put, List.setIfInBounds_toArray, List.set_cons_zero, List.set_cons_succ])
    | (try go_simp
       go_at_call 68
       (with_reducible refine (hD _).mono ?_)
       rintro X wp1 ⟨rfl, rfl⟩
       skip
       refine hK.out _ _ (s_rv E) ?_
       clear hK K
       try simp only [Act.put, List.setIfInBounds_toArray, List.set_cons_zero, List.set_cons_succ])
  iterate 8 (first | (refine wpPlan_still (v := ?_) (Or.inl ⟨by rfl, ?_⟩) ?_; rotate_left; (focus (intro W hW; (try dsimp only at hW); go_split_ands; go_simp; try with_reducible rfl)); try simp only [Act.put, List.setIfInBounds_toArray, List.set_cons_zero, List.set_cons_succ]) | (refine wpPlan_still (Or.inr ⟨by rfl, rfl⟩) ?_; try simp only [Act.put, List.setIfInBounds_toArray, List.set_cons_zero, List.set_cons_succ]))
  refine wpPlan_only (fun K hK => ?_)
  first
    | (rw [if_neg (by exact Bool.false_ne_true)]; refine hK.out _ _ (s_rv E) ?_; clear hK K; try simp only [Act.put, List.setIfInBounds_toArray, List.set_cons_zero, List.set_cons_succ])
    | (try go_simp
       go_at_call 68
       (with_reducible refine (hD _).mono ?_)
       rintro X wp1 ⟨rfl, rfl⟩
       skip
       refine hK.out _ _ (s_rv E) ?_
       clear hK K
       try simp only [Act.put, List.setIfInBounds_toArray, List.set_cons_zero, List.set_cons_succ])
  iterate 1 (first | (refine wpPlan_still (v := ?_) (Or.inl ⟨by rfl, ?_⟩) ?_; rotate_left; (focus (intro W hW; (try dsimp only at hW); go_split_ands; go_simp; try with_reducible rfl)); try simp only [Act.put, List.setIfInBounds_toArray, List.set_cons_zero, List.set_cons_succ]) | (refine wpPlan_still (Or.inr ⟨by rfl, rfl⟩) ?_; try simp only [Act.put, List.setIfInBounds_toArray, List.set_cons_zero, List.set_cons_succ]))
  refine wpPlan_end ?_
  replace C := E.cells
  simp [BC, CF] at C
  go_wp2_with fail
  have hB := envb E
  have hl5 : ds.length ≤ 5 := by rw [hl'.out]; exact hle
  have E0 := Lib.hid E
  clear E hle hl' hn q1 hD hN hS t1 t2 t3
  go_loop [3, 4] (fun v3 v4 => ∃ (k : Nat) (s : Int), v4 = .int .i64 k ∧ v3 = .int .i64 s ∧ k ≤ ds.length ∧ 0 ≤ s ∧ s ≤ (k : Int) * 1048576 ∧ Hid (okL (ds.take k) = true ∧ (ds.take k).sum = s)) (fun _ v => ds.length - (intOf v).toNat)
  case atStart => exact ⟨0, 0, rfl, rfl, Nat.zero_le _, by omega, by omega, Lib.hid ⟨rfl, rfl⟩⟩
  case round =>
    obtain ⟨k, s, rfl, rfl, hk, s0, s1, hG⟩ := hrel
    by_cases hlt : k < ds.length
    · have g1 : decide ((k : Int) < (ds.length : Int)) = true := by simp [hlt]
      have W1 : IntKind.i64.wrap ((k : Int) + 1) = ((k + 1 : Nat) : Int) := by rw [IntWalk.i64_in _ (by omega)]; omega
      have q1 : (0 : Int) ≤ (k : Int) := by omega
      have q2 : (k : Int) < (ds.length : Int) := by omega
      obtain ⟨a, rfl, d0⟩ := HD.out k hlt
      replace d0 := cellLater hB d0
      obtain ⟨y, hyy⟩ : ∃ y, y = ds[k] := ⟨_, rfl⟩
      have hs : Hid (okL (ds.take (k + 1)) = (decide (1 ≤ y) && decide (y ≤ 1048576)) ∧ (ds.take (k + 1)).sum = s + y) := Lib.hid (by
        rw [okL_step hlt hG.out.1, hyy]
        refine ⟨rfl, ?_⟩
        rw [List.take_succ_eq_append_getElem hlt, List.sum_append, hG.out.2]; simp)
      rw [← hyy] at d0
      clear hyy hG
      by_cases e : y < 1
      · have t1 : decide (y < 1) = true := by simp [e]
        have HE : Hid (FT = false) := Lib.hid (by rw [HF.out, okL_take (k + 1) (by rw [hs.out.1]; simp; omega)]; rfl)
        clear e hs
        go_wp2
        go_ret
        exact ⟨by rw [HE.out]; rfl, hB⟩
      · have t1 : decide (y < 1) = false := by simp; omega
        by_cases e2 : 1048576 < y
        · have t2 : decide (1048576 < y) = true := by simp [e2]
          have t3 : decide (y > 1048576) = true := by simp; omega
          have HE : Hid (FT = false) := Lib.hid (by rw [HF.out, okL_take (k + 1) (by rw [hs.out.1]; simp; omega)]; rfl)
          clear e e2 hs
          go_wp2
          go_ret
          exact ⟨by rw [HE.out]; rfl, hB⟩
        · have t2 : decide (1048576 < y) = false := by simp; omega
          have t3 : decide (y > 1048576) = false := by simp; omega
          have W2 : IntKind.i64.wrap (s + y) = s + y := IntWalk.i64_in _ (by omega)
          have HG : Hid (okL (ds.take (k + 1)) = true ∧ (ds.take (k + 1)).sum = s + y) := Lib.hid ⟨by rw [hs.out.1]; simp; omega, hs.out.2⟩
          clear hs
          go_wp2
          exact ⟨⟨k + 1, s + y, rfl, rfl, hlt, by omega, by omega, HG⟩, by simp [intOf]; omega⟩
    · have g1 : decide ((k : Int) < (ds.length : Int)) = false := by simp; omega
      have HE : Hid (FT = decide (s ≤ 262144)) := Lib.hid (by
        have h := hG.out
        rw [List.take_of_length_le (by omega)] at h
        rw [HF.out, h.1, h.2]; rfl)
      go_wp2
      go_ret
      exact ⟨by rw [HE.out]; rfl, hB⟩
end Go.Proofs.YthdafpbmmfelpaaGreatDoor
namespace Go.Proofs.YthdafpbmmfelpaaGreatDoor
open Go.ChangeShapes Go.WideShapes Go.ChangeAt Go.RowKit
set_option linter.unusedVariables false
set_option linter.unusedSimpArgs false

theorem rdz_fn {w : World} {p : Option Addr} {n cap : Nat} {l : List Int} (h : Rdz w (.slice p n cap) l) (hl : l.length = n) (hn : 0 < n) : ∃ a : Addr, p = some a ∧ ∀ j (hj : j < l.length), w.cell? (a.add j) = some (.int .i64 l[j]) := by
  obtain ⟨q, c, e, k⟩ := h
  simp only [Value.slice.injEq] at e
  obtain ⟨rfl, -, rfl⟩ := e
  obtain ⟨a, rfl, -⟩ := k 0 (by omega)
  refine ⟨a, rfl, fun j hj => ?_⟩
  obtain ⟨a', e, h⟩ := k j hj
  cases e; exact h
theorem Own.fn {B : Nat} {w : World} {v : Value} {l : List Pt} (h : Own pc 189 3 B w v l) (hl : 0 < l.length) : ∃ g cap, v = .slice (some ⟨g, 0, none⟩) l.length cap ∧ ∀ k (hk : k < l.length), w.cell? ⟨g, k * 3, none⟩ = some (.int .i64 l[k].x) ∧ w.cell? ⟨g, k * 3 + 1, none⟩ = some (.int .i64 l[k].y) ∧ w.cell? ⟨g, k * 3 + 2, none⟩ = some (.int .i64 l[k].z) := by
  obtain ⟨q, c, rfl, k⟩ := Own.rd pl h
  obtain ⟨g, rfl, -⟩ := k 0 hl
  refine ⟨g, c, rfl, fun i hi => ?_⟩
  obtain ⟨g', e, hc⟩ := k i hi
  cases e
  have h0 := hc 0 (by omega)
  have h1 := hc 1 (by omega)
  have h2 := hc 2 (by omega)
  simp [pc] at h0 h1 h2
  exact ⟨h0, h1, h2⟩
theorem way_in {c : Int} (h : isC c = true) {k : Nat} (hk : k < nl c) : way c k = 88 ∨ way c k = 120 ∨ way c k = 89 ∨ way c k = 121 ∨ way c k = 90 := by
  rcases code_in h with rfl | rfl | rfl | rfl | rfl | rfl | rfl | rfl <;>
  · have hk' : k < 6 := Nat.lt_of_lt_of_le hk (nl_le h)
    revert hk
    rcases (by omega : k = 0 ∨ k = 1 ∨ k = 2 ∨ k = 3 ∨ k = 4 ∨ k = 5) with rfl | rfl | rfl | rfl | rfl | rfl <;> decide
theorem legs_sum {b : Bar} (h : barB b = true) : (legs b).sum ≤ 524288 := by
  obtain ⟨hC, hl, hf, -⟩ := barB_and h
  obtain ⟨mk, sz, ct, cd, p, ds, cap⟩ := b
  dsimp only at hC hl hf
  have hs := (fitB_sum _ _ (by omega) hf).2
  have hm := fitB_mem _ _ hf (by omega)
  rcases code_in hC with rfl | rfl | rfl | rfl | rfl | rfl | rfl | rfl
  · have hl' : ds.length = 1 := hl.trans (by kernel_rfl)
    match ds, hl' with
    | [d0], _ =>
      have e : legs ⟨mk, sz, ct, 0, p, [d0], cap⟩ = [d0] := by kernel_rfl
      rw [e]
      simp only [List.mem_cons, List.not_mem_nil, or_false, forall_eq_or_imp, forall_eq] at hm
      simp only [List.sum_cons, List.sum_nil] at hs ⊢
      omega
  · have hl' : ds.length = 2 := hl.trans (by kernel_rfl)
    match ds, hl' with
    | [d0, d1], _ =>
      have e : legs ⟨mk, sz, ct, 11, p, [d0, d1], cap⟩ = [d0, d1] := by kernel_rfl
      rw [e]
      simp only [List.mem_cons, List.not_mem_nil, or_false, forall_eq_or_imp, forall_eq] at hm
      simp only [List.sum_cons, List.sum_nil] at hs ⊢
      omega
  · have hl' : ds.length = 3 := hl.trans (by kernel_rfl)
    match ds, hl' with
    | [d0, d1, d2], _ =>
      have e : legs ⟨mk, sz, ct, 21, p, [d0, d1, d2], cap⟩ = [d0, d1, d2] := by kernel_rfl
      rw [e]
      simp only [List.mem_cons, List.not_mem_nil, or_false, forall_eq_or_imp, forall_eq] at hm
      simp only [List.sum_cons, List.sum_nil] at hs ⊢
      omega
  · have hl' : ds.length = 3 := hl.trans (by kernel_rfl)
    match ds, hl' with
    | [d0, d1, d2], _ =>
      have e : legs ⟨mk, sz, ct, 26, p, [d0, d1, d2], cap⟩ = [d0, d1, d2] := by kernel_rfl
      rw [e]
      simp only [List.mem_cons, List.not_mem_nil, or_false, forall_eq_or_imp, forall_eq] at hm
      simp only [List.sum_cons, List.sum_nil] at hs ⊢
      omega
  · have hl' : ds.length = 3 := hl.trans (by kernel_rfl)
    match ds, hl' with
    | [d0, d1, d2], _ =>
      have e : legs ⟨mk, sz, ct, 31, p, [d0, d1, d2], cap⟩ = [d0, d1, d2] := by kernel_rfl
      rw [e]
      simp only [List.mem_cons, List.not_mem_nil, or_false, forall_eq_or_imp, forall_eq] at hm
      simp only [List.sum_cons, List.sum_nil] at hs ⊢
      omega
  · have hl' : ds.length = 5 := hl.trans (by kernel_rfl)
    match ds, hl' with
    | [d0, d1, d2, d3, d4], _ =>
      have e : legs ⟨mk, sz, ct, 41, p, [d0, d1, d2, d3, d4], cap⟩ = [d0, d1, d2, d3, d4] := by kernel_rfl
      rw [e]
      simp only [List.mem_cons, List.not_mem_nil, or_false, forall_eq_or_imp, forall_eq] at hm
      simp only [List.sum_cons, List.sum_nil] at hs ⊢
      omega
  · have hl' : ds.length = 3 := hl.trans (by kernel_rfl)
    match ds, hl' with
    | [d0, d1, d2], _ =>
      have e : legs ⟨mk, sz, ct, 51, p, [d0, d1, d2], cap⟩ = [d2, d0, d1, d0, d1, d2] := by kernel_rfl
      rw [e]
      simp only [List.mem_cons, List.not_mem_nil, or_false, forall_eq_or_imp, forall_eq] at hm
      simp only [List.sum_cons, List.sum_nil] at hs ⊢
      omega
  · have hl' : ds.length = 3 := hl.trans (by kernel_rfl)
    match ds, hl' with
    | [d0, d1, d2], _ =>
      have e : legs ⟨mk, sz, ct, 98, p, [d0, d1, d2], cap⟩ = [d0, d1, d2, d1, d0] := by kernel_rfl
      rw [e]
      simp only [List.mem_cons, List.not_mem_nil, or_false, forall_eq_or_imp, forall_eq] at hm
      simp only [List.sum_cons, List.sum_nil] at hs ⊢
      omega
theorem pt_sum {b : Bar} (h : barB b = true) : ∀ k, k ≤ nl b.code → (pt b k).bd ((legs b).take k).sum ∧ 0 ≤ ((legs b).take k).sum
  | 0, _ => by simp [pt, Pt.bd]
  | k + 1, hk => by
    have h1 := pt_sum h k (by omega)
    have h2 := leg_bd h (j := k) (by omega)
    have h3 := mv_bd (c := way b.code k) h1.1 (n := legF b k) (by omega)
    have e : ((legs b).take (k + 1)).sum = ((legs b).take k).sum + legF b k := by
      rw [List.take_succ_eq_append_getElem (by rw [legs_len]; omega), List.sum_append]; simp [legs]
    rw [e]
    exact ⟨h3, by omega⟩
theorem take_le {b : Bar} (h : barB b = true) : ∀ k, k ≤ nl b.code → ((legs b).take (nl b.code - k)).sum ≤ (legs b).sum
  | 0, _ => by rw [Nat.sub_zero, List.take_of_length_le (by rw [legs_len]; omega)]; exact Int.le_refl _
  | k + 1, hk => by
    have h1 := take_le h k (by omega)
    have hj : nl b.code - (k + 1) < nl b.code := by omega
    have h2 := leg_bd h hj
    have e : ((legs b).take (nl b.code - k)).sum = ((legs b).take (nl b.code - (k + 1))).sum + legF b (nl b.code - (k + 1)) := by
      rw [show nl b.code - k = (nl b.code - (k + 1)) + 1 by omega, List.take_succ_eq_append_getElem (by rw [legs_len]; omega), List.sum_append]; simp [legs]
    omega
theorem pt_near {b : Bar} (h : barB b = true) {k : Nat} (hk : k ≤ nl b.code) : (pt b k).bd 524288 := by
  have h1 := (pt_sum h k hk).1
  have h2 := take_le h (nl b.code - k) (by omega)
  rw [show nl b.code - (nl b.code - k) = k by omega] at h2
  have h3 := legs_sum h
  unfold Pt.bd at h1 ⊢
  omega
end Go.Proofs.YthdafpbmmfelpaaGreatDoor
namespace Go.Proofs.YthdafpbmmfelpaaGreatDoor
open Go.ChangeShapes Go.WideShapes Go.ChangeAt Go.RowKit
set_option linter.unusedVariables false
set_option linter.unusedSimpArgs false

def movF (b : Bar) (k : Nat) : Pt := mv ⟨0, 0, 0⟩ (way b.code k) (legF b k)
def movesL (b : Bar) : List Pt := (List.range (nl b.code)).map (movF b)
theorem Has.newn {n : Nat} (w : World) (cs : Array Value) (h : w.heap.size = n) : Has (w.alloc (.cells cs 189)) n 189 cs := by
  subst h; exact Has.new_ _ _ _
theorem own_pts {w : World} {B g n : Nat} {cs : Array Value} {l : List Pt} (h : Has w g 189 cs) (e : cs.toList = l.flatMap pc) (hl : l.length = n) (hB : B ≤ g) (hn : n ≤ maxLen) : Own pc 189 3 B w (.slice (some ⟨g, 0, none⟩) n n) l := by
  subst hl
  have hs : cs.size = l.length * 3 := by
    rw [← Array.length_toList, e, flat_len pc 3 pl]
  have := own_lit (n := l.length) (s := 3) h hs hB hn
  unfold Own
  rw [← e]; exact this
set_option maxHeartbeats 8000000 in
set_option maxRecDepth 100000 in
theorem rmoves_0 (mk : ByteArray) (sz ct : Int) (p : Option Addr) (d0 : Int) (cap : Nat) (w : World) (hk : Bar.Ok ⟨mk, sz, ct, 0, p, [d0], cap⟩ w) (hv : barB ⟨mk, sz, ct, 0, p, [d0], cap⟩ = true) :
    Calls Tryz.prog 159 #[Bar.val ⟨mk, sz, ct, 0, p, [d0], cap⟩] w fun e w' => ∃ v, e = .returned v ∧ Own pc 189 3 w.heap.size w' v (movesL ⟨mk, sz, ct, 0, p, [d0], cap⟩) ∧ Below w.heap.size w w' := by
  have hm : movesL ⟨mk, sz, ct, 0, p, [d0], cap⟩ = [⟨0 + d0, 0, 0⟩] := by kernel_rfl
  have hm2 : movesL ⟨mk, sz, ct, 0, p, [d0], cap⟩ = [⟨d0, 0, 0⟩] := by rw [hm]; simp
  have hbd := fitB_mem _ _ (barB_and hv).2.2.1 (by omega)
  simp only [List.mem_cons, List.not_mem_nil, or_false, forall_eq_or_imp, forall_eq] at hbd
  obtain ⟨a, rfl, hd⟩ := rdz_fn hk.rd rfl (Nat.succ_pos _)
  have c0 := hd 0 (by simp)
  simp only [List.getElem_cons_zero, List.getElem_cons_succ] at c0
  have E := (Env.nil w).add w.heap.size 60 (Bar.cs ⟨mk, sz, ct, 0, some a, [d0], cap⟩) rfl
  clear hk hv hm hd
  rw [hm2]
  clear hm2
  simp only [Bar.val, Bar.cs, List.length_cons, List.length_nil, Nat.zero_add, Nat.reduceAdd] at E ⊢
  have C := E.cells
  simp [BC, CF] at C
  replace c0 := cellLater (envb E) c0
  have c0' := c0
  rw [show a.add 0 = a by simp [Addr.add]] at c0'
  go_enter Tryz.func159, Tryz.ntmps159
  go_wp2
  go_ret
  refine ⟨_, rfl, own_pts (Has.newn _ #[.int .i64 d0, .int .i64 0, .int .i64 0] (by simp)) (by simp [pc]) rfl (by omega) (by decide), envb (E.more _)⟩
set_option maxHeartbeats 8000000 in
set_option maxRecDepth 100000 in
theorem rmoves_11 (mk : ByteArray) (sz ct : Int) (p : Option Addr) (d0 d1 : Int) (cap : Nat) (w : World) (hk : Bar.Ok ⟨mk, sz, ct, 11, p, [d0, d1], cap⟩ w) (hv : barB ⟨mk, sz, ct, 11, p, [d0, d1], cap⟩ = true) :
    Calls Tryz.prog 159 #[Bar.val ⟨mk, sz, ct, 11, p, [d0, d1], cap⟩] w fun e w' => ∃ v, e = .returned v ∧ Own pc 189 3 w.heap.size w' v (movesL ⟨mk, sz, ct, 11, p, [d0, d1], cap⟩) ∧ Below w.heap.size w w' := by
  have hm : movesL ⟨mk, sz, ct, 11, p, [d0, d1], cap⟩ = [⟨0 + d0, 0, 0⟩, ⟨0, 0 + d1, 0⟩] := by kernel_rfl
  have hm2 : movesL ⟨mk, sz, ct, 11, p, [d0, d1], cap⟩ = [⟨d0, 0, 0⟩, ⟨0, d1, 0⟩] := by rw [hm]; simp
  have hbd := fitB_mem _ _ (barB_and hv).2.2.1 (by omega)
  simp only [List.mem_cons, List.not_mem_nil, or_false, forall_eq_or_imp, forall_eq] at hbd
  obtain ⟨a, rfl, hd⟩ := rdz_fn hk.rd rfl (Nat.succ_pos _)
  have c0 := hd 0 (by simp)
  have c1 := hd 1 (by simp)
  simp only [List.getElem_cons_zero, List.getElem_cons_succ] at c0 c1
  have E := (Env.nil w).add w.heap.size 60 (Bar.cs ⟨mk, sz, ct, 11, some a, [d0, d1], cap⟩) rfl
  clear hk hv hm hd
  rw [hm2]
  clear hm2
  simp only [Bar.val, Bar.cs, List.length_cons, List.length_nil, Nat.zero_add, Nat.reduceAdd] at E ⊢
  have C := E.cells
  simp [BC, CF] at C
  replace c0 := cellLater (envb E) c0
  replace c1 := cellLater (envb E) c1
  have c0' := c0
  rw [show a.add 0 = a by simp [Addr.add]] at c0'
  have c1' := c1
  rw [show a.add 1 = ⟨a.block, a.off + 1, none⟩ by simp [Addr.add]] at c1'
  go_enter Tryz.func159, Tryz.ntmps159
  go_upto_region 4 with fail
  refine wp_region_plan 9 [(0, true), (1, true), (2, true), (3, true), (4, true), (5, true), (6, true), (7, true), (8, false)] (fun W' => W'.cell? (a.add 0) = some (.int .i64 d0) ∧ W'.cell? a = some (.int .i64 d0) ∧ W'.cell? (a.add 1) = some (.int .i64 d1) ∧ W'.cell? ⟨a.block, a.off + 1, none⟩ = some (.int .i64 d1)) (by kernel_rfl) (by kernel_rfl) (fun _ _ d _ _ h => by cases d <;> exact h) ⟨c0, c0', c1, c1'⟩ ?_
  simp only [List.filterMap_cons, List.filterMap_nil, List.getElem?_cons_zero, List.getElem?_cons_succ, Option.map_some, List.drop_succ_cons, List.drop_zero]
  iterate 8 (first | (refine wpPlan_still (v := ?_) (Or.inl ⟨by rfl, ?_⟩) ?_; rotate_left; (focus (intro W hW; (try dsimp only at hW); go_split_ands; go_simp; try with_reducible rfl)); try simp only [Act.put, List.setIfInBounds_toArray, List.set_cons_zero, List.set_cons_succ]) | (refine wpPlan_still (Or.inr ⟨by rfl, rfl⟩) ?_; try simp only [Act.put, List.setIfInBounds_toArray, List.set_cons_zero, List.set_cons_succ]))
  refine wpPlan_only (fun K hK => ?_)
  try go_simp
  have b5 := below_dr (al1 (w.alloc (.cells #[.string mk, .int .i64 sz, .int .i64 ct, .int .i64 11, .slice (some a) 2 cap] 60)) (.cells #[.int .i64 d0, .int .i64 0, .int .i64 0, .int .i64 0, .int .i64 d1, .int .i64 0] 189))
  refine hK.out _ _ ⟨cellLater b5 c0, cellLater b5 c0', cellLater b5 c1, cellLater b5 c1'⟩ ?_
  clear hK K
  try simp only [Act.put, List.setIfInBounds_toArray, List.set_cons_zero, List.set_cons_succ]
  refine wpPlan_end ?_
  go_wp2_with fail
  go_ret
  refine ⟨_, rfl, own_pts (Has.drew_ (Has.newn _ #[.int .i64 d0, .int .i64 0, .int .i64 0, .int .i64 0, .int .i64 d1, .int .i64 0] (by simp))) (by simp [pc]) rfl (by omega) (by decide), envb (E.more _).drw⟩
set_option maxHeartbeats 8000000 in
set_option maxRecDepth 100000 in
theorem rmoves_21 (mk : ByteArray) (sz ct : Int) (p : Option Addr) (d0 d1 d2 : Int) (cap : Nat) (w : World) (hk : Bar.Ok ⟨mk, sz, ct, 21, p, [d0, d1, d2], cap⟩ w) (hv : barB ⟨mk, sz, ct, 21, p, [d0, d1, d2], cap⟩ = true) :
    Calls Tryz.prog 159 #[Bar.val ⟨mk, sz, ct, 21, p, [d0, d1, d2], cap⟩] w fun e w' => ∃ v, e = .returned v ∧ Own pc 189 3 w.heap.size w' v (movesL ⟨mk, sz, ct, 21, p, [d0, d1, d2], cap⟩) ∧ Below w.heap.size w w' := by
  have hm : movesL ⟨mk, sz, ct, 21, p, [d0, d1, d2], cap⟩ = [⟨0, 0 - d0, 0⟩, ⟨0 + d1, 0, 0⟩, ⟨0, 0 + d2, 0⟩] := by kernel_rfl
  have hm2 : movesL ⟨mk, sz, ct, 21, p, [d0, d1, d2], cap⟩ = [⟨0, -d0, 0⟩, ⟨d1, 0, 0⟩, ⟨0, d2, 0⟩] := by rw [hm]; simp
  have hbd := fitB_mem _ _ (barB_and hv).2.2.1 (by omega)
  simp only [List.mem_cons, List.not_mem_nil, or_false, forall_eq_or_imp, forall_eq] at hbd
  obtain ⟨a, rfl, hd⟩ := rdz_fn hk.rd rfl (Nat.succ_pos _)
  have c0 := hd 0 (by simp)
  have c1 := hd 1 (by simp)
  have c2 := hd 2 (by simp)
  simp only [List.getElem_cons_zero, List.getElem_cons_succ] at c0 c1 c2
  have E := (Env.nil w).add w.heap.size 60 (Bar.cs ⟨mk, sz, ct, 21, some a, [d0, d1, d2], cap⟩) rfl
  clear hk hv hm hd
  rw [hm2]
  clear hm2
  simp only [Bar.val, Bar.cs, List.length_cons, List.length_nil, Nat.zero_add, Nat.reduceAdd] at E ⊢
  have W0 : IntKind.i64.wrap (-d0) = -d0 := IntWalk.i64_in _ (by omega)
  have C := E.cells
  simp [BC, CF] at C
  replace c0 := cellLater (envb E) c0
  replace c1 := cellLater (envb E) c1
  replace c2 := cellLater (envb E) c2
  have c0' := c0
  rw [show a.add 0 = a by simp [Addr.add]] at c0'
  have c1' := c1
  rw [show a.add 1 = ⟨a.block, a.off + 1, none⟩ by simp [Addr.add]] at c1'
  have c2' := c2
  rw [show a.add 2 = ⟨a.block, a.off + 2, none⟩ by simp [Addr.add]] at c2'
  go_enter Tryz.func159, Tryz.ntmps159
  go_upto_region 6 with fail
  refine wp_region_plan 14 [(0, true), (1, true), (2, true), (3, true), (4, true), (5, true), (6, true), (7, true), (8, true), (9, true), (10, true), (11, true), (12, true), (13, false)] (fun W' => W'.cell? (a.add 0) = some (.int .i64 d0) ∧ W'.cell? a = some (.int .i64 d0) ∧ W'.cell? (a.add 1) = some (.int .i64 d1) ∧ W'.cell? ⟨a.block, a.off + 1, none⟩ = some (.int .i64 d1) ∧ W'.cell? (a.add 2) = some (.int .i64 d2) ∧ W'.cell? ⟨a.block, a.off + 2, none⟩ = some (.int .i64 d2)) (by kernel_rfl) (by kernel_rfl) (fun _ _ d _ _ h => by cases d <;> exact h) ⟨c0, c0', c1, c1', c2, c2'⟩ ?_
  simp only [List.filterMap_cons, List.filterMap_nil, List.getElem?_cons_zero, List.getElem?_cons_succ, Option.map_some, List.drop_succ_cons, List.drop_zero]
  iterate 13 (first | (refine wpPlan_still (v := ?_) (Or.inl ⟨by rfl, ?_⟩) ?_; rotate_left; (focus (intro W hW; (try dsimp only at hW); go_split_ands; go_simp; try with_reducible rfl)); try simp only [Act.put, List.setIfInBounds_toArray, List.set_cons_zero, List.set_cons_succ]) | (refine wpPlan_still (Or.inr ⟨by rfl, rfl⟩) ?_; try simp only [Act.put, List.setIfInBounds_toArray, List.set_cons_zero, List.set_cons_succ]))
  refine wpPlan_only (fun K hK => ?_)
  try go_simp
  have b5 := below_dr (al1 (w.alloc (.cells #[.string mk, .int .i64 sz, .int .i64 ct, .int .i64 21, .slice (some a) 3 cap] 60)) (.cells #[.int .i64 0, .int .i64 (-d0), .int .i64 0, .int .i64 d1, .int .i64 0, .int .i64 0, .int .i64 0, .int .i64 d2, .int .i64 0] 189))
  refine hK.out _ _ ⟨cellLater b5 c0, cellLater b5 c0', cellLater b5 c1, cellLater b5 c1', cellLater b5 c2, cellLater b5 c2'⟩ ?_
  clear hK K
  try simp only [Act.put, List.setIfInBounds_toArray, List.set_cons_zero, List.set_cons_succ]
  refine wpPlan_end ?_
  go_wp2_with fail
  go_ret
  refine ⟨_, rfl, own_pts (Has.drew_ (Has.newn _ #[.int .i64 0, .int .i64 (-d0), .int .i64 0, .int .i64 d1, .int .i64 0, .int .i64 0, .int .i64 0, .int .i64 d2, .int .i64 0] (by simp))) (by simp [pc]) rfl (by omega) (by decide), envb (E.more _).drw⟩
set_option maxHeartbeats 8000000 in
set_option maxRecDepth 100000 in
theorem rmoves_26 (mk : ByteArray) (sz ct : Int) (p : Option Addr) (d0 d1 d2 : Int) (cap : Nat) (w : World) (hk : Bar.Ok ⟨mk, sz, ct, 26, p, [d0, d1, d2], cap⟩ w) (hv : barB ⟨mk, sz, ct, 26, p, [d0, d1, d2], cap⟩ = true) :
    Calls Tryz.prog 159 #[Bar.val ⟨mk, sz, ct, 26, p, [d0, d1, d2], cap⟩] w fun e w' => ∃ v, e = .returned v ∧ Own pc 189 3 w.heap.size w' v (movesL ⟨mk, sz, ct, 26, p, [d0, d1, d2], cap⟩) ∧ Below w.heap.size w w' := by
  have hm : movesL ⟨mk, sz, ct, 26, p, [d0, d1, d2], cap⟩ = [⟨0 + d0, 0, 0⟩, ⟨0, 0 + d1, 0⟩, ⟨0 + d2, 0, 0⟩] := by kernel_rfl
  have hm2 : movesL ⟨mk, sz, ct, 26, p, [d0, d1, d2], cap⟩ = [⟨d0, 0, 0⟩, ⟨0, d1, 0⟩, ⟨d2, 0, 0⟩] := by rw [hm]; simp
  have hbd := fitB_mem _ _ (barB_and hv).2.2.1 (by omega)
  simp only [List.mem_cons, List.not_mem_nil, or_false, forall_eq_or_imp, forall_eq] at hbd
  obtain ⟨a, rfl, hd⟩ := rdz_fn hk.rd rfl (Nat.succ_pos _)
  have c0 := hd 0 (by simp)
  have c1 := hd 1 (by simp)
  have c2 := hd 2 (by simp)
  simp only [List.getElem_cons_zero, List.getElem_cons_succ] at c0 c1 c2
  have E := (Env.nil w).add w.heap.size 60 (Bar.cs ⟨mk, sz, ct, 26, some a, [d0, d1, d2], cap⟩) rfl
  clear hk hv hm hd
  rw [hm2]
  clear hm2
  simp only [Bar.val, Bar.cs, List.length_cons, List.length_nil, Nat.zero_add, Nat.reduceAdd] at E ⊢
  have C := E.cells
  simp [BC, CF] at C
  replace c0 := cellLater (envb E) c0
  replace c1 := cellLater (envb E) c1
  replace c2 := cellLater (envb E) c2
  have c0' := c0
  rw [show a.add 0 = a by simp [Addr.add]] at c0'
  have c1' := c1
  rw [show a.add 1 = ⟨a.block, a.off + 1, none⟩ by simp [Addr.add]] at c1'
  have c2' := c2
  rw [show a.add 2 = ⟨a.block, a.off + 2, none⟩ by simp [Addr.add]] at c2'
  go_enter Tryz.func159, Tryz.ntmps159
  go_upto_region 8 with fail
  refine wp_region_plan 13 [(0, true), (1, true), (2, true), (3, true), (4, true), (5, true), (6, true), (7, true), (8, true), (9, true), (10, true), (11, true), (12, false)] (fun W' => W'.cell? (a.add 0) = some (.int .i64 d0) ∧ W'.cell? a = some (.int .i64 d0) ∧ W'.cell? (a.add 1) = some (.int .i64 d1) ∧ W'.cell? ⟨a.block, a.off + 1, none⟩ = some (.int .i64 d1) ∧ W'.cell? (a.add 2) = some (.int .i64 d2) ∧ W'.cell? ⟨a.block, a.off + 2, none⟩ = some (.int .i64 d2)) (by kernel_rfl) (by kernel_rfl) (fun _ _ d _ _ h => by cases d <;> exact h) ⟨c0, c0', c1, c1', c2, c2'⟩ ?_
  simp only [List.filterMap_cons, List.filterMap_nil, List.getElem?_cons_zero, List.getElem?_cons_succ, Option.map_some, List.drop_succ_cons, List.drop_zero]
  iterate 12 (first | (refine wpPlan_still (v := ?_) (Or.inl ⟨by rfl, ?_⟩) ?_; rotate_left; (focus (intro W hW; (try dsimp only at hW); go_split_ands; go_simp; try with_reducible rfl)); try simp only [Act.put, List.setIfInBounds_toArray, List.set_cons_zero, List.set_cons_succ]) | (refine wpPlan_still (Or.inr ⟨by rfl, rfl⟩) ?_; try simp only [Act.put, List.setIfInBounds_toArray, List.set_cons_zero, List.set_cons_succ]))
  refine wpPlan_only (fun K hK => ?_)
  try go_simp
  have b5 := below_dr (al1 (w.alloc (.cells #[.string mk, .int .i64 sz, .int .i64 ct, .int .i64 26, .slice (some a) 3 cap] 60)) (.cells #[.int .i64 d0, .int .i64 0, .int .i64 0, .int .i64 0, .int .i64 d1, .int .i64 0, .int .i64 d2, .int .i64 0, .int .i64 0] 189))
  refine hK.out _ _ ⟨cellLater b5 c0, cellLater b5 c0', cellLater b5 c1, cellLater b5 c1', cellLater b5 c2, cellLater b5 c2'⟩ ?_
  clear hK K
  try simp only [Act.put, List.setIfInBounds_toArray, List.set_cons_zero, List.set_cons_succ]
  refine wpPlan_end ?_
  go_wp2_with fail
  go_ret
  refine ⟨_, rfl, own_pts (Has.drew_ (Has.newn _ #[.int .i64 d0, .int .i64 0, .int .i64 0, .int .i64 0, .int .i64 d1, .int .i64 0, .int .i64 d2, .int .i64 0, .int .i64 0] (by simp))) (by simp [pc]) rfl (by omega) (by decide), envb (E.more _).drw⟩
set_option maxHeartbeats 8000000 in
set_option maxRecDepth 100000 in
theorem rmoves_31 (mk : ByteArray) (sz ct : Int) (p : Option Addr) (d0 d1 d2 : Int) (cap : Nat) (w : World) (hk : Bar.Ok ⟨mk, sz, ct, 31, p, [d0, d1, d2], cap⟩ w) (hv : barB ⟨mk, sz, ct, 31, p, [d0, d1, d2], cap⟩ = true) :
    Calls Tryz.prog 159 #[Bar.val ⟨mk, sz, ct, 31, p, [d0, d1, d2], cap⟩] w fun e w' => ∃ v, e = .returned v ∧ Own pc 189 3 w.heap.size w' v (movesL ⟨mk, sz, ct, 31, p, [d0, d1, d2], cap⟩) ∧ Below w.heap.size w w' := by
  have hm : movesL ⟨mk, sz, ct, 31, p, [d0, d1, d2], cap⟩ = [⟨0 + d0, 0, 0⟩, ⟨0, 0 + d1, 0⟩, ⟨0, 0, 0 + d2⟩] := by kernel_rfl
  have hm2 : movesL ⟨mk, sz, ct, 31, p, [d0, d1, d2], cap⟩ = [⟨d0, 0, 0⟩, ⟨0, d1, 0⟩, ⟨0, 0, d2⟩] := by rw [hm]; simp
  have hbd := fitB_mem _ _ (barB_and hv).2.2.1 (by omega)
  simp only [List.mem_cons, List.not_mem_nil, or_false, forall_eq_or_imp, forall_eq] at hbd
  obtain ⟨a, rfl, hd⟩ := rdz_fn hk.rd rfl (Nat.succ_pos _)
  have c0 := hd 0 (by simp)
  have c1 := hd 1 (by simp)
  have c2 := hd 2 (by simp)
  simp only [List.getElem_cons_zero, List.getElem_cons_succ] at c0 c1 c2
  have E := (Env.nil w).add w.heap.size 60 (Bar.cs ⟨mk, sz, ct, 31, some a, [d0, d1, d2], cap⟩) rfl
  clear hk hv hm hd
  rw [hm2]
  clear hm2
  simp only [Bar.val, Bar.cs, List.length_cons, List.length_nil, Nat.zero_add, Nat.reduceAdd] at E ⊢
  have C := E.cells
  simp [BC, CF] at C
  replace c0 := cellLater (envb E) c0
  replace c1 := cellLater (envb E) c1
  replace c2 := cellLater (envb E) c2
  have c0' := c0
  rw [show a.add 0 = a by simp [Addr.add]] at c0'
  have c1' := c1
  rw [show a.add 1 = ⟨a.block, a.off + 1, none⟩ by simp [Addr.add]] at c1'
  have c2' := c2
  rw [show a.add 2 = ⟨a.block, a.off + 2, none⟩ by simp [Addr.add]] at c2'
  go_enter Tryz.func159, Tryz.ntmps159
  go_upto_region 10 with fail
  refine wp_region_plan 13 [(0, true), (1, true), (2, true), (3, true), (4, true), (5, true), (6, true), (7, true), (8, true), (9, true), (10, true), (11, true), (12, false)] (fun W' => W'.cell? (a.add 0) = some (.int .i64 d0) ∧ W'.cell? a = some (.int .i64 d0) ∧ W'.cell? (a.add 1) = some (.int .i64 d1) ∧ W'.cell? ⟨a.block, a.off + 1, none⟩ = some (.int .i64 d1) ∧ W'.cell? (a.add 2) = some (.int .i64 d2) ∧ W'.cell? ⟨a.block, a.off + 2, none⟩ = some (.int .i64 d2)) (by kernel_rfl) (by kernel_rfl) (fun _ _ d _ _ h => by cases d <;> exact h) ⟨c0, c0', c1, c1', c2, c2'⟩ ?_
  simp only [List.filterMap_cons, List.filterMap_nil, List.getElem?_cons_zero, List.getElem?_cons_succ, Option.map_some, List.drop_succ_cons, List.drop_zero]
  iterate 12 (first | (refine wpPlan_still (v := ?_) (Or.inl ⟨by rfl, ?_⟩) ?_; rotate_left; (focus (intro W hW; (try dsimp only at hW); go_split_ands; go_simp; try with_reducible rfl)); try simp only [Act.put, List.setIfInBounds_toArray, List.set_cons_zero, List.set_cons_succ]) | (refine wpPlan_still (Or.inr ⟨by rfl, rfl⟩) ?_; try simp only [Act.put, List.setIfInBounds_toArray, List.set_cons_zero, List.set_cons_succ]))
  refine wpPlan_only (fun K hK => ?_)
  try go_simp
  have b5 := below_dr (al1 (w.alloc (.cells #[.string mk, .int .i64 sz, .int .i64 ct, .int .i64 31, .slice (some a) 3 cap] 60)) (.cells #[.int .i64 d0, .int .i64 0, .int .i64 0, .int .i64 0, .int .i64 d1, .int .i64 0, .int .i64 0, .int .i64 0, .int .i64 d2] 189))
  refine hK.out _ _ ⟨cellLater b5 c0, cellLater b5 c0', cellLater b5 c1, cellLater b5 c1', cellLater b5 c2, cellLater b5 c2'⟩ ?_
  clear hK K
  try simp only [Act.put, List.setIfInBounds_toArray, List.set_cons_zero, List.set_cons_succ]
  refine wpPlan_end ?_
  go_wp2_with fail
  go_ret
  refine ⟨_, rfl, own_pts (Has.drew_ (Has.newn _ #[.int .i64 d0, .int .i64 0, .int .i64 0, .int .i64 0, .int .i64 d1, .int .i64 0, .int .i64 0, .int .i64 0, .int .i64 d2] (by simp))) (by simp [pc]) rfl (by omega) (by decide), envb (E.more _).drw⟩
set_option maxHeartbeats 8000000 in
set_option maxRecDepth 100000 in
theorem rmoves_41 (mk : ByteArray) (sz ct : Int) (p : Option Addr) (d0 d1 d2 d3 d4 : Int) (cap : Nat) (w : World) (hk : Bar.Ok ⟨mk, sz, ct, 41, p, [d0, d1, d2, d3, d4], cap⟩ w) (hv : barB ⟨mk, sz, ct, 41, p, [d0, d1, d2, d3, d4], cap⟩ = true) :
    Calls Tryz.prog 159 #[Bar.val ⟨mk, sz, ct, 41, p, [d0, d1, d2, d3, d4], cap⟩] w fun e w' => ∃ v, e = .returned v ∧ Own pc 189 3 w.heap.size w' v (movesL ⟨mk, sz, ct, 41, p, [d0, d1, d2, d3, d4], cap⟩) ∧ Below w.heap.size w w' := by
  have hm : movesL ⟨mk, sz, ct, 41, p, [d0, d1, d2, d3, d4], cap⟩ = [⟨0 + d0, 0, 0⟩, ⟨0, 0 + d1, 0⟩, ⟨0 + d2, 0, 0⟩, ⟨0, 0 - d3, 0⟩, ⟨0 + d4, 0, 0⟩] := by kernel_rfl
  have hm2 : movesL ⟨mk, sz, ct, 41, p, [d0, d1, d2, d3, d4], cap⟩ = [⟨d0, 0, 0⟩, ⟨0, d1, 0⟩, ⟨d2, 0, 0⟩, ⟨0, -d3, 0⟩, ⟨d4, 0, 0⟩] := by rw [hm]; simp
  have hbd := fitB_mem _ _ (barB_and hv).2.2.1 (by omega)
  simp only [List.mem_cons, List.not_mem_nil, or_false, forall_eq_or_imp, forall_eq] at hbd
  obtain ⟨a, rfl, hd⟩ := rdz_fn hk.rd rfl (Nat.succ_pos _)
  have c0 := hd 0 (by simp)
  have c1 := hd 1 (by simp)
  have c2 := hd 2 (by simp)
  have c3 := hd 3 (by simp)
  have c4 := hd 4 (by simp)
  simp only [List.getElem_cons_zero, List.getElem_cons_succ] at c0 c1 c2 c3 c4
  have E := (Env.nil w).add w.heap.size 60 (Bar.cs ⟨mk, sz, ct, 41, some a, [d0, d1, d2, d3, d4], cap⟩) rfl
  clear hk hv hm hd
  rw [hm2]
  clear hm2
  simp only [Bar.val, Bar.cs, List.length_cons, List.length_nil, Nat.zero_add, Nat.reduceAdd] at E ⊢
  have W3 : IntKind.i64.wrap (-d3) = -d3 := IntWalk.i64_in _ (by omega)
  have C := E.cells
  simp [BC, CF] at C
  replace c0 := cellLater (envb E) c0
  replace c1 := cellLater (envb E) c1
  replace c2 := cellLater (envb E) c2
  replace c3 := cellLater (envb E) c3
  replace c4 := cellLater (envb E) c4
  have c0' := c0
  rw [show a.add 0 = a by simp [Addr.add]] at c0'
  have c1' := c1
  rw [show a.add 1 = ⟨a.block, a.off + 1, none⟩ by simp [Addr.add]] at c1'
  have c2' := c2
  rw [show a.add 2 = ⟨a.block, a.off + 2, none⟩ by simp [Addr.add]] at c2'
  have c3' := c3
  rw [show a.add 3 = ⟨a.block, a.off + 3, none⟩ by simp [Addr.add]] at c3'
  have c4' := c4
  rw [show a.add 4 = ⟨a.block, a.off + 4, none⟩ by simp [Addr.add]] at c4'
  go_enter Tryz.func159, Tryz.ntmps159
  go_upto_region 12 with fail
  refine wp_region_plan 22 [(0, true), (1, true), (2, true), (3, true), (4, true), (5, true), (6, true), (7, true), (8, true), (9, true), (10, true), (11, true), (12, true), (13, true), (14, true), (15, true), (16, true), (17, true), (18, true), (19, true), (20, true), (21, false)] (fun W' => W'.cell? (a.add 0) = some (.int .i64 d0) ∧ W'.cell? a = some (.int .i64 d0) ∧ W'.cell? (a.add 1) = some (.int .i64 d1) ∧ W'.cell? ⟨a.block, a.off + 1, none⟩ = some (.int .i64 d1) ∧ W'.cell? (a.add 2) = some (.int .i64 d2) ∧ W'.cell? ⟨a.block, a.off + 2, none⟩ = some (.int .i64 d2) ∧ W'.cell? (a.add 3) = some (.int .i64 d3) ∧ W'.cell? ⟨a.block, a.off + 3, none⟩ = some (.int .i64 d3) ∧ W'.cell? (a.add 4) = some (.int .i64 d4) ∧ W'.cell? ⟨a.block, a.off + 4, none⟩ = some (.int .i64 d4)) (by kernel_rfl) (by kernel_rfl) (fun _ _ d _ _ h => by cases d <;> exact h) ⟨c0, c0', c1, c1', c2, c2', c3, c3', c4, c4'⟩ ?_
  simp only [List.filterMap_cons, List.filterMap_nil, List.getElem?_cons_zero, List.getElem?_cons_succ, Option.map_some, List.drop_succ_cons, List.drop_zero]
  iterate 21 (first | (refine wpPlan_still (v := ?_) (Or.inl ⟨by rfl, ?_⟩) ?_; rotate_left; (focus (intro W hW; (try dsimp only at hW); go_split_ands; go_simp; try with_reducible rfl)); try simp only [Act.put, List.setIfInBounds_toArray, List.set_cons_zero, List.set_cons_succ]) | (refine wpPlan_still (Or.inr ⟨by rfl, rfl⟩) ?_; try simp only [Act.put, List.setIfInBounds_toArray, List.set_cons_zero, List.set_cons_succ]))
  refine wpPlan_only (fun K hK => ?_)
  try go_simp
  have b5 := below_dr (al1 (w.alloc (.cells #[.string mk, .int .i64 sz, .int .i64 ct, .int .i64 41, .slice (some a) 5 cap] 60)) (.cells #[.int .i64 d0, .int .i64 0, .int .i64 0, .int .i64 0, .int .i64 d1, .int .i64 0, .int .i64 d2, .int .i64 0, .int .i64 0, .int .i64 0, .int .i64 (-d3), .int .i64 0, .int .i64 d4, .int .i64 0, .int .i64 0] 189))
  refine hK.out _ _ ⟨cellLater b5 c0, cellLater b5 c0', cellLater b5 c1, cellLater b5 c1', cellLater b5 c2, cellLater b5 c2', cellLater b5 c3, cellLater b5 c3', cellLater b5 c4, cellLater b5 c4'⟩ ?_
  clear hK K
  try simp only [Act.put, List.setIfInBounds_toArray, List.set_cons_zero, List.set_cons_succ]
  refine wpPlan_end ?_
  go_wp2_with fail
  go_ret
  refine ⟨_, rfl, own_pts (Has.drew_ (Has.newn _ #[.int .i64 d0, .int .i64 0, .int .i64 0, .int .i64 0, .int .i64 d1, .int .i64 0, .int .i64 d2, .int .i64 0, .int .i64 0, .int .i64 0, .int .i64 (-d3), .int .i64 0, .int .i64 d4, .int .i64 0, .int .i64 0] (by simp))) (by simp [pc]) rfl (by omega) (by decide), envb (E.more _).drw⟩
set_option maxHeartbeats 8000000 in
set_option maxRecDepth 100000 in
theorem rmoves_51 (mk : ByteArray) (sz ct : Int) (p : Option Addr) (d0 d1 d2 : Int) (cap : Nat) (w : World) (hk : Bar.Ok ⟨mk, sz, ct, 51, p, [d0, d1, d2], cap⟩ w) (hv : barB ⟨mk, sz, ct, 51, p, [d0, d1, d2], cap⟩ = true) :
    Calls Tryz.prog 159 #[Bar.val ⟨mk, sz, ct, 51, p, [d0, d1, d2], cap⟩] w fun e w' => ∃ v, e = .returned v ∧ Own pc 189 3 w.heap.size w' v (movesL ⟨mk, sz, ct, 51, p, [d0, d1, d2], cap⟩) ∧ Below w.heap.size w w' := by
  have hm : movesL ⟨mk, sz, ct, 51, p, [d0, d1, d2], cap⟩ = [⟨0, 0 - d2, 0⟩, ⟨0 + d0, 0, 0⟩, ⟨0, 0 + d1, 0⟩, ⟨0 - d0, 0, 0⟩, ⟨0, 0 - d1, 0⟩, ⟨0 + d2, 0, 0⟩] := by kernel_rfl
  have hm2 : movesL ⟨mk, sz, ct, 51, p, [d0, d1, d2], cap⟩ = [⟨0, -d2, 0⟩, ⟨d0, 0, 0⟩, ⟨0, d1, 0⟩, ⟨-d0, 0, 0⟩, ⟨0, -d1, 0⟩, ⟨d2, 0, 0⟩] := by rw [hm]; simp
  have hbd := fitB_mem _ _ (barB_and hv).2.2.1 (by omega)
  simp only [List.mem_cons, List.not_mem_nil, or_false, forall_eq_or_imp, forall_eq] at hbd
  obtain ⟨a, rfl, hd⟩ := rdz_fn hk.rd rfl (Nat.succ_pos _)
  have c0 := hd 0 (by simp)
  have c1 := hd 1 (by simp)
  have c2 := hd 2 (by simp)
  simp only [List.getElem_cons_zero, List.getElem_cons_succ] at c0 c1 c2
  have E := (Env.nil w).add w.heap.size 60 (Bar.cs ⟨mk, sz, ct, 51, some a, [d0, d1, d2], cap⟩) rfl
  clear hk hv hm hd
  rw [hm2]
  clear hm2
  simp only [Bar.val, Bar.cs, List.length_cons, List.length_nil, Nat.zero_add, Nat.reduceAdd] at E ⊢
  have W0 : IntKind.i64.wrap (-d0) = -d0 := IntWalk.i64_in _ (by omega)
  have W1 : IntKind.i64.wrap (-d1) = -d1 := IntWalk.i64_in _ (by omega)
  have W2 : IntKind.i64.wrap (-d2) = -d2 := IntWalk.i64_in _ (by omega)
  have C := E.cells
  simp [BC, CF] at C
  replace c0 := cellLater (envb E) c0
  replace c1 := cellLater (envb E) c1
  replace c2 := cellLater (envb E) c2
  have c0' := c0
  rw [show a.add 0 = a by simp [Addr.add]] at c0'
  have c1' := c1
  rw [show a.add 1 = ⟨a.block, a.off + 1, none⟩ by simp [Addr.add]] at c1'
  have c2' := c2
  rw [show a.add 2 = ⟨a.block, a.off + 2, none⟩ by simp [Addr.add]] at c2'
  go_enter Tryz.func159, Tryz.ntmps159
  go_upto_region 14 with fail
  refine wp_region_plan 28 [(0, true), (1, true), (2, true), (3, true), (4, true), (5, true), (6, true), (7, true), (8, true), (9, true), (10, true), (11, true), (12, true), (13, true), (14, true), (15, true), (16, true), (17, true), (18, true), (19, true), (20, true), (21, true), (22, true), (23, true), (24, true), (25, true), (26, true), (27, false)] (fun W' => W'.cell? (a.add 0) = some (.int .i64 d0) ∧ W'.cell? a = some (.int .i64 d0) ∧ W'.cell? (a.add 1) = some (.int .i64 d1) ∧ W'.cell? ⟨a.block, a.off + 1, none⟩ = some (.int .i64 d1) ∧ W'.cell? (a.add 2) = some (.int .i64 d2) ∧ W'.cell? ⟨a.block, a.off + 2, none⟩ = some (.int .i64 d2)) (by kernel_rfl) (by kernel_rfl) (fun _ _ d _ _ h => by cases d <;> exact h) ⟨c0, c0', c1, c1', c2, c2'⟩ ?_
  simp only [List.filterMap_cons, List.filterMap_nil, List.getElem?_cons_zero, List.getElem?_cons_succ, Option.map_some, List.drop_succ_cons, List.drop_zero]
  iterate 27 (first | (refine wpPlan_still (v := ?_) (Or.inl ⟨by rfl, ?_⟩) ?_; rotate_left; (focus (intro W hW; (try dsimp only at hW); go_split_ands; go_simp; try with_reducible rfl)); try simp only [Act.put, List.setIfInBounds_toArray, List.set_cons_zero, List.set_cons_succ]) | (refine wpPlan_still (Or.inr ⟨by rfl, rfl⟩) ?_; try simp only [Act.put, List.setIfInBounds_toArray, List.set_cons_zero, List.set_cons_succ]))
  refine wpPlan_only (fun K hK => ?_)
  try go_simp
  have b5 := below_dr (al1 (w.alloc (.cells #[.string mk, .int .i64 sz, .int .i64 ct, .int .i64 51, .slice (some a) 3 cap] 60)) (.cells #[.int .i64 0, .int .i64 (-d2), .int .i64 0, .int .i64 d0, .int .i64 0, .int .i64 0, .int .i64 0, .int .i64 d1, .int .i64 0, .int .i64 (-d0), .int .i64 0, .int .i64 0, .int .i64 0, .int .i64 (-d1), .int .i64 0, .int .i64 d2, .int .i64 0, .int .i64 0] 189))
  refine hK.out _ _ ⟨cellLater b5 c0, cellLater b5 c0', cellLater b5 c1, cellLater b5 c1', cellLater b5 c2, cellLater b5 c2'⟩ ?_
  clear hK K
  try simp only [Act.put, List.setIfInBounds_toArray, List.set_cons_zero, List.set_cons_succ]
  refine wpPlan_end ?_
  go_wp2_with fail
  go_ret
  refine ⟨_, rfl, own_pts (Has.drew_ (Has.newn _ #[.int .i64 0, .int .i64 (-d2), .int .i64 0, .int .i64 d0, .int .i64 0, .int .i64 0, .int .i64 0, .int .i64 d1, .int .i64 0, .int .i64 (-d0), .int .i64 0, .int .i64 0, .int .i64 0, .int .i64 (-d1), .int .i64 0, .int .i64 d2, .int .i64 0, .int .i64 0] (by simp))) (by simp [pc]) rfl (by omega) (by decide), envb (E.more _).drw⟩
set_option maxHeartbeats 8000000 in
set_option maxRecDepth 100000 in
theorem rmoves_98 (mk : ByteArray) (sz ct : Int) (p : Option Addr) (d0 d1 d2 : Int) (cap : Nat) (w : World) (hk : Bar.Ok ⟨mk, sz, ct, 98, p, [d0, d1, d2], cap⟩ w) (hv : barB ⟨mk, sz, ct, 98, p, [d0, d1, d2], cap⟩ = true) :
    Calls Tryz.prog 159 #[Bar.val ⟨mk, sz, ct, 98, p, [d0, d1, d2], cap⟩] w fun e w' => ∃ v, e = .returned v ∧ Own pc 189 3 w.heap.size w' v (movesL ⟨mk, sz, ct, 98, p, [d0, d1, d2], cap⟩) ∧ Below w.heap.size w w' := by
  have hm : movesL ⟨mk, sz, ct, 98, p, [d0, d1, d2], cap⟩ = [⟨0, 0, 0 + d0⟩, ⟨0, 0 - d1, 0⟩, ⟨0 + d2, 0, 0⟩, ⟨0, 0 + d1, 0⟩, ⟨0, 0, 0 + d0⟩] := by kernel_rfl
  have hm2 : movesL ⟨mk, sz, ct, 98, p, [d0, d1, d2], cap⟩ = [⟨0, 0, d0⟩, ⟨0, -d1, 0⟩, ⟨d2, 0, 0⟩, ⟨0, d1, 0⟩, ⟨0, 0, d0⟩] := by rw [hm]; simp
  have hbd := fitB_mem _ _ (barB_and hv).2.2.1 (by omega)
  simp only [List.mem_cons, List.not_mem_nil, or_false, forall_eq_or_imp, forall_eq] at hbd
  obtain ⟨a, rfl, hd⟩ := rdz_fn hk.rd rfl (Nat.succ_pos _)
  have c0 := hd 0 (by simp)
  have c1 := hd 1 (by simp)
  have c2 := hd 2 (by simp)
  simp only [List.getElem_cons_zero, List.getElem_cons_succ] at c0 c1 c2
  have E := (Env.nil w).add w.heap.size 60 (Bar.cs ⟨mk, sz, ct, 98, some a, [d0, d1, d2], cap⟩) rfl
  clear hk hv hm hd
  rw [hm2]
  clear hm2
  simp only [Bar.val, Bar.cs, List.length_cons, List.length_nil, Nat.zero_add, Nat.reduceAdd] at E ⊢
  have W1 : IntKind.i64.wrap (-d1) = -d1 := IntWalk.i64_in _ (by omega)
  have C := E.cells
  simp [BC, CF] at C
  replace c0 := cellLater (envb E) c0
  replace c1 := cellLater (envb E) c1
  replace c2 := cellLater (envb E) c2
  have c0' := c0
  rw [show a.add 0 = a by simp [Addr.add]] at c0'
  have c1' := c1
  rw [show a.add 1 = ⟨a.block, a.off + 1, none⟩ by simp [Addr.add]] at c1'
  have c2' := c2
  rw [show a.add 2 = ⟨a.block, a.off + 2, none⟩ by simp [Addr.add]] at c2'
  go_enter Tryz.func159, Tryz.ntmps159
  go_upto_region 16 with fail
  refine wp_region_plan 22 [(0, true), (1, true), (2, true), (3, true), (4, true), (5, true), (6, true), (7, true), (8, true), (9, true), (10, true), (11, true), (12, true), (13, true), (14, true), (15, true), (16, true), (17, true), (18, true), (19, true), (20, true), (21, false)] (fun W' => W'.cell? (a.add 0) = some (.int .i64 d0) ∧ W'.cell? a = some (.int .i64 d0) ∧ W'.cell? (a.add 1) = some (.int .i64 d1) ∧ W'.cell? ⟨a.block, a.off + 1, none⟩ = some (.int .i64 d1) ∧ W'.cell? (a.add 2) = some (.int .i64 d2) ∧ W'.cell? ⟨a.block, a.off + 2, none⟩ = some (.int .i64 d2)) (by kernel_rfl) (by kernel_rfl) (fun _ _ d _ _ h => by cases d <;> exact h) ⟨c0, c0', c1, c1', c2, c2'⟩ ?_
  simp only [List.filterMap_cons, List.filterMap_nil, List.getElem?_cons_zero, List.getElem?_cons_succ, Option.map_some, List.drop_succ_cons, List.drop_zero]
  iterate 21 (first | (refine wpPlan_still (v := ?_) (Or.inl ⟨by rfl, ?_⟩) ?_; rotate_left; (focus (intro W hW; (try dsimp only at hW); go_split_ands; go_simp; try with_reducible rfl)); try simp only [Act.put, List.setIfInBounds_toArray, List.set_cons_zero, List.set_cons_succ]) | (refine wpPlan_still (Or.inr ⟨by rfl, rfl⟩) ?_; try simp only [Act.put, List.setIfInBounds_toArray, List.set_cons_zero, List.set_cons_succ]))
  refine wpPlan_only (fun K hK => ?_)
  try go_simp
  have b5 := below_dr (al1 (w.alloc (.cells #[.string mk, .int .i64 sz, .int .i64 ct, .int .i64 98, .slice (some a) 3 cap] 60)) (.cells #[.int .i64 0, .int .i64 0, .int .i64 d0, .int .i64 0, .int .i64 (-d1), .int .i64 0, .int .i64 d2, .int .i64 0, .int .i64 0, .int .i64 0, .int .i64 d1, .int .i64 0, .int .i64 0, .int .i64 0, .int .i64 d0] 189))
  refine hK.out _ _ ⟨cellLater b5 c0, cellLater b5 c0', cellLater b5 c1, cellLater b5 c1', cellLater b5 c2, cellLater b5 c2'⟩ ?_
  clear hK K
  try simp only [Act.put, List.setIfInBounds_toArray, List.set_cons_zero, List.set_cons_succ]
  refine wpPlan_end ?_
  go_wp2_with fail
  go_ret
  refine ⟨_, rfl, own_pts (Has.drew_ (Has.newn _ #[.int .i64 0, .int .i64 0, .int .i64 d0, .int .i64 0, .int .i64 (-d1), .int .i64 0, .int .i64 d2, .int .i64 0, .int .i64 0, .int .i64 0, .int .i64 d1, .int .i64 0, .int .i64 0, .int .i64 0, .int .i64 d0] (by simp))) (by simp [pc]) rfl (by omega) (by decide), envb (E.more _).drw⟩
theorem rmoves_any (b : Bar) (w : World) (hk : b.Ok w) (hv : barB b = true) : Calls Tryz.prog 159 #[b.val] w fun e w' => ∃ v, e = .returned v ∧ Own pc 189 3 w.heap.size w' v (movesL b) ∧ Below w.heap.size w w' := by
  obtain ⟨hC, hl, -⟩ := barB_and hv
  obtain ⟨mk, sz, ct, cd, p, ds, cap⟩ := b
  dsimp only at hC hl
  rcases code_in hC with rfl | rfl | rfl | rfl | rfl | rfl | rfl | rfl
  · have hl' : ds.length = 1 := hl.trans (by kernel_rfl)
    match ds, hl' with
    | [d0], _ => exact rmoves_0 mk sz ct p d0 cap w hk hv
  · have hl' : ds.length = 2 := hl.trans (by kernel_rfl)
    match ds, hl' with
    | [d0, d1], _ => exact rmoves_11 mk sz ct p d0 d1 cap w hk hv
  · have hl' : ds.length = 3 := hl.trans (by kernel_rfl)
    match ds, hl' with
    | [d0, d1, d2], _ => exact rmoves_21 mk sz ct p d0 d1 d2 cap w hk hv
  · have hl' : ds.length = 3 := hl.trans (by kernel_rfl)
    match ds, hl' with
    | [d0, d1, d2], _ => exact rmoves_26 mk sz ct p d0 d1 d2 cap w hk hv
  · have hl' : ds.length = 3 := hl.trans (by kernel_rfl)
    match ds, hl' with
    | [d0, d1, d2], _ => exact rmoves_31 mk sz ct p d0 d1 d2 cap w hk hv
  · have hl' : ds.length = 5 := hl.trans (by kernel_rfl)
    match ds, hl' with
    | [d0, d1, d2, d3, d4], _ => exact rmoves_41 mk sz ct p d0 d1 d2 d3 d4 cap w hk hv
  · have hl' : ds.length = 3 := hl.trans (by kernel_rfl)
    match ds, hl' with
    | [d0, d1, d2], _ => exact rmoves_51 mk sz ct p d0 d1 d2 cap w hk hv
  · have hl' : ds.length = 3 := hl.trans (by kernel_rfl)
    match ds, hl' with
    | [d0, d1, d2], _ => exact rmoves_98 mk sz ct p d0 d1 d2 cap w hk hv
end Go.Proofs.YthdafpbmmfelpaaGreatDoor
namespace Go.Proofs.YthdafpbmmfelpaaGreatDoor
open Go.ChangeShapes Go.WideShapes Go.ChangeAt Go.RowKit
set_option linter.unusedVariables false
set_option linter.unusedSimpArgs false

theorem moves_len (b : Bar) : (movesL b).length = nl b.code := by simp [movesL]
theorem mov_abs {b : Bar} (h : barB b = true) {k : Nat} (hk : k < nl b.code) : abz (movF b k).x + abz (movF b k).y + abz (movF b k).z = legF b k ∧ (-262144 ≤ (movF b k).x ∧ (movF b k).x ≤ 262144) ∧ (-262144 ≤ (movF b k).y ∧ (movF b k).y ≤ 262144) ∧ (-262144 ≤ (movF b k).z ∧ (movF b k).z ≤ 262144) := by
  have h1 := leg_bd h hk
  unfold movF
  rcases way_in (barB_and h).1 hk with hw | hw | hw | hw | hw <;> rw [hw] <;> simp [mv, abz] <;> (try split) <;> omega
theorem mov_add {b : Bar} (h : barB b = true) {k : Nat} (hk : k < nl b.code) : pt b (k + 1) = ⟨(pt b k).x + (movF b k).x, (pt b k).y + (movF b k).y, (pt b k).z + (movF b k).z⟩ := by
  have e : pt b (k + 1) = mv (pt b k) (way b.code k) (legF b k) := rfl
  rw [e]
  unfold movF
  rcases way_in (barB_and h).1 hk with hw | hw | hw | hw | hw <;> rw [hw] <;> simp [mv] <;> omega
theorem Own.rdz {B : Nat} {w : World} {v : Value} {l : List Int} (h : Own zc 3 1 B w v l) : Rdz w v l := by
  obtain ⟨q, c, rfl, k⟩ := Own.rd zl h
  refine ⟨q, c, rfl, fun j hj => ?_⟩
  obtain ⟨g, rfl, hc⟩ := k j hj
  have := hc 0 (by omega)
  refine ⟨_, rfl, ?_⟩
  rw [Addr.add_lit, Nat.zero_add]
  simpa [zc] using this
set_option maxHeartbeats 16000000 in
set_option maxRecDepth 100000 in
theorem rLegs_any (b : Bar) (w : World) (hk : b.Ok w) (hv : barB b = true) : Calls Tryz.prog 122 #[b.val] w fun e w' => ∃ v, e = .returned v ∧ Rdz w' v (legs b) ∧ Below w.heap.size w w' := by
  have hV := fun W (h : Below w.heap.size w W) => rmoves_any b W (hk.on h) hv
  have E := (Env.nil w).add w.heap.size 60 b.cs rfl
  have n6 := nl_le (barB_and hv).1
  have n0 := nl_pos (barB_and hv).1
  have HA := Lib.hid (fun k (h : k < nl b.code) => mov_abs hv h)
  have hML := Lib.hid (moves_len b)
  have hM : ∀ k (h : k < (movesL b).length), (movesL b)[k] = movF b k := fun k h => by simp [movesL]
  have HM := Lib.hid hM
  have hL : legs b = (List.range (nl b.code)).map (legF b) := rfl
  have HL := Lib.hid hL
  have hLB := Lib.hid (fun k (h : k < nl b.code) => leg_bd hv h)
  clear hk hv hM hL
  simp only [Bar.val, Bar.cs] at *
  generalize movesL b = ML at *
  generalize movF b = mf at *
  generalize legs b = LS at *
  generalize legF b = lf at *
  generalize nl b.code = n at *
  have C := E.cells
  simp [BC, CF] at C
  obtain ⟨i0, hinf, hz0, hz1, hz2⟩ := info_parts info3
  go_enter Tryz.func122, Tryz.ntmps122
  go_wp2_with (go_at_call 159; (with_reducible refine (hV _ (envb E)).mono ?_); rintro X w1 ⟨v, rfl, hO, hb⟩; replace E := E.on hb; replace C := E.cells; simp [BC, CF] at C; clear hb; obtain ⟨gp, cap2, rfl, hP⟩ := hO.fn (by rw [hML.out]; exact n0); rw [hML.out])
  have HPc := Lib.hid hP
  have e1 := envb E
  go_loopw [4, 5] (fun v4 v5 wr => ∃ (k : Nat) (F : Value), v5 = .int .i64 k ∧ F = v4 ∧ k ≤ n ∧ Own zc 3 1 w1.heap.size wr F ((List.range k).map lf) ∧ Below w1.heap.size w1 wr) (fun _ v _ => n - (intOf v).toNat)
  case atStart => exact ⟨0, _, rfl, rfl, Nat.zero_le _, ⟨rfl, .inl ⟨rfl, rfl⟩⟩, Below.refl _ _⟩
  case round =>
    clear E C hO hP
    obtain ⟨k, F, rfl, rfl, hk, hO, B⟩ := hrel
    by_cases hlt : k < n
    · have g1 : decide ((k : Int) < (n : Int)) = true := by simp [hlt]
      have W1 : IntKind.i64.wrap ((k : Int) + 1) = ((k + 1 : Nat) : Int) := by rw [IntWalk.i64_in _ (by omega)]; omega
      have p1 : (0 : Int) ≤ (k : Int) := by omega
      have p2 : (k : Int) < (n : Int) := by omega
      obtain ⟨a0, a1, a2⟩ := HPc.out k (by rw [hML.out]; exact hlt)
      rw [HM.out] at a0 a1 a2
      obtain ⟨ha, hx, hy, hz⟩ := HA.out k hlt
      have hlb := hLB.out k hlt
      obtain ⟨⟨x0, y0, z0⟩, hP2⟩ : ∃ p : Pt, Hid (mf k = p) := ⟨_, Lib.hid rfl⟩
      rw [hP2.out] at a0 a1 a2 ha hx hy hz
      dsimp only at a0 a1 a2 ha hx hy hz
      replace a0 := cell_later B a0
      replace a1 := cell_later B a1
      replace a2 := cell_later B a2
      have s0 := fun W => size_any x0 W (by omega)
      have s1 := fun W => size_any y0 W (by omega)
      have s2 := fun W => size_any z0 W (by omega)
      have ax0 : 0 ≤ abz x0 ∧ abz x0 ≤ 262144 := by unfold abz; split <;> omega
      have ay0 : 0 ≤ abz y0 ∧ abz y0 ≤ 262144 := by unfold abz; split <;> omega
      have az0 : 0 ≤ abz z0 ∧ abz z0 ≤ 262144 := by unfold abz; split <;> omega
      generalize abz x0 = X0 at *
      generalize abz y0 = Y0 at *
      generalize abz z0 = Z0 at *
      have W2 : IntKind.i64.wrap (X0 + Y0) = X0 + Y0 := IntWalk.i64_in _ (by omega)
      have W3 : IntKind.i64.wrap (X0 + Y0 + Z0) = X0 + Y0 + Z0 := IntWalk.i64_in _ (by omega)
      have hl : Hid ((List.range (k + 1)).map lf = (List.range k).map lf ++ [X0 + Y0 + Z0]) := Lib.hid (by rw [List.range_succ, List.map_append, ha]; rfl)
      have hlen : ((List.range k).map lf).length = k := by simp
      generalize (List.range k).map lf = O at *
      clear ha hx hy hz ax0 ay0 az0 hlb
      go_upto_region 6 with fail
      refine wp_region_plan 22 [(0, true), (1, true), (2, true), (3, true), (4, true), (5, true), (7, true), (8, true), (9, true), (10, true), (11, true), (14, true), (15, true), (16, true), (17, true), (18, true), (6, false), (12, false), (13, true), (19, false), (20, true), (21, false)] (fun W' => W'.cell? ⟨gp, k * 3, none⟩ = some (.int .i64 x0) ∧ W'.cell? ⟨gp, k * 3 + 1, none⟩ = some (.int .i64 y0) ∧ W'.cell? ⟨gp, k * 3 + 2, none⟩ = some (.int .i64 z0)) (by kernel_rfl) (by kernel_rfl) (fun _ _ d _ _ h => by cases d <;> exact h) ⟨a0, a1, a2⟩ ?_
      simp only [List.filterMap_cons, List.filterMap_nil, List.getElem?_cons_zero, List.getElem?_cons_succ, Option.map_some, List.drop_succ_cons, List.drop_zero]
      iterate 16 (first | (refine wpPlan_still (v := ?_) (Or.inl ⟨by rfl, ?_⟩) ?_; rotate_left; (focus (intro W hW; (try dsimp only at hW); go_split_ands; go_simp; try with_reducible rfl)); try simp only [Act.put, List.setIfInBounds_toArray, List.set_cons_zero, List.set_cons_succ]) | (refine wpPlan_still (Or.inr ⟨by rfl, rfl⟩) ?_; try simp only [Act.put, List.setIfInBounds_toArray, List.set_cons_zero, List.set_cons_succ]))
      refine wpPlan_only (fun K hK => ?_)
      try go_simp
      (go_at_call 160; (with_reducible refine (s0 _).mono ?_); rintro X wa ⟨rfl, rfl⟩)
      refine hK.out _ _ ⟨a0, a1, a2⟩ ?_
      clear hK K
      try simp only [Act.put, List.setIfInBounds_toArray, List.set_cons_zero, List.set_cons_succ]
      refine wpPlan_only (fun K hK => ?_)
      try go_simp
      (go_at_call 160; (with_reducible refine (s1 _).mono ?_); rintro X wa ⟨rfl, rfl⟩)
      refine hK.out _ _ ⟨a0, a1, a2⟩ ?_
      clear hK K
      try simp only [Act.put, List.setIfInBounds_toArray, List.set_cons_zero, List.set_cons_succ]
      iterate 1 (first | (refine wpPlan_still (v := ?_) (Or.inl ⟨by rfl, ?_⟩) ?_; rotate_left; (focus (intro W hW; (try dsimp only at hW); go_split_ands; go_simp; try with_reducible rfl)); try simp only [Act.put, List.setIfInBounds_toArray, List.set_cons_zero, List.set_cons_succ]) | (refine wpPlan_still (Or.inr ⟨by rfl, rfl⟩) ?_; try simp only [Act.put, List.setIfInBounds_toArray, List.set_cons_zero, List.set_cons_succ]))
      refine wpPlan_only (fun K hK => ?_)
      try go_simp
      (go_at_call 160; (with_reducible refine (s2 _).mono ?_); rintro X wa ⟨rfl, rfl⟩)
      refine hK.out _ _ ⟨a0, a1, a2⟩ ?_
      clear hK K
      try simp only [Act.put, List.setIfInBounds_toArray, List.set_cons_zero, List.set_cons_succ]
      iterate 1 (first | (refine wpPlan_still (v := ?_) (Or.inl ⟨by rfl, ?_⟩) ?_; rotate_left; (focus (intro W hW; (try dsimp only at hW); go_split_ands; go_simp; try with_reducible rfl)); try simp only [Act.put, List.setIfInBounds_toArray, List.set_cons_zero, List.set_cons_succ]) | (refine wpPlan_still (Or.inr ⟨by rfl, rfl⟩) ?_; try simp only [Act.put, List.setIfInBounds_toArray, List.set_cons_zero, List.set_cons_succ]))
      refine wpPlan_only (fun K hK => ?_)
      try go_simp
      have ob := below_dr (al1 wr (.cells #[.int .i64 (X0 + Y0 + Z0)] 3))
      refine hK.out _ _ ⟨cell_later ob a0, cell_later ob a1, cell_later ob a2⟩ ?_
      clear hK K
      try simp only [Act.put, List.setIfInBounds_toArray, List.set_cons_zero, List.set_cons_succ]
      refine wpPlan_end ?_
      have hsz := B.size
      go_wp2_with (at_builtin; refine wpList_append_own_at _ rfl _ _ 58 rfl w1.heap.size 3 i0 _ 1 8 Tryz.underlying58 hinf hz0 hz1 hz2 rfl (by decide) _ O.length (O.flatMap zc) rfl (own_on hO ob) ⟨_, 0, none⟩ 1 1 [.int .i64 (X0 + Y0 + Z0)] rfl rfl (cell_one_new _ _ _) (by simp [Value.oneCell']) (by unfold maxLen; omega) (by omega) (by simp; omega) ?_)
      intro v' w6 r1 r2 r3 r4
      have O7 : Own zc 3 1 w1.heap.size w6 v' (O ++ [X0 + Y0 + Z0]) := own_snoc (by rw [hlen]; exact r1)
      have B7 : Below w1.heap.size w1 w6 := (belows B ob).grown r2 (by have := ob.size; omega) (fun q hq => (World.ownsRow.lt hO q hq).1)
      clear r1 r2 r3 r4 hO a0 a1 a2 s0 s1 s2 ob
      go_wp2
      go_roundw
      · exact ⟨k + 1, _, rfl, rfl, hlt, (by rw [hl.out]; exact O7), B7⟩
      · simp [intOf]; omega
    · have g1 : decide ((k : Int) < (n : Int)) = false := by simp; omega
      obtain rfl : k = n := by omega
      have hR := Own.rdz hO
      rw [← HL.out] at hR
      have hB := belows e1 B
      clear hO B
      go_wp2
      go_ret
      exact ⟨_, rfl, hR, hB⟩
end Go.Proofs.YthdafpbmmfelpaaGreatDoor
namespace Go.Proofs.YthdafpbmmfelpaaGreatDoor
open Go.ChangeShapes Go.WideShapes Go.ChangeAt Go.RowKit
set_option linter.unusedVariables false
set_option linter.unusedSimpArgs false

theorem isz_cases {d : Int} (h : isz d = true) : d = 6 ∨ d = 8 ∨ d = 10 ∨ d = 12 ∨ d = 16 ∨ d = 20 ∨ d = 25 ∨ d = 32 ∨ d = 40 := by
  unfold isz at h
  rw [List.contains_iff_mem] at h
  simpa [sz] using h
def bn (d : Int) : Int := if d ≤ 16 then (5 * d).tdiv 2 else 4 * d
def ms (d n : Int) : Int := (6165 * d * d * n + 500000).tdiv 1000000
theorem radiusof_ok (d : Int) (h : isz d = true) (w : World) : Calls Tryz.prog 176 #[.int .i64 d] w fun e w' => e = .returned (.int .i64 (bn d)) ∧ w = w' := by
  rcases isz_cases h with rfl | rfl | rfl | rfl | rfl | rfl | rfl | rfl | rfl
  all_goals (
    go_enter Tryz.func176, Tryz.ntmps176
    go_wp2
    go_ret
    exact ⟨ret_one (by decide +kernel), rfl⟩)
theorem rbend_ok (d : Int) (h : isz d = true) (w : World) : Calls Tryz.prog 161 #[.int .i64 d] w fun e w' => e = .returned (.int .i64 (bn d)) ∧ w = w' := by
  rcases isz_cases h with rfl | rfl | rfl | rfl | rfl | rfl | rfl | rfl | rfl
  all_goals (
    go_enter Tryz.func161, Tryz.ntmps161
    go_wp2
    go_ret
    exact ⟨ret_one (by decide +kernel), rfl⟩)
theorem ms_b {d n : Int} (h : isz d = true) (h0 : 0 ≤ n) (h1 : n ≤ 1048576) :
    (0 ≤ d ∧ d ≤ 40) ∧ (0 ≤ 6165 * d * d ∧ 6165 * d * d ≤ 9864000) ∧ (0 ≤ 6165 * d * d * n ∧ 6165 * d * d * n ≤ 10343153664000) ∧ (0 ≤ ms d n ∧ ms d n ≤ 10343154) := by
  have key : (0 ≤ d ∧ d ≤ 40) ∧ (0 ≤ 6165 * d * d ∧ 6165 * d * d ≤ 9864000) ∧ (0 ≤ 6165 * d * d * n ∧ 6165 * d * d * n ≤ 10343153664000) := by
    rcases isz_cases h with rfl | rfl | rfl | rfl | rfl | rfl | rfl | rfl | rfl
    all_goals (refine ⟨⟨by decide, by decide⟩, ⟨by decide, by decide⟩, ⟨?_, ?_⟩⟩ <;> omega)
  refine ⟨key.1, key.2.1, key.2.2, ?_⟩
  have k3 := key.2.2
  unfold ms
  generalize 6165 * d * d * n = x at k3 ⊢
  rw [Int.tdiv_eq_ediv_of_nonneg (by omega)]
  omega
theorem of_bend (d : Int) (w : World) : Calls Tryz.prog 175 #[.int .i64 d, .func (.func 176) #[] #[]] w fun e w' => e = .returned (.tuple #[.int .i64 (if isz d = true then bn d else 0), .int .i64 (if isz d = true then 0 else 1)]) ∧ Below w.heap.size w w' := by
  have hs := fun W => isz_any d W
  cases h : isz d
  · rw [h] at hs
    rw [if_neg (by decide), if_neg (by decide)]
    clear h
    go_enter Tryz.func175, Tryz.ntmps175
    go_wp2_with (go_at_call 50; (with_reducible refine (hs _).mono ?_); rintro e' w1 ⟨rfl, hb⟩)
    exact bodyPost_ret (v := .tuple #[.int .i64 0, .int .i64 1]) (by simp [results, Tryz.results175, go_sem]) rfl ⟨rfl, hb⟩
  · rw [h] at hs
    rw [if_pos rfl, if_pos rfl]
    have ho := fun W => radiusof_ok d h W
    clear h
    generalize bn d = r at *
    go_enter Tryz.func175, Tryz.ntmps175
    go_wp2_with (first
      | (go_at_call 50; (with_reducible refine (hs _).mono ?_); rintro e' w1 ⟨rfl, hb⟩)
      | (go_at_call 176; (with_reducible refine (ho _).mono ?_); rintro e' w2 ⟨rfl, rfl⟩))
    exact bodyPost_ret (v := .tuple #[.int .i64 r, .int .i64 0]) (by simp [results, Tryz.results175, go_sem]) rfl ⟨rfl, hb⟩
theorem bend_any (d : Int) (w : World) : Calls Tryz.prog 146 #[.int .i64 d] w fun e w' => e = .returned (.tuple #[.int .i64 (if isz d = true then bn d else 0), .int .i64 (if isz d = true then 0 else 1)]) ∧ Below w.heap.size w w' := by
  have ho := fun W => of_bend d W
  generalize (if isz d = true then bn d else 0) = r at *
  generalize (if isz d = true then (0 : Int) else 1) = s at *
  go_enter Tryz.func146, Tryz.ntmps146
  go_wp2_with (go_at_call 175; (with_reducible refine (ho _).mono ?_); rintro e' w1 ⟨rfl, hb⟩)
  exact bodyPost_ret (v := .tuple #[.int .i64 r, .int .i64 s]) (by simp [results, Tryz.results146, go_sem]) rfl ⟨rfl, hb⟩
theorem bend_ok (d : Int) (h : isz d = true) (w : World) : Calls Tryz.prog 146 #[.int .i64 d] w fun e w' => e = .returned (.tuple #[.int .i64 (bn d), .int .i64 0]) ∧ Below w.heap.size w w' := by
  have ho := bend_any d w
  rw [if_pos h, if_pos h] at ho
  exact ho
theorem bend_no (d : Int) (h : isz d = false) (w : World) : Calls Tryz.prog 146 #[.int .i64 d] w fun e w' => e = .returned (.tuple #[.int .i64 0, .int .i64 1]) ∧ Below w.heap.size w w' := by
  have ho := bend_any d w
  rw [if_neg (by simp [h]), if_neg (by simp [h])] at ho
  exact ho
end Go.Proofs.YthdafpbmmfelpaaGreatDoor
namespace Go.Proofs.YthdafpbmmfelpaaGreatDoor
open Go.ChangeShapes Go.WideShapes Go.ChangeAt Go.RowKit
set_option linter.unusedVariables false
set_option linter.unusedSimpArgs false

def arcL (r : Int) : Int := (500 * r * 333).tdiv 106
def arcH (r : Int) : Int := (500 * r * 355 + 112).tdiv 113
def two (a b : Int) : Value := .agg #[.int .i64 a, .int .i64 b]
theorem arcL_e {r : Int} (h : 0 ≤ r) : arcL r = 166500 * r / 106 := by
  unfold arcL
  rw [Int.tdiv_eq_ediv_of_nonneg (by omega)]
  congr 1; omega
theorem arcH_e {r : Int} (h : 0 ≤ r) : arcH r = (177500 * r + 112) / 113 := by
  unfold arcH
  rw [Int.tdiv_eq_ediv_of_nonneg (by omega)]
  congr 1; omega
theorem arc_bd {r : Int} (h : 0 ≤ r ∧ r ≤ 1000) : (0 ≤ arcL r ∧ arcL r ≤ 2000000) ∧ 0 ≤ arcH r ∧ arcH r ≤ 2000000 := by
  rw [arcL_e h.1, arcH_e h.1]
  omega
theorem envb2 {w0 w : World} {l : List Fb} (h : Env w0 w l) : Below w0.heap.size w0 w := h.1
theorem Env.put2 {w0 w : World} {l : List Fb} (u0 u1 : Value) (h : Env w0 w l) (k : Nat) (hb : Nat.blt k l.length = true) :
    Env w0 ((w.setCell ⟨numB k l, 0, none⟩ u0).setCell ⟨numB k l, 1, none⟩ u1) (setB 1 u1 k (setB 0 u0 k l)) := by
  have e : ∀ (k : Nat) (l : List Fb) (i : Nat) (u : Value), numB k (setB i u k l) = numB k l := by
    intro k l i u
    induction l generalizing k with
    | nil => cases k <;> rfl
    | cons x l ih => cases k with
      | zero => rfl
      | succ k => exact ih k
  have e2 : ∀ (k : Nat) (l : List Fb) (i : Nat) (u : Value), (setB i u k l).length = l.length := by
    intro k l i u
    have := congrArg List.length (setB_g i u k l); simpa using this
  have h0 := h.put k 0 u0 hb
  have h1 := h0.put k 1 u1 (by rw [e2]; exact hb)
  simp only [e] at h1
  exact h1
def Bd (n : Int) : Prop := -1000000000000 ≤ n ∧ n ≤ 1000000000000
theorem exactly_any (n : Int) (h : Bd n) (w : World) : Calls Tryz.prog 116 #[.int .i64 n] w fun e w' => e = .returned (two (1000 * n) (1000 * n)) ∧ Below w.heap.size w w' := by
  unfold Bd at h
  have W1 : IntKind.i64.wrap (1000 * n) = 1000 * n := IntWalk.i64_in _ (by omega)
  clear h
  go_enter Tryz.func116, Tryz.ntmps116
  go_wp2
  exact bodyPost_ret (v := two (1000 * n) (1000 * n)) (by simp [results, Tryz.results116, go_sem, two]) rfl ⟨rfl, al1 w _⟩
theorem neg_any (a b : Int) (ha : Bd a) (hb : Bd b) (w : World) : Calls Tryz.prog 118 #[two a b] w fun e w' => e = .returned (two (-b) (-a)) ∧ Below w.heap.size w w' := by
  unfold Bd at ha hb
  have W1 : IntKind.i64.wrap (-a) = -a := IntWalk.i64_in _ (by omega)
  have W2 : IntKind.i64.wrap (-b) = -b := IntWalk.i64_in _ (by omega)
  clear ha hb
  unfold two
  go_enter Tryz.func118, Tryz.ntmps118
  go_wp2
  exact bodyPost_ret (v := two (-b) (-a)) (by simp [results, Tryz.results118, go_sem, two]) rfl ⟨rfl, al (al1 w _) _⟩
theorem plus_any (a b c d : Int) (ha : Bd a) (hb : Bd b) (hc : Bd c) (hd : Bd d) (w : World) : Calls Tryz.prog 115 #[two a b, two c d] w fun e w' => e = .returned (two (a + c) (b + d)) ∧ Below w.heap.size w w' := by
  unfold Bd at ha hb hc hd
  have W1 : IntKind.i64.wrap (a + c) = a + c := IntWalk.i64_in _ (by omega)
  have W2 : IntKind.i64.wrap (b + d) = b + d := IntWalk.i64_in _ (by omega)
  clear ha hb hc hd
  unfold two
  have E := ((Env.nil w).add w.heap.size 153 #[.int .i64 a, .int .i64 b] rfl).add (w.heap.size + 1) 153 #[.int .i64 c, .int .i64 d] (by simp)
  have C := E.cells
  simp [BC, CF] at C
  go_enter Tryz.func115, Tryz.ntmps115
  go_wp2
  exact bodyPost_ret (v := two (a + c) (b + d)) (by simp [results, Tryz.results115, go_sem, two]) rfl ⟨rfl, al (al (al1 w _) _) _⟩
theorem rup113 (n : Int) (h : Bd n) (w : World) : Calls Tryz.prog 87 #[.int .i64 n, .int .i64 113] w fun e w' => e = .returned (.int .i64 ((n + 112).tdiv 113)) ∧ w = w' := by
  unfold Bd at h
  have W1 : IntKind.i64.wrap (n + 113) = n + 113 := IntWalk.i64_in _ (by omega)
  have W2 : IntKind.i64.wrap (n + 113 - 1) = n + 112 := by rw [IntWalk.i64_in _ (by omega)]; omega
  have W3 : IntKind.i64.wrap ((n + 112).tdiv 113) = (n + 112).tdiv 113 := IntWalk.i64_in _ (by
    have := Int.natAbs_tdiv_le_natAbs (n + 112) 113
    omega)
  clear h
  go_enter Tryz.func87, Tryz.ntmps87
  go_wp2
  go_ret
  exact ⟨rfl, rfl⟩
theorem rup5000 (n : Int) (h : Bd n) (w : World) : Calls Tryz.prog 87 #[.int .i64 n, .int .i64 5000] w fun e w' => e = .returned (.int .i64 ((n + 4999).tdiv 5000)) ∧ w = w' := by
  unfold Bd at h
  have W1 : IntKind.i64.wrap (n + 5000) = n + 5000 := IntWalk.i64_in _ (by omega)
  have W2 : IntKind.i64.wrap (n + 5000 - 1) = n + 4999 := by rw [IntWalk.i64_in _ (by omega)]; omega
  have W3 : IntKind.i64.wrap ((n + 4999).tdiv 5000) = (n + 4999).tdiv 5000 := IntWalk.i64_in _ (by
    have := Int.natAbs_tdiv_le_natAbs (n + 4999) 5000
    omega)
  clear h
  go_enter Tryz.func87, Tryz.ntmps87
  go_wp2
  go_ret
  exact ⟨rfl, rfl⟩
def Rr (r : Int) : Prop := 0 ≤ r ∧ r ≤ 1000
theorem arcof_any (r : Int) (h : Rr r) (w : World) : Calls Tryz.prog 147 #[.int .i64 r] w fun e w' => e = .returned (two (arcL r) (arcH r)) ∧ Below w.heap.size w w' := by
  have hu := fun W => rup113 (500 * r * 355) (by unfold Rr at h; unfold Bd; omega) W
  have e1 : (500 * r * 355 + 112).tdiv 113 = arcH r := rfl
  have e2 : (500 * r * 333).tdiv 106 = arcL r := rfl
  have b := arc_bd h
  unfold Rr at h
  have W1 : IntKind.i64.wrap (500 * r) = 500 * r := IntWalk.i64_in _ (by omega)
  have W2 : IntKind.i64.wrap (500 * r * 333) = 500 * r * 333 := IntWalk.i64_in _ (by omega)
  have W3 : IntKind.i64.wrap (500 * r * 355) = 500 * r * 355 := IntWalk.i64_in _ (by omega)
  have W4 : IntKind.i64.wrap ((500 * r * 333).tdiv 106) = (500 * r * 333).tdiv 106 := by rw [e2]; exact IntWalk.i64_in _ (by omega)
  rw [e1] at hu
  have HE := Lib.hid e2
  clear h b e1 e2
  generalize arcH r = X at *
  go_enter Tryz.func147, Tryz.ntmps147
  go_wp2_with (go_at_call 87; (with_reducible refine (hu _).mono ?_); rintro e' w1 ⟨rfl, rfl⟩)
  exact bodyPost_ret (v := two ((500 * r * 333).tdiv 106) X) (by simp [results, Tryz.results147, go_sem, two]) rfl ⟨by rw [HE.out], al1 w _⟩
def alwL (r : Int) : Int := 2000 * r - arcH r
def alwH (r : Int) : Int := 2000 * r - arcL r
theorem alw_bd {r : Int} (h : Rr r) : Bd (alwL r) ∧ Bd (alwH r) ∧ -2000000 ≤ alwL r ∧ alwL r ≤ 2000000 ∧ -2000000 ≤ alwH r ∧ alwH r ≤ 2000000 := by
  have b := arc_bd h
  unfold Rr at h
  unfold Bd alwL alwH
  omega
theorem alwof_any (r : Int) (h : Rr r) (w : World) : Calls Tryz.prog 117 #[.int .i64 r] w fun e w' => e = .returned (two (alwL r) (alwH r)) ∧ Below w.heap.size w w' := by
  have b := arc_bd h
  have ha := fun W => arcof_any r h W
  unfold Rr at h
  have W1 : IntKind.i64.wrap (2 * r) = 2 * r := IntWalk.i64_in _ (by omega)
  have hx := fun W => exactly_any (2 * r) (by unfold Bd; omega) W
  have hn := fun W => neg_any (arcL r) (arcH r) (by unfold Bd; omega) (by unfold Bd; omega) W
  have hp := fun W => plus_any (1000 * (2 * r)) (1000 * (2 * r)) (-arcH r) (-arcL r) (by unfold Bd; omega) (by unfold Bd; omega) (by unfold Bd; omega) (by unfold Bd; omega) W
  have e1 : 1000 * (2 * r) + -arcH r = alwL r := by unfold alwL; omega
  have e2 : 1000 * (2 * r) + -arcL r = alwH r := by unfold alwH; omega
  rw [e1, e2] at hp
  clear e1 e2 b h
  unfold two at *
  generalize 1000 * (2 * r) = u at *
  generalize arcL r = x at *
  generalize arcH r = y at *
  generalize alwL r = p at *
  generalize alwH r = q at *
  have E := (Env.nil w).add w.heap.size 153 #[.int .i64 0, .int .i64 0] rfl
  have C := E.cells
  simp [BC, CF] at C
  go_enter Tryz.func117, Tryz.ntmps117
  go_wp2_with (first
    | (go_at_call 116; (with_reducible refine (hx _).mono ?_); rintro X wq ⟨rfl, hb⟩; replace E := E.on hb; replace C := E.cells; simp [BC, CF] at C; clear hb)
    | (go_at_call 147; (with_reducible refine (ha _).mono ?_); rintro X wq ⟨rfl, hb⟩; replace E := E.on hb; replace C := E.cells; simp [BC, CF] at C; clear hb)
    | (go_at_call 118; (with_reducible refine (hn _).mono ?_); rintro X wq ⟨rfl, hb⟩; replace E := E.on hb; replace C := E.cells; simp [BC, CF] at C; clear hb)
    | (go_at_call 115; (with_reducible refine (hp _).mono ?_); rintro X wq ⟨rfl, hb⟩; replace E := E.on hb; replace C := E.cells; simp [BC, CF] at C; clear hb))
  exact bodyPost_ret (v := .agg #[.int .i64 p, .int .i64 q]) (by simp [results, Tryz.results117, go_sem, *]) rfl ⟨rfl, envb2 (E.put2 (.int .i64 p) (.int .i64 q) 0 rfl)⟩
end Go.Proofs.YthdafpbmmfelpaaGreatDoor
namespace Go.Proofs.YthdafpbmmfelpaaGreatDoor
open Go.ChangeShapes Go.WideShapes Go.ChangeAt Go.RowKit
set_option linter.unusedVariables false
set_option linter.unusedSimpArgs false

theorem eq24 (a b c d : Int) (W : World) : (binOp .eql 126 (.agg #[.int .i64 a, .int .i64 b]) (.agg #[.int .i64 c, .int .i64 d])).run Tryz.prog W = .ok (.bool (decide (a = c ∧ b = d))) W := by
  rw [run_eql_struct, run_equalIn_agg (ht := by kernel_rfl) (hp := by kernel_rfl)]
  simp [go_sem, Program.fieldsOf, Tryz.underlying126]
  by_cases h1 : a = c <;> by_cases h2 : b = d <;> simp [h1, h2]
theorem rd_bn {d : Int} (h : isz d = true) : Rr (bn d) := by
  rcases isz_cases h with rfl | rfl | rfl | rfl | rfl | rfl | rfl | rfl | rfl <;> (unfold Rr; decide)
set_option maxRecDepth 100000 in
theorem rArc_ok (d : Int) (h : isz d = true) (w : World) : Calls Tryz.prog 162 #[.int .i64 d] w fun e w' => e = .returned (two (arcL (bn d)) (arcH (bn d))) ∧ Below w.heap.size w w' := by
  have hb := fun W => rbend_ok d h W
  have hr := rd_bn h
  clear h
  generalize bn d = r at *
  have e1 : (500 * r * 355 + 112).tdiv 113 = arcH r := rfl
  have e2 : (500 * r * 333).tdiv 106 = arcL r := rfl
  have b := arc_bd hr
  unfold Rr at hr
  have W1 : IntKind.i64.wrap (500 * r) = 500 * r := IntWalk.i64_in _ (by omega)
  have W2 : IntKind.i64.wrap (500 * r * 333) = 500 * r * 333 := IntWalk.i64_in _ (by omega)
  have W3 : IntKind.i64.wrap (500 * r * 355) = 500 * r * 355 := IntWalk.i64_in _ (by omega)
  have W4 : IntKind.i64.wrap (500 * r * 355 + 112) = 500 * r * 355 + 112 := IntWalk.i64_in _ (by omega)
  have W5 : IntKind.i64.wrap ((500 * r * 333).tdiv 106) = (500 * r * 333).tdiv 106 := by rw [e2]; exact IntWalk.i64_in _ (by omega)
  have W6 : IntKind.i64.wrap ((500 * r * 355 + 112).tdiv 113) = (500 * r * 355 + 112).tdiv 113 := by rw [e1]; exact IntWalk.i64_in _ (by omega)
  rw [← e1, ← e2]
  unfold two at *
  clear hr b e1 e2
  have E := (Env.nil w).add w.heap.size 126 #[.int .i64 0, .int .i64 0] rfl
  have C := E.cells
  simp [BC, CF] at C
  go_enter Tryz.func162, Tryz.ntmps162
  go_wp2_with (first
    | (go_at_call 161; (with_reducible refine (hb _).mono ?_); rintro X wq ⟨rfl, rfl⟩))
  exact bodyPost_ret (v := .agg #[.int .i64 ((500 * r * 333).tdiv 106), .int .i64 ((500 * r * 355 + 112).tdiv 113)]) (by simp [results, Tryz.results162, go_sem, *]) rfl ⟨rfl, al1 w _⟩
set_option maxRecDepth 100000 in
theorem rAlw_ok (d : Int) (h : isz d = true) (w : World) : Calls Tryz.prog 123 #[.int .i64 d] w fun e w' => e = .returned (two (alwL (bn d)) (alwH (bn d))) ∧ Below w.heap.size w w' := by
  have hb := fun W => rbend_ok d h W
  have ha := fun W => rArc_ok d h W
  have hr := rd_bn h
  clear h
  generalize bn d = r at *
  have e1 : alwL r = 2000 * r - arcH r := rfl
  have e2 : alwH r = 2000 * r - arcL r := rfl
  have b := arc_bd hr
  unfold Rr at hr
  have W1 : IntKind.i64.wrap (2000 * r) = 2000 * r := IntWalk.i64_in _ (by omega)
  have W2 : IntKind.i64.wrap (2000 * r - arcH r) = 2000 * r - arcH r := IntWalk.i64_in _ (by omega)
  have W3 : IntKind.i64.wrap (2000 * r - arcL r) = 2000 * r - arcL r := IntWalk.i64_in _ (by omega)
  rw [e1, e2]
  unfold two at *
  clear hr b e1 e2
  generalize arcH r = y at *
  generalize arcL r = x at *
  have E := (Env.nil w).add w.heap.size 126 #[.int .i64 0, .int .i64 0] rfl
  have C := E.cells
  simp [BC, CF] at C
  go_enter Tryz.func123, Tryz.ntmps123
  go_upto_region 2 with (first
    | (go_at_call 161; (with_reducible refine (hb _).mono ?_); rintro X wq ⟨rfl, rfl⟩)
    | (go_at_call 162; (with_reducible refine (ha _).mono ?_); rintro X wq ⟨rfl, hb⟩; replace E := E.on hb; replace E := E.add _ 126 #[.int .i64 x, .int .i64 y] rfl; clear hb; replace C := E.cells; simp [BC, CF] at C))
  go_wp2
  exact bodyPost_ret (v := .agg #[.int .i64 (2000 * r - y), .int .i64 (2000 * r - x)]) (by simp [results, Tryz.results123, go_sem, *]) rfl ⟨rfl, envb2 (E.put2 _ _ 1 rfl)⟩
end Go.Proofs.YthdafpbmmfelpaaGreatDoor
namespace Go.Proofs.YthdafpbmmfelpaaGreatDoor
open Go.ChangeShapes Go.WideShapes Go.ChangeAt Go.RowKit
set_option linter.unusedVariables false
set_option linter.unusedSimpArgs false

theorem alwL_e {r : Int} (h : Rr r) : 0 ≤ alwL r ∧ alwL r ≤ alwH r ∧ alwH r ≤ 2000000 := by
  unfold Rr at h
  unfold alwL alwH
  rw [arcL_e h.1, arcH_e h.1]
  omega
/-- Sums of legs less so many corners. -/
def dvA (b : Bar) (a : Int) (k : Nat) : Int := 1000 * ((legs b).take k).sum - ((k - 1 : Nat) : Int) * a
def devL (b : Bar) : Int := 1000 * (legs b).sum - ((nl b.code : Int) - 1) * alwH (bn b.size)
def devH (b : Bar) : Int := 1000 * (legs b).sum - ((nl b.code : Int) - 1) * alwL (bn b.size)
theorem dvA_end {b : Bar} (h : barB b = true) (a : Int) : dvA b a (nl b.code) = 1000 * (legs b).sum - ((nl b.code : Int) - 1) * a := by
  have n0 := nl_pos (barB_and h).1
  unfold dvA
  rw [List.take_of_length_le (by rw [legs_len]; omega), show ((nl b.code - 1 : Nat) : Int) = (nl b.code : Int) - 1 by omega]
theorem dvA_zero (b : Bar) (a : Int) : dvA b a 0 = 0 := by simp [dvA]
theorem dvA_one {b : Bar} (h : barB b = true) (a : Int) : 1000 * legF b 0 = dvA b a 1 := by
  have n0 := nl_pos (barB_and h).1
  unfold dvA
  rw [List.take_succ_eq_append_getElem (by rw [legs_len]; omega)]
  simp [legs]
theorem dvA_step {b : Bar} (h : barB b = true) (a : Int) {k : Nat} (hk : k < nl b.code) (h0 : 0 < k) : dvA b a k + 1000 * legF b k + -a = dvA b a (k + 1) := by
  unfold dvA
  rw [List.take_succ_eq_append_getElem (by rw [legs_len]; omega), List.sum_append]
  obtain ⟨m, rfl⟩ : ∃ m, k = m + 1 := ⟨k - 1, by omega⟩
  have e : (legs b)[m + 1]'(by rw [legs_len]; omega) = legF b (m + 1) := by simp [legs]
  rw [e]
  simp only [List.sum_cons, List.sum_nil, Nat.add_sub_cancel]
  have e2 : ((m + 1 : Nat) : Int) * a = (m : Int) * a + a := by rw [Int.natCast_add, Int.add_mul]; simp
  rw [e2]
  omega
theorem six_mul {k : Nat} (hk : k ≤ 6) {a : Int} (h : 0 ≤ a ∧ a ≤ 2000000) : 0 ≤ ((k - 1 : Nat) : Int) * a ∧ ((k - 1 : Nat) : Int) * a ≤ 12000000 := by
  rcases (by omega : k = 0 ∨ k = 1 ∨ k = 2 ∨ k = 3 ∨ k = 4 ∨ k = 5 ∨ k = 6) with rfl | rfl | rfl | rfl | rfl | rfl | rfl <;> simp <;> omega
theorem dvA_bd {b : Bar} (h : barB b = true) {a : Int} (ha : 0 ≤ a ∧ a ≤ 2000000) {k : Nat} (hk : k ≤ nl b.code) : -12000000 ≤ dvA b a k ∧ dvA b a k ≤ 524288000 := by
  have h1 := (pt_sum h k hk).2
  have h2 := take_le h (nl b.code - k) (by omega)
  rw [show nl b.code - (nl b.code - k) = k by omega] at h2
  have h3 := legs_sum h
  have n6 := nl_le (barB_and h).1
  have := six_mul (Nat.le_trans hk n6) ha
  unfold dvA
  omega
theorem dev_bd {b : Bar} (h : barB b = true) : (-12000000 ≤ devL b ∧ devL b ≤ 524288000) ∧ -12000000 ≤ devH b ∧ devH b ≤ 524288000 := by
  have ha := alwL_e (rd_bn (barB_and h).2.2.2.2.1)
  have h1 := dvA_bd h (a := alwH (bn b.size)) (by omega) (Nat.le_refl _)
  have h2 := dvA_bd h (a := alwL (bn b.size)) (by omega) (Nat.le_refl _)
  rw [dvA_end h] at h1 h2
  exact ⟨h1, h2⟩
set_option maxHeartbeats 8000000 in
set_option maxRecDepth 100000 in
theorem parts_no (b : Bar) (w : World) (hk : b.Ok w) (hv : barB b = false) : Calls Tryz.prog 114 #[b.val] w fun e w' => e = .returned (.tuple #[.slice none 0 0, .int .i64 0, .int .i64 1]) ∧ Below w.heap.size w w' := by
  have hL := fun W (h : Below w.heap.size w W) => Legs_no b W (hk.on h) hv
  have E := (Env.nil w).add w.heap.size 60 b.cs rfl
  obtain ⟨mk, sz, ct, cd, p, ds, cap⟩ := b
  simp only [Bar.cs, Bar.val] at *
  have C := E.cells
  simp [BC, CF] at C
  clear hk hv
  go_enter Tryz.func114, Tryz.ntmps114
  go_wp2_with (first
    | (go_at_call 145; (with_reducible refine (hL _ (envb E)).mono ?_); rintro X wq ⟨rfl, hb⟩; replace E := E.on hb; replace C := E.cells; simp [BC, CF] at C; clear hb))
  exact bodyPost_ret (v := .tuple #[.slice none 0 0, .int .i64 0, .int .i64 1]) (by simp [results, Tryz.results114, go_sem]) rfl ⟨rfl, envb E⟩
set_option maxHeartbeats 8000000 in
set_option maxRecDepth 100000 in
theorem parts_ok (b : Bar) (w : World) (hk : b.Ok w) (hv : barB b = true) : Calls Tryz.prog 114 #[b.val] w fun e w' => ∃ g, e = .returned (.tuple #[.slice (some ⟨g, 0, none⟩) (nl b.code) (mc b.code), .int .i64 (bn b.size), .int .i64 0]) ∧ Rdz w' (.slice (some ⟨g, 0, none⟩) (nl b.code) (mc b.code)) (legs b) ∧ Below w.heap.size w w' := by
  have hL := fun W (h : Below w.heap.size w W) => Legs_ok b W (hk.on h) hv
  have hB := fun W => bend_ok b.size (barB_and hv).2.2.2.2.1 W
  have E := (Env.nil w).add w.heap.size 60 b.cs rfl
  have e0 : b.cs = #[.string b.mark, .int .i64 b.size, .int .i64 b.count, .int .i64 b.code, .slice b.p b.ds.length b.cap] := rfl
  have e1 : b.val = .agg b.cs := rfl
  rw [e0] at E e1
  rw [e1] at hL ⊢
  clear hk hv e0 e1
  generalize legs b = LS at *
  generalize nl b.code = n at *
  generalize mc b.code = m at *
  generalize bn b.size = r at *
  have C := E.cells
  simp [BC, CF] at C
  go_enter Tryz.func114, Tryz.ntmps114
  go_wp2_with (first
    | (go_at_call 145; (with_reducible refine (hL _ (envb E)).mono ?_); rintro X wq ⟨g, rfl, hR, hb⟩; replace E := E.on hb; replace C := E.cells; simp [BC, CF] at C; clear hb)
    | (go_at_call 146; (with_reducible refine (hB _).mono ?_); rintro X wq ⟨rfl, hb⟩; replace E := E.on hb; replace hR := hR.on hb; replace C := E.cells; simp [BC, CF] at C; clear hb))
  exact bodyPost_ret (v := .tuple #[.slice (some ⟨g, 0, none⟩) n m, .int .i64 r, .int .i64 0]) (by simp [results, Tryz.results114, go_sem]) rfl ⟨g, rfl, hR, envb E⟩
set_option maxHeartbeats 8000000 in
set_option maxRecDepth 100000 in
theorem Dev_no (b : Bar) (w : World) (hk : b.Ok w) (hv : barB b = false) : Calls Tryz.prog 86 #[b.val] w fun e w' => e = .returned (.tuple #[two 0 0, .int .i64 1]) ∧ Below w.heap.size w w' := by
  have hL := fun W (h : Below w.heap.size w W) => parts_no b W (hk.on h) hv
  have E := ((Env.nil w).add w.heap.size 60 b.cs rfl).add (w.heap.size + 1) 126 #[.int .i64 0, .int .i64 0] (by simp)
  obtain ⟨mk, sz, ct, cd, p, ds, cap⟩ := b
  simp only [Bar.cs, Bar.val, two] at *
  have C := E.cells
  simp [BC, CF] at C
  clear hk hv
  go_enter Tryz.func86, Tryz.ntmps86
  go_wp2_with (first
    | (go_at_call 114; (with_reducible refine (hL _ (envb E)).mono ?_); rintro X wq ⟨rfl, hb⟩; replace E := E.on hb; replace C := E.cells; simp [BC, CF] at C; clear hb))
  exact bodyPost_ret (v := .tuple #[.agg #[.int .i64 0, .int .i64 0], .int .i64 1]) (by simp [results, Tryz.results86, go_sem, *]) rfl ⟨rfl, envb2 (E.put2 _ _ 0 rfl)⟩
theorem s_dv {w0 w : World} {g : Nat} {x y : Int} (E : Env w0 w [⟨g, 153, #[.int .i64 x, .int .i64 y]⟩]) : Env w0 w [⟨g, 153, #[.int .i64 x, .int .i64 y]⟩] ∧ w.cell? ⟨g, 0, none⟩ = some (.int .i64 x) ∧ w.cell? ⟨g, 1, none⟩ = some (.int .i64 y) := by
  have C := E.cells
  simp [BC, CF] at C
  exact ⟨E, C.2.1.1, C.2.2.1⟩
set_option maxHeartbeats 16000000 in
set_option maxRecDepth 100000 in
theorem Dev_ok (b : Bar) (w : World) (hk : b.Ok w) (hv : barB b = true) : Calls Tryz.prog 86 #[b.val] w fun e w' => e = .returned (.tuple #[two (devL b) (devH b), .int .i64 0]) ∧ Below w.heap.size w w' := by
  have hL := fun W (h : Below w.heap.size w W) => parts_ok b W (hk.on h) hv
  have E := ((Env.nil w).add w.heap.size 60 b.cs rfl).add (w.heap.size + 1) 126 #[.int .i64 0, .int .i64 0] (by simp)
  have hr := rd_bn (barB_and hv).2.2.2.2.1
  have ha := alwL_e hr
  have hA := fun W => alwof_any (bn b.size) hr W
  have n6 := nl_le (barB_and hv).1
  have HE := Lib.hid (show dvA b (alwH (bn b.size)) (nl b.code) = devL b ∧ dvA b (alwL (bn b.size)) (nl b.code) = devH b from ⟨dvA_end hv _, dvA_end hv _⟩)
  have H0 := Lib.hid (show dvA b (alwH (bn b.size)) 0 = 0 ∧ dvA b (alwL (bn b.size)) 0 = 0 from ⟨dvA_zero b _, dvA_zero b _⟩)
  have H1 := Lib.hid (show 1000 * legF b 0 = dvA b (alwH (bn b.size)) 1 ∧ 1000 * legF b 0 = dvA b (alwL (bn b.size)) 1 from ⟨dvA_one hv _, dvA_one hv _⟩)
  have HS := Lib.hid (fun k (h : k < nl b.code) (h0 : 0 < k) => And.intro (dvA_step hv (alwH (bn b.size)) h h0) (dvA_step hv (alwL (bn b.size)) h h0))
  have HB := Lib.hid (fun k (h : k ≤ nl b.code) => And.intro (dvA_bd hv (a := alwH (bn b.size)) (by omega) h) (dvA_bd hv (a := alwL (bn b.size)) (by omega) h))
  have HF := Lib.hid (fun k (h : k < nl b.code) => leg_bd hv h)
  have HQ := Lib.hid (show legs b = (List.range (nl b.code)).map (legF b) from rfl)
  have hcs : b.cs = #[.string b.mark, .int .i64 b.size, .int .i64 b.count, .int .i64 b.code, .slice b.p b.ds.length b.cap] := rfl
  have hvv : b.val = .agg b.cs := rfl
  rw [hcs] at E hvv
  rw [hvv] at hL ⊢
  clear hk hv hcs hvv hr
  generalize dvA b (alwH (bn b.size)) = DA at *
  generalize dvA b (alwL (bn b.size)) = DB at *
  generalize alwL (bn b.size) = aL at *
  generalize alwH (bn b.size) = aH at *
  generalize bn b.size = r at *
  generalize devL b = RL at *
  generalize devH b = RH at *
  generalize legs b = LS at *
  generalize legF b = lf at *
  generalize nl b.code = n at *
  generalize mc b.code = m at *
  have hN := fun W => neg_any aL aH (by unfold Bd; omega) (by unfold Bd; omega) W
  unfold two at *
  have C := E.cells
  simp [BC, CF] at C
  go_enter Tryz.func86, Tryz.ntmps86
  go_upto_region 4 with (go_at_call 114; (with_reducible refine (hL _ (envb E)).mono ?_); rintro X w1 ⟨gL, rfl, hR, hb⟩; replace E := E.on hb; replace C := E.cells; simp [BC, CF] at C; clear hb)
  have EW := E
  have HR := Lib.hid hR
  have E3 := (Env.nil w1).add w1.heap.size 153 #[.int .i64 0, .int .i64 0] rfl
  have C3 := E3.cells
  simp [BC, CF] at C3
  clear hR
  go_wp2
  go_loopw [23] (fun v23 wr => ∃ k : Nat, v23 = .int .i64 k ∧ k ≤ n ∧ Env w1 wr [⟨w1.heap.size, 153, #[.int .i64 (DA k), .int .i64 (DB k)]⟩]) (fun v _ => n - (intOf v).toNat)
  case atStart => exact ⟨0, rfl, Nat.zero_le _, by rw [H0.out.1, H0.out.2]; exact E3⟩
  case round =>
    clear E E3 C C3
    obtain ⟨k, rfl, hk, E3⟩ := hrel
    have C3 := E3.cells
    simp [BC, CF] at C3
    by_cases hlt : k < n
    · have g1 : decide ((k : Int) < (n : Int)) = true := by simp [hlt]
      have W1 : IntKind.i64.wrap ((k : Int) + 1) = ((k + 1 : Nat) : Int) := by rw [IntWalk.i64_in _ (by omega)]; omega
      have q1 : (0 : Int) ≤ (k : Int) := by omega
      have q2 : (k : Int) < (n : Int) := by omega
      obtain ⟨q, c, e0, hr⟩ := HR.out
      simp only [Value.slice.injEq] at e0
      obtain ⟨rfl, e1, -⟩ := e0
      obtain ⟨a, ea, d0⟩ := hr k (by omega)
      cases ea
      rw [Addr.add_lit, Nat.zero_add] at d0
      have d2 := cellLater E3.1 d0
      rw [show LS[k] = lf k by simp [HQ.out]] at d2
      clear d0 hr e1
      have hx := fun W => exactly_any (lf k) (by have := HF.out k hlt; unfold Bd; omega) W
      have hp := fun W => plus_any (DA k) (DB k) (1000 * lf k) (1000 * lf k) (by have := (HB.out k hk).1; unfold Bd; omega) (by have := (HB.out k hk).2; unfold Bd; omega) (by have := HF.out k hlt; unfold Bd; omega) (by have := HF.out k hlt; unfold Bd; omega) W
      have HE1 : Hid ((0 < k → ∀ W, Calls Tryz.prog 115 #[two (DA k + 1000 * lf k) (DB k + 1000 * lf k), two (-aH) (-aL)] W fun e w' => e = .returned (two (DA (k + 1)) (DB (k + 1))) ∧ Below W.heap.size W w')) := Lib.hid fun h0 W => by
        have s := HS.out k hlt h0
        have b1 := HB.out k hk
        have b2 := HF.out k hlt
        rw [← s.1, ← s.2]
        exact plus_any _ _ _ _ (by unfold Bd; omega) (by unfold Bd; omega) (by unfold Bd; omega) (by unfold Bd; omega) W
      have HE2 : Hid (k = 0 → DA k + 1000 * lf k = DA (k + 1) ∧ DB k + 1000 * lf k = DB (k + 1)) := Lib.hid fun h0 => by
        subst h0
        rw [H0.out.1, H0.out.2]
        exact ⟨by rw [← H1.out.1]; omega, by rw [← H1.out.2]; omega⟩
      unfold two at *
      generalize hA2 : DA (k + 1) = a2 at *
      generalize hB2 : DB (k + 1) = b2 at *
      have HA2 := Lib.hid hA2
      have HB2 := Lib.hid hB2
      clear hA2 hB2
      generalize DA k + 1000 * lf k = a1 at *
      generalize DB k + 1000 * lf k = b1 at *
      generalize DA k = a0 at *
      generalize DB k = b0 at *
      generalize 1000 * lf k = ml at *
      go_upto_region 8 with fail
      refine wp_region_plan 4 [(0, true), (1, true), (2, false), (3, false)] (fun W' => Env w1 W' [⟨w1.heap.size, 153, #[.int .i64 a0, .int .i64 b0]⟩] ∧ W'.cell? ⟨w1.heap.size, 0, none⟩ = some (.int .i64 a0) ∧ W'.cell? ⟨w1.heap.size, 1, none⟩ = some (.int .i64 b0)) (by kernel_rfl) (by kernel_rfl) (fun _ _ d _ _ h => by cases d <;> exact h) (s_dv E3.drw) ?_
      simp only [List.filterMap_cons, List.filterMap_nil, List.getElem?_cons_zero, List.getElem?_cons_succ, Option.map_some, List.drop_succ_cons, List.drop_zero]
      replace E3 := E3.drw
      iterate 2 (first | (refine wpPlan_still (v := ?_) (Or.inl ⟨by rfl, ?_⟩) ?_; rotate_left; (focus (intro W hW; (try dsimp only at hW); go_split_ands; go_simp; try with_reducible rfl)); try simp only [Act.put, List.setIfInBounds_toArray, List.set_cons_zero, List.set_cons_succ]) | (refine wpPlan_still (Or.inr ⟨by rfl, rfl⟩) ?_; try simp only [Act.put, List.setIfInBounds_toArray, List.set_cons_zero, List.set_cons_succ]))
      refine wpPlan_only (fun K hK => ?_)
      try go_simp
      (go_at_call 116; (with_reducible refine (hx _).mono ?_); rintro X wq ⟨rfl, hb⟩)
      replace E3 := E3.on hb
      clear hb
      refine hK.out _ _ (s_dv E3) ?_
      clear hK K
      try simp only [Act.put, List.setIfInBounds_toArray, List.set_cons_zero, List.set_cons_succ]
      refine wpPlan_only (fun K hK => ?_)
      try go_simp
      (go_at_call 115; (with_reducible refine (hp _).mono ?_); rintro X wq ⟨rfl, hb⟩)
      replace E3 := E3.on hb
      clear hb
      refine hK.out _ _ (s_dv E3) ?_
      clear hK K
      try simp only [Act.put, List.setIfInBounds_toArray, List.set_cons_zero, List.set_cons_succ]
      refine wpPlan_end ?_
      replace C3 := E3.cells
      simp [BC, CF] at C3
      go_upto_region 9 with fail
      replace E3 := E3.put2 (.int .i64 a1) (.int .i64 b1) 0 rfl
      simp only [numB] at E3
      generalize ((wq.setCell ⟨w1.heap.size, 0, none⟩ (.int .i64 a1)).setCell ⟨w1.heap.size, 1, none⟩ (.int .i64 b1)) = w5 at *
      replace E3 : Env w1 w5 [⟨w1.heap.size, 153, #[.int .i64 a1, .int .i64 b1]⟩] := E3
      replace C3 := E3.cells
      simp [BC, CF] at C3
      clear d2 hx hp
      by_cases h0 : k = 0
      · obtain ⟨rfl, rfl⟩ := HE2.out h0
        subst h0
        go_wp2
        go_roundw
        · exact ⟨1, by simp, hlt, by rw [show DA 1 = a1 from HA2.out, show DB 1 = b1 from HB2.out]; exact E3⟩
        · simp [intOf]; omega
      · have t1 : decide ((k : Int) > 0) = true := by simp; omega
        have t2 : decide ((0 : Int) < (k : Int)) = true := by simp; omega
        have t3 : decide (0 < k) = true := by simp; omega
        have t4 : 0 < k := by omega
        have hq := HE1.out t4
        go_upto_region 10 with fail
        refine wp_region_plan 5 [(0, true), (1, true), (2, false), (3, false), (4, false)] (fun W' => Env w1 W' [⟨w1.heap.size, 153, #[.int .i64 a1, .int .i64 b1]⟩] ∧ W'.cell? ⟨w1.heap.size, 0, none⟩ = some (.int .i64 a1) ∧ W'.cell? ⟨w1.heap.size, 1, none⟩ = some (.int .i64 b1)) (by kernel_rfl) (by kernel_rfl) (fun _ _ d _ _ h => by cases d <;> exact h) (s_dv E3.drw) ?_
        simp only [List.filterMap_cons, List.filterMap_nil, List.getElem?_cons_zero, List.getElem?_cons_succ, Option.map_some, List.drop_succ_cons, List.drop_zero]
        replace E3 := E3.drw
        iterate 2 (first | (refine wpPlan_still (v := ?_) (Or.inl ⟨by rfl, ?_⟩) ?_; rotate_left; (focus (intro W hW; (try dsimp only at hW); go_split_ands; go_simp; try with_reducible rfl)); try simp only [Act.put, List.setIfInBounds_toArray, List.set_cons_zero, List.set_cons_succ]) | (refine wpPlan_still (Or.inr ⟨by rfl, rfl⟩) ?_; try simp only [Act.put, List.setIfInBounds_toArray, List.set_cons_zero, List.set_cons_succ]))
        refine wpPlan_only (fun K hK => ?_)
        try go_simp
        (go_at_call 117; (with_reducible refine (hA _).mono ?_); rintro X wq ⟨rfl, hb⟩)
        replace E3 := E3.on hb
        clear hb
        refine hK.out _ _ (s_dv E3) ?_
        clear hK K
        try simp only [Act.put, List.setIfInBounds_toArray, List.set_cons_zero, List.set_cons_succ]
        refine wpPlan_only (fun K hK => ?_)
        try go_simp
        (go_at_call 118; (with_reducible refine (hN _).mono ?_); rintro X wq ⟨rfl, hb⟩)
        replace E3 := E3.on hb
        clear hb
        refine hK.out _ _ (s_dv E3) ?_
        clear hK K
        try simp only [Act.put, List.setIfInBounds_toArray, List.set_cons_zero, List.set_cons_succ]
        refine wpPlan_only (fun K hK => ?_)
        try go_simp
        (go_at_call 115; (with_reducible refine (hq _).mono ?_); rintro X wq ⟨rfl, hb⟩)
        replace E3 := E3.on hb
        clear hb
        refine hK.out _ _ (s_dv E3) ?_
        clear hK K
        try simp only [Act.put, List.setIfInBounds_toArray, List.set_cons_zero, List.set_cons_succ]
        refine wpPlan_end ?_
        replace C3 := E3.cells
        simp [BC, CF] at C3
        go_upto_region 11 with fail
        replace E3 := E3.put2 (.int .i64 a2) (.int .i64 b2) 0 rfl
        simp only [numB] at E3
        generalize ((wq.setCell ⟨w1.heap.size, 0, none⟩ (.int .i64 a2)).setCell ⟨w1.heap.size, 1, none⟩ (.int .i64 b2)) = w6 at *
        replace E3 : Env w1 w6 [⟨w1.heap.size, 153, #[.int .i64 a2, .int .i64 b2]⟩] := E3
        go_wp2
        go_roundw
        · exact ⟨k + 1, rfl, hlt, by rw [HA2.out, HB2.out]; exact E3⟩
        · simp [intOf]; omega
    · have g1 : decide ((k : Int) < (n : Int)) = false := by simp; omega
      obtain rfl : k = n := by omega
      rw [HE.out.1, HE.out.2] at E3 C3
      have E4 := EW.on E3.1
      have C4 := E4.cells
      simp [BC, CF] at C4
      go_wp2
      exact bodyPost_ret (v := .tuple #[.agg #[.int .i64 RL, .int .i64 RH], .int .i64 0]) (by simp [results, Tryz.results86, go_sem, *]) rfl ⟨rfl, envb2 (E4.put2 _ _ 0 rfl)⟩
end Go.Proofs.YthdafpbmmfelpaaGreatDoor
namespace Go.Proofs.YthdafpbmmfelpaaGreatDoor
open Go.ChangeShapes Go.WideShapes Go.ChangeAt Go.RowKit
set_option linter.unusedVariables false
set_option linter.unusedSimpArgs false

def cutB (b : Bar) : Int := (max (devH b) 1 + 4999).tdiv 5000 * 5
def massB (b : Bar) : Int := b.count * ms b.size (cutB b)
theorem cut_e {b : Bar} : cutB b = (max (devH b) 1 + 4999) / 5000 * 5 := by
  unfold cutB
  rw [Int.tdiv_eq_ediv_of_nonneg (by omega)]
theorem cut_bd {b : Bar} (h : barB b = true) : 5 ≤ cutB b ∧ cutB b ≤ 1048576 := by
  have := dev_bd h
  rw [cut_e]
  omega
theorem mass_bd {b : Bar} (h : barB b = true) : 0 ≤ massB b ∧ massB b ≤ 10343154000 := by
  have h1 := barB_and h
  have h2 := cut_bd h
  have h3 := (ms_b (n := cutB b) h1.2.2.2.2.1 (by omega) h2.2).2.2.2
  have h4 := h1.2.2.2.2.2
  unfold massB
  generalize ms b.size (cutB b) = m at *
  have e1 : b.count * m ≤ b.count * 10343154 := Int.mul_le_mul_of_nonneg_left h3.2 (by omega)
  have e2 : 0 ≤ b.count * m := Int.mul_nonneg (by omega) h3.1
  omega
set_option maxHeartbeats 8000000 in
set_option maxRecDepth 100000 in
theorem Cut_no (b : Bar) (w : World) (hk : b.Ok w) (hv : barB b = false) : Calls Tryz.prog 51 #[b.val] w fun e w' => e = .returned (.tuple #[.int .i64 0, .int .i64 1]) ∧ Below w.heap.size w w' := by
  have hL := fun W (h : Below w.heap.size w W) => Dev_no b W (hk.on h) hv
  have E := (Env.nil w).add w.heap.size 60 b.cs rfl
  have hcs : b.cs = #[.string b.mark, .int .i64 b.size, .int .i64 b.count, .int .i64 b.code, .slice b.p b.ds.length b.cap] := rfl
  have hvv : b.val = .agg b.cs := rfl
  rw [hcs] at E hvv
  rw [hvv] at hL ⊢
  unfold two at hL
  clear hk hv hcs hvv
  have C := E.cells
  simp [BC, CF] at C
  go_enter Tryz.func51, Tryz.ntmps51
  go_wp2_with (first
    | (go_at_call 86; (with_reducible refine (hL _ (envb E)).mono ?_); rintro X wq ⟨rfl, hb⟩; replace E := E.on hb; replace E := E.more (.cells #[.int .i64 0, .int .i64 0] 126); replace C := E.cells; simp [BC, CF] at C; clear hb))
  exact bodyPost_ret (v := .tuple #[.int .i64 0, .int .i64 1]) (by simp [results, Tryz.results51, go_sem]) rfl ⟨rfl, envb E⟩
set_option maxHeartbeats 8000000 in
set_option maxRecDepth 100000 in
theorem Cut_ok (b : Bar) (w : World) (hk : b.Ok w) (hv : barB b = true) : Calls Tryz.prog 51 #[b.val] w fun e w' => e = .returned (.tuple #[.int .i64 (cutB b), .int .i64 0]) ∧ Below w.heap.size w w' := by
  have hL := fun W (h : Below w.heap.size w W) => Dev_ok b W (hk.on h) hv
  have E := (Env.nil w).add w.heap.size 60 b.cs rfl
  have hd := (dev_bd hv).2
  have hu := fun W => rup5000 (max (devH b) 1) (by unfold Bd; omega) W
  have hc := cut_bd hv
  have e0 : (max (devH b) 1 + 4999).tdiv 5000 * 5 = cutB b := rfl
  have W1 : IntKind.i64.wrap ((max (devH b) 1 + 4999).tdiv 5000 * 5) = cutB b := by rw [e0]; exact IntWalk.i64_in _ (by omega)
  have hcs : b.cs = #[.string b.mark, .int .i64 b.size, .int .i64 b.count, .int .i64 b.code, .slice b.p b.ds.length b.cap] := rfl
  have hvv : b.val = .agg b.cs := rfl
  rw [hcs] at E hvv
  rw [hvv] at hL ⊢
  unfold two at hL
  clear hk hv hcs hvv hc e0
  generalize cutB b = cut at *
  generalize devL b = dl at *
  generalize devH b = dh at *
  have C := E.cells
  simp [BC, CF] at C
  go_enter Tryz.func51, Tryz.ntmps51
  go_wp2_with (first
    | (go_at_call 86; (with_reducible refine (hL _ (envb E)).mono ?_); rintro X wq ⟨rfl, hb⟩; replace E := E.on hb; have E2 := E.add wq.heap.size 126 #[.int .i64 dl, .int .i64 dh] rfl; replace C := E2.cells; simp [BC, CF] at C; clear hb)
    | (go_at_call 87; (with_reducible refine (hu _).mono ?_); rintro X wq ⟨rfl, rfl⟩))
  exact bodyPost_ret (v := .tuple #[.int .i64 cut, .int .i64 0]) (by simp [results, Tryz.results51, go_sem]) rfl ⟨rfl, envb E2⟩
def longB (b : Bar) : Bool := decide (20 < b.ds.length) || decide (60 < b.mark.size)
def rightB (b : Bar) : Bool := !longB b && barB b
end Go.Proofs.YthdafpbmmfelpaaGreatDoor
namespace Go.Proofs.YthdafpbmmfelpaaGreatDoor
open Go.ChangeShapes Go.WideShapes Go.ChangeAt Go.RowKit
set_option linter.unusedVariables false
set_option linter.unusedSimpArgs false

set_option maxHeartbeats 8000000 in
set_option maxRecDepth 100000 in
theorem rBends_ok (b : Bar) (w : World) (hk : b.Ok w) (hv : barB b = true) : Calls Tryz.prog 124 #[b.val] w fun e w' => e = .returned (.int .i64 ((nl b.code : Int) - 1)) ∧ Below w.heap.size w w' := by
  have hL : ∀ W, Below w.heap.size w W → Calls Tryz.prog 122 #[b.val] W fun e w' => ∃ q c, e = .returned (.slice q (nl b.code) c) ∧ Below W.heap.size W w' := fun W h => (rLegs_any b W (hk.on h) hv).mono fun e w' ⟨v, e1, hR, hb⟩ => by
    obtain ⟨q, c, rfl, -⟩ := hR
    rw [legs_len] at e1
    exact ⟨q, c, e1, hb⟩
  have W1 : IntKind.i64.wrap ((nl b.code : Int) - 1) = (nl b.code : Int) - 1 := IntWalk.i64_in _ (by have := nl_le (barB_and hv).1; omega)
  have E := (Env.nil w).add w.heap.size 60 b.cs rfl
  have hcs : b.cs = #[.string b.mark, .int .i64 b.size, .int .i64 b.count, .int .i64 b.code, .slice b.p b.ds.length b.cap] := rfl
  have hvv : b.val = .agg b.cs := rfl
  rw [hcs] at E hvv
  rw [hvv] at hL ⊢
  clear hk hv hcs hvv
  generalize nl b.code = n at *
  have C := E.cells
  simp [BC, CF] at C
  go_enter Tryz.func124, Tryz.ntmps124
  go_wp2_with (first
    | (go_at_call 122; (with_reducible refine (hL _ (envb E)).mono ?_); rintro X wq ⟨q, c, rfl, hb⟩; replace E := E.on hb; replace C := E.cells; simp [BC, CF] at C; clear hb))
  go_ret
  exact ⟨rfl, envb E⟩
theorem s_rd {w0 w : World} {b : Bar} {g h : Nat} {x y : Int} (E : Env w0 w [⟨g, 126, #[.int .i64 x, .int .i64 y]⟩, ⟨h + 1, 126, #[.int .i64 0, .int .i64 0]⟩, ⟨h, 60, #[.string b.mark, .int .i64 b.size, .int .i64 b.count, .int .i64 b.code, .slice b.p b.ds.length b.cap]⟩]) :
    Env w0 w [⟨g, 126, #[.int .i64 x, .int .i64 y]⟩, ⟨h + 1, 126, #[.int .i64 0, .int .i64 0]⟩, ⟨h, 60, #[.string b.mark, .int .i64 b.size, .int .i64 b.count, .int .i64 b.code, .slice b.p b.ds.length b.cap]⟩] ∧ w.cell? ⟨g, 0, none⟩ = some (.int .i64 x) ∧ w.cell? ⟨g, 1, none⟩ = some (.int .i64 y) ∧
      w.cell? ⟨h, 0, none⟩ = some (.string b.mark) ∧ w.cell? ⟨h, 1, none⟩ = some (.int .i64 b.size) ∧ w.cell? ⟨h, 2, none⟩ = some (.int .i64 b.count) ∧ w.cell? ⟨h, 3, none⟩ = some (.int .i64 b.code) ∧ w.cell? ⟨h, 4, none⟩ = some (.slice b.p b.ds.length b.cap) := by
  have C := E.cells
  simp [BC, CF] at C
  obtain ⟨⟨-, ⟨a0, -⟩, a1, -⟩, -, -, ⟨c0, -⟩, ⟨c1, -⟩, ⟨c2, -⟩, ⟨c3, -⟩, c4, -⟩ := C
  exact ⟨E, a0, a1, c0, c1, c2, c3, c4⟩
set_option maxHeartbeats 16000000 in
set_option maxRecDepth 100000 in
theorem rDev_ok (b : Bar) (w : World) (hk : b.Ok w) (hv : barB b = true) : Calls Tryz.prog 93 #[b.val] w fun e w' => e = .returned (two (devL b) (devH b)) ∧ Below w.heap.size w w' := by
  have hL := fun W (h : Below w.heap.size w W) => rLegs_any b W (hk.on h) hv
  have hB := fun W (h : Below w.heap.size w W) => rBends_ok b W (hk.on h) hv
  have hA := fun W => rAlw_ok b.size (barB_and hv).2.2.2.2.1 W
  have n6 := nl_le (barB_and hv).1
  have n0 := nl_pos (barB_and hv).1
  have hr := alwL_e (rd_bn (barB_and hv).2.2.2.2.1)
  have hd := dev_bd hv
  have e1 : devL b = 1000 * (legs b).sum - ((nl b.code : Int) - 1) * alwH (bn b.size) := rfl
  have e2 : devH b = 1000 * (legs b).sum - ((nl b.code : Int) - 1) * alwL (bn b.size) := rfl
  have hs := legs_sum hv
  have hz := (pt_sum hv _ (Nat.le_refl _)).2
  rw [List.take_of_length_le (by rw [legs_len]; omega)] at hz
  have m1 := six_mul (k := nl b.code) n6 (a := alwL (bn b.size)) (by omega)
  have m2 := six_mul (k := nl b.code) n6 (a := alwH (bn b.size)) (by omega)
  rw [show ((nl b.code - 1 : Nat) : Int) = (nl b.code : Int) - 1 by omega] at m1 m2
  have W1 : IntKind.i64.wrap (((nl b.code : Int) - 1) * alwL (bn b.size)) = ((nl b.code : Int) - 1) * alwL (bn b.size) := IntWalk.i64_in _ (by omega)
  have W2 : IntKind.i64.wrap (((nl b.code : Int) - 1) * alwH (bn b.size)) = ((nl b.code : Int) - 1) * alwH (bn b.size) := IntWalk.i64_in _ (by omega)
  have W3 : IntKind.i64.wrap (1000 * (legs b).sum - ((nl b.code : Int) - 1) * alwL (bn b.size)) = devH b := by rw [← e2]; exact IntWalk.i64_in _ (by omega)
  have W4 : IntKind.i64.wrap (1000 * (legs b).sum - ((nl b.code : Int) - 1) * alwH (bn b.size)) = devL b := by rw [← e1]; exact IntWalk.i64_in _ (by omega)
  have HS := Lib.hid (fun k (h : k < nl b.code) => show 1000 * ((legs b).take k).sum + 1000 * legF b k = 1000 * ((legs b).take (k + 1)).sum from by
    rw [List.take_succ_eq_append_getElem (by rw [legs_len]; omega), List.sum_append]
    have e : (legs b)[k]'(by rw [legs_len]; omega) = legF b k := by simp [legs]
    rw [e]; simp only [List.sum_cons, List.sum_nil]; omega)
  have HB := Lib.hid (fun k (h : k ≤ nl b.code) => show 0 ≤ ((legs b).take k).sum ∧ ((legs b).take k).sum ≤ 524288 from by
    have h1 := (pt_sum hv k h).2
    have h2 := take_le hv (nl b.code - k) (by omega)
    rw [show nl b.code - (nl b.code - k) = k by omega] at h2
    omega)
  have HF := Lib.hid (fun k (h : k < nl b.code) => leg_bd hv h)
  have HQ := Lib.hid (show legs b = (List.range (nl b.code)).map (legF b) from rfl)
  have HN := Lib.hid (legs_len b)
  have E := ((Env.nil w).add w.heap.size 60 b.cs rfl).add (w.heap.size + 1) 126 #[.int .i64 0, .int .i64 0] (by simp)
  have hcs : b.cs = #[.string b.mark, .int .i64 b.size, .int .i64 b.count, .int .i64 b.code, .slice b.p b.ds.length b.cap] := rfl
  have hvv : b.val = .agg b.cs := rfl
  rw [hcs] at E hvv
  rw [hvv] at hL hB ⊢
  unfold two at *
  clear hk hv hcs hvv hr hd e1 e2 m1 m2
  generalize alwL (bn b.size) = aL at *
  generalize alwH (bn b.size) = aH at *
  generalize devL b = RL at *
  generalize devH b = RH at *
  generalize legs b = LS at *
  generalize legF b = lf at *
  generalize (nl b.code : Int) - 1 = N1 at *
  generalize nl b.code = n at *
  generalize ((nl b.code : Nat) : Int) - 1 = N1 at *
  generalize N1 * aL = NL at *
  generalize N1 * aH = NH at *
  have C := E.cells
  simp [BC, CF] at C
  go_enter Tryz.func93, Tryz.ntmps93
  go_upto_region 2 with (go_at_call 122; (with_reducible refine (hL _ (envb E)).mono ?_); rintro X w1 ⟨v, rfl, hR, hb⟩; obtain ⟨q, c, rfl, hr⟩ := hR; replace E := E.on hb; replace C := E.cells; simp [BC, CF] at C; clear hb)
  have HR := Lib.hid hr
  clear hr
  rw [HN.out]
  go_wp2
  go_loop [4, 5] (fun v4 v5 => ∃ k : Nat, v4 = .int .i64 (1000 * (LS.take k).sum) ∧ v5 = .int .i64 k ∧ k ≤ n) (fun _ v => n - (intOf v).toNat)
  case atStart => exact ⟨0, by simp, rfl, Nat.zero_le _⟩
  case round =>
    obtain ⟨k, rfl, rfl, hk⟩ := hrel
    by_cases hlt : k < n
    · have g1 : decide ((k : Int) < (n : Int)) = true := by simp [hlt]
      have W5 : IntKind.i64.wrap ((k : Int) + 1) = ((k + 1 : Nat) : Int) := by rw [IntWalk.i64_in _ (by omega)]; omega
      have q1 : (0 : Int) ≤ (k : Int) := by omega
      have q2 : (k : Int) < (n : Int) := by omega
      obtain ⟨a, rfl, d0⟩ := HR.out k (by rw [HN.out]; omega)
      rw [show LS[k]'(by rw [HN.out]; omega) = lf k by simp [HQ.out]] at d0
      have f1 := HF.out k hlt
      have f2 := HB.out k hk
      have s := HS.out k hlt
      have f3 := HB.out (k + 1) hlt
      have W6 : IntKind.i64.wrap (1000 * lf k) = 1000 * lf k := IntWalk.i64_in _ (by omega)
      have W7 : IntKind.i64.wrap (1000 * (LS.take k).sum + 1000 * lf k) = 1000 * (LS.take (k + 1)).sum := by rw [s]; exact IntWalk.i64_in _ (by omega)
      clear s f1 f2 f3
      generalize 1000 * (LS.take k).sum = u at *
      go_wp2
      exact ⟨⟨k + 1, rfl, rfl, hlt⟩, by simp [intOf]; omega⟩
    · have g1 : decide ((k : Int) < (n : Int)) = false := by simp; omega
      obtain rfl : k = n := by omega
      rw [List.take_of_length_le (by rw [HN.out]; omega)]
      generalize 1000 * LS.sum = u at *
      go_upto_region 8 with (go_at_call 123; (with_reducible refine (hA _).mono ?_); rintro X wq ⟨rfl, hb⟩; replace E := E.on hb; replace E := E.add wq.heap.size 126 #[.int .i64 aL, .int .i64 aH] rfl; clear hb)
      obtain ⟨gs, hgs⟩ : ∃ g, wq.heap.size = g := ⟨_, rfl⟩
      rw [hgs] at E ⊢
      replace hgs := Lib.hid hgs
      refine wp_region_plan 15 [(0, true), (1, true), (3, true), (4, true), (7, true), (8, true), (10, true), (11, true), (2, false), (5, true), (6, true), (9, false), (12, true), (13, true), (14, true)] (fun W' => Env w W' [⟨gs, 126, #[.int .i64 aL, .int .i64 aH]⟩, ⟨w.heap.size + 1, 126, #[.int .i64 0, .int .i64 0]⟩, ⟨w.heap.size, 60, #[.string b.mark, .int .i64 b.size, .int .i64 b.count, .int .i64 b.code, .slice b.p b.ds.length b.cap]⟩] ∧ W'.cell? ⟨gs, 0, none⟩ = some (.int .i64 aL) ∧ W'.cell? ⟨gs, 1, none⟩ = some (.int .i64 aH) ∧ W'.cell? ⟨w.heap.size, 0, none⟩ = some (.string b.mark) ∧ W'.cell? ⟨w.heap.size, 1, none⟩ = some (.int .i64 b.size) ∧ W'.cell? ⟨w.heap.size, 2, none⟩ = some (.int .i64 b.count) ∧ W'.cell? ⟨w.heap.size, 3, none⟩ = some (.int .i64 b.code) ∧ W'.cell? ⟨w.heap.size, 4, none⟩ = some (.slice b.p b.ds.length b.cap)) (by kernel_rfl) (by kernel_rfl) (fun _ _ d _ _ h => by cases d <;> exact h) (s_rd E.drw) ?_
      simp only [List.filterMap_cons, List.filterMap_nil, List.getElem?_cons_zero, List.getElem?_cons_succ, Option.map_some, List.drop_succ_cons, List.drop_zero]
      replace E := E.drw
      iterate 8 (first | (refine wpPlan_still (v := ?_) (Or.inl ⟨by rfl, ?_⟩) ?_; rotate_left; (focus (intro W hW; (try dsimp only at hW); go_split_ands; go_simp; try with_reducible rfl)); try simp only [Act.put, List.setIfInBounds_toArray, List.set_cons_zero, List.set_cons_succ]) | (refine wpPlan_still (Or.inr ⟨by rfl, rfl⟩) ?_; try simp only [Act.put, List.setIfInBounds_toArray, List.set_cons_zero, List.set_cons_succ]))
      refine wpPlan_only (fun K hK => ?_)
      try go_simp
      (go_at_call 124; (with_reducible refine (hB _ (envb E)).mono ?_); rintro X wq ⟨rfl, hb⟩)
      replace E := E.on hb
      clear hb
      refine hK.out _ _ (s_rd E) ?_
      clear hK K
      try simp only [Act.put, List.setIfInBounds_toArray, List.set_cons_zero, List.set_cons_succ]
      iterate 2 (first | (refine wpPlan_still (v := ?_) (Or.inl ⟨by rfl, ?_⟩) ?_; rotate_left; (focus (intro W hW; (try dsimp only at hW); go_split_ands; go_simp; try with_reducible rfl)); try simp only [Act.put, List.setIfInBounds_toArray, List.set_cons_zero, List.set_cons_succ]) | (refine wpPlan_still (Or.inr ⟨by rfl, rfl⟩) ?_; try simp only [Act.put, List.setIfInBounds_toArray, List.set_cons_zero, List.set_cons_succ]))
      refine wpPlan_only (fun K hK => ?_)
      try go_simp
      (go_at_call 124; (with_reducible refine (hB _ (envb E)).mono ?_); rintro X wq ⟨rfl, hb⟩)
      replace E := E.on hb
      clear hb
      refine hK.out _ _ (s_rd E) ?_
      clear hK K
      try simp only [Act.put, List.setIfInBounds_toArray, List.set_cons_zero, List.set_cons_succ]
      iterate 3 (first | (refine wpPlan_still (v := ?_) (Or.inl ⟨by rfl, ?_⟩) ?_; rotate_left; (focus (intro W hW; (try dsimp only at hW); go_split_ands; go_simp; try with_reducible rfl)); try simp only [Act.put, List.setIfInBounds_toArray, List.set_cons_zero, List.set_cons_succ]) | (refine wpPlan_still (Or.inr ⟨by rfl, rfl⟩) ?_; try simp only [Act.put, List.setIfInBounds_toArray, List.set_cons_zero, List.set_cons_succ]))
      refine wpPlan_end ?_
      replace C := E.cells
      simp [BC, CF] at C
      go_wp2_with fail
      exact bodyPost_ret (v := .agg #[.int .i64 RL, .int .i64 RH]) (by simp [results, Tryz.results93, go_sem, *]) rfl ⟨rfl, envb2 (E.put2 _ _ 1 rfl)⟩
end Go.Proofs.YthdafpbmmfelpaaGreatDoor
namespace Go.Proofs.YthdafpbmmfelpaaGreatDoor
open Go.ChangeShapes Go.WideShapes Go.ChangeAt Go.RowKit
set_option linter.unusedVariables false
set_option linter.unusedSimpArgs false

theorem fld24 (a b : Value) (W : World) : Sem.run Tryz.prog (Instr.field 126 (.agg #[a, b]) 1) W = .ok b W := by
  simp [Instr.field, go_sem, Program.fieldsOf, Tryz.underlying126]
  rfl
set_option maxHeartbeats 8000000 in
set_option maxRecDepth 100000 in
theorem rCut_ok (b : Bar) (w : World) (hk : b.Ok w) (hv : barB b = true) : Calls Tryz.prog 56 #[b.val] w fun e w' => e = .returned (.int .i64 (cutB b)) ∧ Below w.heap.size w w' := by
  have hL := fun W (h : Below w.heap.size w W) => rDev_ok b W (hk.on h) hv
  have hfd := fun a b W => fld24 a b W
  have E := (Env.nil w).add w.heap.size 60 b.cs rfl
  have hd := (dev_bd hv).2
  have hc := cut_bd hv
  have e0 : (max (devH b) 1 + 4999).tdiv 5000 * 5 = cutB b := rfl
  have hcs : b.cs = #[.string b.mark, .int .i64 b.size, .int .i64 b.count, .int .i64 b.code, .slice b.p b.ds.length b.cap] := rfl
  have hvv : b.val = .agg b.cs := rfl
  rw [hcs] at E hvv
  rw [hvv] at hL ⊢
  unfold two at hL
  clear hk hv hcs hvv
  have C := E.cells
  simp [BC, CF] at C
  by_cases h0 : 0 < devH b
  · rw [show max (devH b) 1 = devH b by omega] at e0
    have W0 : IntKind.i64.wrap (devH b + 4999) = devH b + 4999 := IntWalk.i64_in _ (by omega)
    have W1 : IntKind.i64.wrap ((devH b + 4999).tdiv 5000) = (devH b + 4999).tdiv 5000 := IntWalk.i64_in _ (by omega)
    have W2 : IntKind.i64.wrap ((devH b + 4999).tdiv 5000 * 5) = cutB b := by rw [e0]; exact IntWalk.i64_in _ (by omega)
    have W3 : max 5 (cutB b) = cutB b := by omega
    have g0 : decide (devH b > 0) = true := by simp [h0]
    have g1 : decide (0 < devH b) = true := by simp [h0]
    clear e0 h0 hd hc
    generalize cutB b = cut at *
    generalize devL b = dl at *
    generalize devH b = dh at *
    go_enter Tryz.func56, Tryz.ntmps56
    go_wp2_with (first
      | (go_at_call 93; (with_reducible refine (hL _ (envb E)).mono ?_); rintro X wq ⟨rfl, hb⟩; replace E := E.on hb; replace C := E.cells; simp [BC, CF] at C; clear hb))
    go_ret
    exact ⟨rfl, envb E⟩
  · rw [show max (devH b) 1 = 1 by omega] at e0
    have e1 : cutB b = 5 := e0.symm
    have g0 : decide (devH b > 0) = false := by simp; omega
    have g1 : decide (0 < devH b) = false := by simp; omega
    rw [e1]
    clear e0 e1 hd hc
    generalize devL b = dl at *
    generalize devH b = dh at *
    go_enter Tryz.func56, Tryz.ntmps56
    go_wp2_with (first
      | (go_at_call 93; (with_reducible refine (hL _ (envb E)).mono ?_); rintro X wq ⟨rfl, hb⟩; replace E := E.on hb; replace C := E.cells; simp [BC, CF] at C; clear hb))
    go_ret
    exact ⟨rfl, envb E⟩
theorem s_bk {w0 w : World} {b : Bar} {h : Nat} (E : Env w0 w [⟨h, 60, #[.string b.mark, .int .i64 b.size, .int .i64 b.count, .int .i64 b.code, .slice b.p b.ds.length b.cap]⟩]) :
    Env w0 w [⟨h, 60, #[.string b.mark, .int .i64 b.size, .int .i64 b.count, .int .i64 b.code, .slice b.p b.ds.length b.cap]⟩] ∧ w.cell? ⟨h, 0, none⟩ = some (.string b.mark) ∧ w.cell? ⟨h, 1, none⟩ = some (.int .i64 b.size) ∧ w.cell? ⟨h, 2, none⟩ = some (.int .i64 b.count) ∧ w.cell? ⟨h, 3, none⟩ = some (.int .i64 b.code) ∧ w.cell? ⟨h, 4, none⟩ = some (.slice b.p b.ds.length b.cap) := by
  have C := E.cells
  simp [BC, CF] at C
  obtain ⟨-, ⟨c0, -⟩, ⟨c1, -⟩, ⟨c2, -⟩, ⟨c3, -⟩, c4, -⟩ := C
  exact ⟨E, c0, c1, c2, c3, c4⟩
def tot (l : List Int) : Int := l.sum
def xb (g : Nat) : Bar := ⟨⟨#[97]⟩, 12, 1, 11, some ⟨g, 0, none⟩, [300, 400], 2⟩
theorem xb_ok (g : Nat) : barB (xb g) = true := by kernel_rfl
theorem xb_legs (g : Nat) : legs (xb g) = [300, 400] := by kernel_rfl
theorem xb_dev (g : Nat) : devL (xb g) = 687122 ∧ devH (xb g) = 687124 := by
  unfold devL devH
  rw [xb_legs]
  exact ⟨by kernel_rfl, by kernel_rfl⟩
theorem xb_cut (g : Nat) : cutB (xb g) = 690 := by
  unfold cutB
  rw [(xb_dev g).2]
  rfl
theorem rdz_has {w : World} {g : Nat} {l : List Int} {cap : Nat} (h : Has w g 3 (l.map (Value.int .i64)).toArray) : Rdz w (.slice (some ⟨g, 0, none⟩) l.length cap) l := by
  refine ⟨_, cap, rfl, fun j hj => ⟨_, rfl, ?_⟩⟩
  rw [Addr.add_lit, Nat.zero_add, Has.read h]
  simp [hj]
end Go.Proofs.YthdafpbmmfelpaaGreatDoor
