/- The reference: Valid; Short. -/
import Derived.Test.YthphgppgdlimeaaLg
import Derived.Test.YthphgppgdlimeaaPl
import Derived.Deep.CutBlock
namespace Go.Proofs.Ythphgppgdlimeaa
open Go.ChangeShapes Go.WideShapes Go.ChangeAt Go.RowKit
set_option linter.unusedVariables false
set_option linter.unusedSimpArgs false

def posB (l : List Int) : Bool := l.all fun x => decide (1 ≤ x)
def okL (l : List Int) : Bool := l.all fun x => decide (1 ≤ x) && decide (x ≤ 1048576)
theorem pos_sum : ∀ l : List Int, posB l = true → 0 ≤ l.sum
  | [], _ => by simp
  | x :: r, h => by
    simp only [posB, List.all_cons, Bool.and_eq_true, decide_eq_true_eq] at h
    have := pos_sum r h.2
    simp only [List.sum_cons]; omega
theorem fit_pos : ∀ (l : List Int) (b : Int), 0 ≤ b → fitB b l = (posB l && decide (l.sum ≤ b))
  | [], b, h => by
    have e : decide (([] : List Int).sum ≤ b) = true := decide_eq_true h
    rw [e]; rfl
  | x :: r, b, h => by
    by_cases h1 : 1 ≤ x
    · by_cases h2 : x ≤ b
      · have e := fit_pos r (b - x) (by omega)
        have e2 : decide (r.sum ≤ b - x) = decide (x + r.sum ≤ b) := by simp only [decide_eq_decide]; omega
        simp only [fitB, e, posB, List.all_cons, List.sum_cons, h1, h2, decide_true, Bool.true_and]
        exact congrArg _ e2
      · simp only [fitB, h2, decide_false, Bool.and_false, Bool.false_and]
        cases k : posB (x :: r)
        · rfl
        · have k' := k
          simp only [posB, List.all_cons, Bool.and_eq_true, decide_eq_true_eq] at k
          have := pos_sum r k.2
          have e : decide ((x :: r).sum ≤ b) = false := decide_eq_false (by rw [List.sum_cons]; omega)
          rw [e]; rfl
    · simp [fitB, posB, h1]
theorem fit_ok (l : List Int) : fitB 262144 l = (okL l && decide (l.sum ≤ 262144)) := by
  rw [fit_pos l _ (by omega)]
  cases k : okL l
  · cases k2 : posB l
    · rfl
    · have : ∃ x ∈ l, 1048576 < x := by
        obtain ⟨x, hx, h⟩ := List.all_eq_false.1 k
        have h1 := List.all_eq_true.1 k2 x hx
        refine ⟨x, hx, ?_⟩
        simp only [decide_eq_true_eq] at h1
        simp only [Bool.and_eq_true, decide_eq_true_eq] at h
        omega
      obtain ⟨x, hx, h⟩ := this
      have hs : x ≤ l.sum := by
        clear k h
        induction l with
        | nil => cases hx
        | cons y r ih =>
          have k3 := k2
          simp only [posB, List.all_cons, Bool.and_eq_true, decide_eq_true_eq] at k2
          have := pos_sum r k2.2
          simp only [List.sum_cons]
          rcases List.mem_cons.1 hx with rfl | hx
          · omega
          · have := ih k2.2 hx; omega
      simp; omega
  · have k2 : posB l = true := List.all_eq_true.2 fun x hx => by
      have := List.all_eq_true.1 k x hx
      simp only [Bool.and_eq_true] at this; exact this.1
    rw [k2]
theorem okL_step {l : List Int} {k : Nat} (hk : k < l.length) (h : okL (l.take k) = true) : okL (l.take (k + 1)) = (decide (1 ≤ l[k]) && decide (l[k] ≤ 1048576)) := by
  unfold okL at *
  rw [List.take_succ_eq_append_getElem hk, List.all_append, h]; simp
theorem okL_take {l : List Int} (k : Nat) (h : okL (l.take k) = false) : okL l = false := by
  unfold okL at *
  rw [← List.take_append_drop k l, List.all_append, h]; rfl
theorem s_rv {w W : World} {mk : ByteArray} {sz ct cd : Int} {p : Option Addr} {ds : List Int} {cap : Nat} (E : Env w W [⟨w.heap.size, 32, #[.string mk, .int .i64 sz, .int .i64 ct, .int .i64 cd, .slice p ds.length cap]⟩]) : Env w W [⟨w.heap.size, 32, #[.string mk, .int .i64 sz, .int .i64 ct, .int .i64 cd, .slice p ds.length cap]⟩] ∧ W.cell? ⟨w.heap.size, 0, none⟩ = some (.string mk) ∧ W.cell? ⟨w.heap.size, 1, none⟩ = some (.int .i64 sz) ∧ W.cell? ⟨w.heap.size, 2, none⟩ = some (.int .i64 ct) ∧ W.cell? ⟨w.heap.size, 3, none⟩ = some (.int .i64 cd) ∧ W.cell? ⟨w.heap.size, 4, none⟩ = some (.slice p ds.length cap) := by
  have C := E.cells
  simp [BC, CF] at C
  exact ⟨E, C.2.1.1, C.2.2.1.1, C.2.2.2.1.1, C.2.2.2.2.1.1, C.2.2.2.2.2.1⟩
set_option maxHeartbeats 16000000 in
set_option maxRecDepth 100000 in
theorem rValid_any (b : Bar) (w : World) (hk : b.Ok w) : Calls Try.prog 21 #[b.val] w fun e w' => e = .returned (.bool (barB b)) ∧ Below w.heap.size w w' := by
  have hD := fun W => rdims_any b.code W
  have hN := fun W => Dec.risName_any b.mark W hk.nm
  have hS := fun W => riz_any b.size W
  have E := (Env.nil w).add w.heap.size 32 b.cs rfl
  have e0 : nmB b = Dec.nameB b.mark.data.toList := rfl
  rw [← e0] at hN
  have hz := @ndim_zero b.code
  have hle := ndim_le b.code
  have hd := hk.rd
  unfold Bar.sv at hd
  obtain ⟨q, c0, e1, hd⟩ := hd
  simp only [Value.slice.injEq] at e1
  obtain ⟨rfl, -, rfl⟩ := e1
  have HD := Lib.hid hd
  have HF := Lib.hid (fit_ok b.ds)
  unfold barB
  generalize nmB b = NM at *
  generalize isz b.size = SZ at *
  generalize fitB 262144 b.ds = FT at *
  generalize ndim b.code = n at *
  generalize isC b.code = IC at *
  obtain ⟨mk, sz, ct, cd, p, ds, cap⟩ := b
  simp only [Bar.sv, Bar.cs, Bar.val] at *
  clear e0 hk hd
  have C := E.cells
  simp [BC, CF] at C
  cases NM
  · simp only [Bool.false_and, Bool.and_false]
    go_enter Try.func21, Try.ntmps21
    go_upto_region 1 with fail
    refine wp_region_plan 34 [(0, true), (1, true), (2, false), (3, true), (4, true), (5, true), (6, true), (7, false), (8, true), (9, true), (10, true), (11, true), (12, true), (13, true), (14, true), (15, true), (16, true), (17, true), (18, true), (19, true), (20, true), (21, true), (22, true), (23, false), (24, true), (25, true), (26, true), (27, true), (28, true), (29, true), (30, true), (31, true), (32, false), (33, true)] (fun W' => Env w W' [⟨w.heap.size, 32, #[.string mk, .int .i64 sz, .int .i64 ct, .int .i64 cd, .slice p ds.length cap]⟩] ∧ W'.cell? ⟨w.heap.size, 0, none⟩ = some (.string mk) ∧ W'.cell? ⟨w.heap.size, 1, none⟩ = some (.int .i64 sz) ∧ W'.cell? ⟨w.heap.size, 2, none⟩ = some (.int .i64 ct) ∧ W'.cell? ⟨w.heap.size, 3, none⟩ = some (.int .i64 cd) ∧ W'.cell? ⟨w.heap.size, 4, none⟩ = some (.slice p ds.length cap)) (by kernel_rfl) (by kernel_rfl) (fun _ _ d _ _ h => by cases d <;> exact h) (s_rv E.drw) ?_
    simp only [List.filterMap_cons, List.filterMap_nil, List.getElem?_cons_zero, List.getElem?_cons_succ, Option.map_some, List.drop_succ_cons, List.drop_zero]
    replace E := E.drw
    iterate 2 (first | (refine wpPlan_still (v := ?_) (Or.inl ⟨by rfl, ?_⟩) ?_; rotate_left; (focus (intro W hW; (try dsimp only at hW); go_split_ands; go_simp; try with_reducible rfl)); try simp only [Act.put, List.setIfInBounds_toArray, List.set_cons_zero, List.set_cons_succ]) | (refine wpPlan_still (Or.inr ⟨by rfl, rfl⟩) ?_; try simp only [Act.put, List.setIfInBounds_toArray, List.set_cons_zero, List.set_cons_succ]))
    refine wpPlan_only (fun K hK => ?_)
    first
      | (rw [if_neg (by exact Bool.false_ne_true)]; refine hK.out _ _ (s_rv E) ?_; clear hK K; try simp only [Act.put, List.setIfInBounds_toArray, List.set_cons_zero, List.set_cons_succ])
      | (try go_simp
         go_at_call 50
         (with_reducible refine (hN _).mono ?_)
         rintro X wp1 ⟨rfl, rfl⟩
         skip
         refine hK.out _ _ (s_rv E) ?_
         clear hK K
         try simp only [Act.put, List.setIfInBounds_toArray, List.set_cons_zero, List.set_cons_succ])
    iterate 4 (first | (refine wpPlan_still (v := ?_) (Or.inl ⟨by rfl, ?_⟩) ?_; rotate_left; (focus (intro W hW; (try dsimp only at hW); go_split_ands; go_simp; try with_reducible rfl)); try simp only [Act.put, List.setIfInBounds_toArray, List.set_cons_zero, List.set_cons_succ]) | (refine wpPlan_still (Or.inr ⟨by rfl, rfl⟩) ?_; try simp only [Act.put, List.setIfInBounds_toArray, List.set_cons_zero, List.set_cons_succ]))
    refine wpPlan_only (fun K hK => ?_)
    first
      | (rw [if_neg (by exact Bool.false_ne_true)]; refine hK.out _ _ (s_rv E) ?_; clear hK K; try simp only [Act.put, List.setIfInBounds_toArray, List.set_cons_zero, List.set_cons_succ])
      | (try go_simp
         go_at_call 13
         (with_reducible refine (hS _).mono ?_)
         rintro X wp1 ⟨rfl, hb⟩
         replace E := E.on hb; clear hb
         refine hK.out _ _ (s_rv E) ?_
         clear hK K
         try simp only [Act.put, List.setIfInBounds_toArray, List.set_cons_zero, List.set_cons_succ])
    iterate 15 (first | (refine wpPlan_still (v := ?_) (Or.inl ⟨by rfl, ?_⟩) ?_; rotate_left; (focus (intro W hW; (try dsimp only at hW); go_split_ands; go_simp; try with_reducible rfl)); try simp only [Act.put, List.setIfInBounds_toArray, List.set_cons_zero, List.set_cons_succ]) | (refine wpPlan_still (Or.inr ⟨by rfl, rfl⟩) ?_; try simp only [Act.put, List.setIfInBounds_toArray, List.set_cons_zero, List.set_cons_succ]))
    refine wpPlan_only (fun K hK => ?_)
    first
      | (rw [if_neg (by exact Bool.false_ne_true)]; refine hK.out _ _ (s_rv E) ?_; clear hK K; try simp only [Act.put, List.setIfInBounds_toArray, List.set_cons_zero, List.set_cons_succ])
      | (try go_simp
         go_at_call 51
         (with_reducible refine (hD _).mono ?_)
         rintro X wp1 ⟨rfl, rfl⟩
         skip
         refine hK.out _ _ (s_rv E) ?_
         clear hK K
         try simp only [Act.put, List.setIfInBounds_toArray, List.set_cons_zero, List.set_cons_succ])
    iterate 8 (first | (refine wpPlan_still (v := ?_) (Or.inl ⟨by rfl, ?_⟩) ?_; rotate_left; (focus (intro W hW; (try dsimp only at hW); go_split_ands; go_simp; try with_reducible rfl)); try simp only [Act.put, List.setIfInBounds_toArray, List.set_cons_zero, List.set_cons_succ]) | (refine wpPlan_still (Or.inr ⟨by rfl, rfl⟩) ?_; try simp only [Act.put, List.setIfInBounds_toArray, List.set_cons_zero, List.set_cons_succ]))
    refine wpPlan_only (fun K hK => ?_)
    first
      | (rw [if_neg (by exact Bool.false_ne_true)]; refine hK.out _ _ (s_rv E) ?_; clear hK K; try simp only [Act.put, List.setIfInBounds_toArray, List.set_cons_zero, List.set_cons_succ])
      | (try go_simp
         go_at_call 51
         (with_reducible refine (hD _).mono ?_)
         rintro X wp1 ⟨rfl, rfl⟩
         skip
         refine hK.out _ _ (s_rv E) ?_
         clear hK K
         try simp only [Act.put, List.setIfInBounds_toArray, List.set_cons_zero, List.set_cons_succ])
    iterate 1 (first | (refine wpPlan_still (v := ?_) (Or.inl ⟨by rfl, ?_⟩) ?_; rotate_left; (focus (intro W hW; (try dsimp only at hW); go_split_ands; go_simp; try with_reducible rfl)); try simp only [Act.put, List.setIfInBounds_toArray, List.set_cons_zero, List.set_cons_succ]) | (refine wpPlan_still (Or.inr ⟨by rfl, rfl⟩) ?_; try simp only [Act.put, List.setIfInBounds_toArray, List.set_cons_zero, List.set_cons_succ]))
    refine wpPlan_end ?_
    replace C := E.cells
    simp [BC, CF] at C
    go_wp2_with fail
    go_ret
    exact ⟨rfl, E.1⟩
  cases SZ
  · simp only [Bool.false_and, Bool.and_false]
    go_enter Try.func21, Try.ntmps21
    go_upto_region 1 with fail
    refine wp_region_plan 34 [(0, true), (1, true), (2, false), (3, true), (4, true), (5, true), (6, true), (7, false), (8, true), (9, true), (10, true), (11, true), (12, true), (13, true), (14, true), (15, true), (16, true), (17, true), (18, true), (19, true), (20, true), (21, true), (22, true), (23, false), (24, true), (25, true), (26, true), (27, true), (28, true), (29, true), (30, true), (31, true), (32, false), (33, true)] (fun W' => Env w W' [⟨w.heap.size, 32, #[.string mk, .int .i64 sz, .int .i64 ct, .int .i64 cd, .slice p ds.length cap]⟩] ∧ W'.cell? ⟨w.heap.size, 0, none⟩ = some (.string mk) ∧ W'.cell? ⟨w.heap.size, 1, none⟩ = some (.int .i64 sz) ∧ W'.cell? ⟨w.heap.size, 2, none⟩ = some (.int .i64 ct) ∧ W'.cell? ⟨w.heap.size, 3, none⟩ = some (.int .i64 cd) ∧ W'.cell? ⟨w.heap.size, 4, none⟩ = some (.slice p ds.length cap)) (by kernel_rfl) (by kernel_rfl) (fun _ _ d _ _ h => by cases d <;> exact h) (s_rv E.drw) ?_
    simp only [List.filterMap_cons, List.filterMap_nil, List.getElem?_cons_zero, List.getElem?_cons_succ, Option.map_some, List.drop_succ_cons, List.drop_zero]
    replace E := E.drw
    iterate 2 (first | (refine wpPlan_still (v := ?_) (Or.inl ⟨by rfl, ?_⟩) ?_; rotate_left; (focus (intro W hW; (try dsimp only at hW); go_split_ands; go_simp; try with_reducible rfl)); try simp only [Act.put, List.setIfInBounds_toArray, List.set_cons_zero, List.set_cons_succ]) | (refine wpPlan_still (Or.inr ⟨by rfl, rfl⟩) ?_; try simp only [Act.put, List.setIfInBounds_toArray, List.set_cons_zero, List.set_cons_succ]))
    refine wpPlan_only (fun K hK => ?_)
    first
      | (rw [if_neg (by exact Bool.false_ne_true)]; refine hK.out _ _ (s_rv E) ?_; clear hK K; try simp only [Act.put, List.setIfInBounds_toArray, List.set_cons_zero, List.set_cons_succ])
      | (try go_simp
         go_at_call 50
         (with_reducible refine (hN _).mono ?_)
         rintro X wp1 ⟨rfl, rfl⟩
         skip
         refine hK.out _ _ (s_rv E) ?_
         clear hK K
         try simp only [Act.put, List.setIfInBounds_toArray, List.set_cons_zero, List.set_cons_succ])
    iterate 4 (first | (refine wpPlan_still (v := ?_) (Or.inl ⟨by rfl, ?_⟩) ?_; rotate_left; (focus (intro W hW; (try dsimp only at hW); go_split_ands; go_simp; try with_reducible rfl)); try simp only [Act.put, List.setIfInBounds_toArray, List.set_cons_zero, List.set_cons_succ]) | (refine wpPlan_still (Or.inr ⟨by rfl, rfl⟩) ?_; try simp only [Act.put, List.setIfInBounds_toArray, List.set_cons_zero, List.set_cons_succ]))
    refine wpPlan_only (fun K hK => ?_)
    first
      | (rw [if_neg (by exact Bool.false_ne_true)]; refine hK.out _ _ (s_rv E) ?_; clear hK K; try simp only [Act.put, List.setIfInBounds_toArray, List.set_cons_zero, List.set_cons_succ])
      | (try go_simp
         go_at_call 13
         (with_reducible refine (hS _).mono ?_)
         rintro X wp1 ⟨rfl, hb⟩
         replace E := E.on hb; clear hb
         refine hK.out _ _ (s_rv E) ?_
         clear hK K
         try simp only [Act.put, List.setIfInBounds_toArray, List.set_cons_zero, List.set_cons_succ])
    iterate 15 (first | (refine wpPlan_still (v := ?_) (Or.inl ⟨by rfl, ?_⟩) ?_; rotate_left; (focus (intro W hW; (try dsimp only at hW); go_split_ands; go_simp; try with_reducible rfl)); try simp only [Act.put, List.setIfInBounds_toArray, List.set_cons_zero, List.set_cons_succ]) | (refine wpPlan_still (Or.inr ⟨by rfl, rfl⟩) ?_; try simp only [Act.put, List.setIfInBounds_toArray, List.set_cons_zero, List.set_cons_succ]))
    refine wpPlan_only (fun K hK => ?_)
    first
      | (rw [if_neg (by exact Bool.false_ne_true)]; refine hK.out _ _ (s_rv E) ?_; clear hK K; try simp only [Act.put, List.setIfInBounds_toArray, List.set_cons_zero, List.set_cons_succ])
      | (try go_simp
         go_at_call 51
         (with_reducible refine (hD _).mono ?_)
         rintro X wp1 ⟨rfl, rfl⟩
         skip
         refine hK.out _ _ (s_rv E) ?_
         clear hK K
         try simp only [Act.put, List.setIfInBounds_toArray, List.set_cons_zero, List.set_cons_succ])
    iterate 8 (first | (refine wpPlan_still (v := ?_) (Or.inl ⟨by rfl, ?_⟩) ?_; rotate_left; (focus (intro W hW; (try dsimp only at hW); go_split_ands; go_simp; try with_reducible rfl)); try simp only [Act.put, List.setIfInBounds_toArray, List.set_cons_zero, List.set_cons_succ]) | (refine wpPlan_still (Or.inr ⟨by rfl, rfl⟩) ?_; try simp only [Act.put, List.setIfInBounds_toArray, List.set_cons_zero, List.set_cons_succ]))
    refine wpPlan_only (fun K hK => ?_)
    first
      | (rw [if_neg (by exact Bool.false_ne_true)]; refine hK.out _ _ (s_rv E) ?_; clear hK K; try simp only [Act.put, List.setIfInBounds_toArray, List.set_cons_zero, List.set_cons_succ])
      | (try go_simp
         go_at_call 51
         (with_reducible refine (hD _).mono ?_)
         rintro X wp1 ⟨rfl, rfl⟩
         skip
         refine hK.out _ _ (s_rv E) ?_
         clear hK K
         try simp only [Act.put, List.setIfInBounds_toArray, List.set_cons_zero, List.set_cons_succ])
    iterate 1 (first | (refine wpPlan_still (v := ?_) (Or.inl ⟨by rfl, ?_⟩) ?_; rotate_left; (focus (intro W hW; (try dsimp only at hW); go_split_ands; go_simp; try with_reducible rfl)); try simp only [Act.put, List.setIfInBounds_toArray, List.set_cons_zero, List.set_cons_succ]) | (refine wpPlan_still (Or.inr ⟨by rfl, rfl⟩) ?_; try simp only [Act.put, List.setIfInBounds_toArray, List.set_cons_zero, List.set_cons_succ]))
    refine wpPlan_end ?_
    replace C := E.cells
    simp [BC, CF] at C
    go_wp2_with fail
    go_ret
    exact ⟨rfl, E.1⟩
  cases h1 : decide (1 ≤ ct)
  · simp only [Bool.false_and, Bool.and_false]
    have t1 : decide (ct < 1) = true := by simp at h1 ⊢; omega
    clear h1
    go_enter Try.func21, Try.ntmps21
    go_upto_region 1 with fail
    refine wp_region_plan 34 [(0, true), (1, true), (2, false), (3, true), (4, true), (5, true), (6, true), (7, false), (8, true), (9, true), (10, true), (11, true), (12, true), (13, true), (14, true), (15, true), (16, true), (17, true), (18, true), (19, true), (20, true), (21, true), (22, true), (23, false), (24, true), (25, true), (26, true), (27, true), (28, true), (29, true), (30, true), (31, true), (32, false), (33, true)] (fun W' => Env w W' [⟨w.heap.size, 32, #[.string mk, .int .i64 sz, .int .i64 ct, .int .i64 cd, .slice p ds.length cap]⟩] ∧ W'.cell? ⟨w.heap.size, 0, none⟩ = some (.string mk) ∧ W'.cell? ⟨w.heap.size, 1, none⟩ = some (.int .i64 sz) ∧ W'.cell? ⟨w.heap.size, 2, none⟩ = some (.int .i64 ct) ∧ W'.cell? ⟨w.heap.size, 3, none⟩ = some (.int .i64 cd) ∧ W'.cell? ⟨w.heap.size, 4, none⟩ = some (.slice p ds.length cap)) (by kernel_rfl) (by kernel_rfl) (fun _ _ d _ _ h => by cases d <;> exact h) (s_rv E.drw) ?_
    simp only [List.filterMap_cons, List.filterMap_nil, List.getElem?_cons_zero, List.getElem?_cons_succ, Option.map_some, List.drop_succ_cons, List.drop_zero]
    replace E := E.drw
    iterate 2 (first | (refine wpPlan_still (v := ?_) (Or.inl ⟨by rfl, ?_⟩) ?_; rotate_left; (focus (intro W hW; (try dsimp only at hW); go_split_ands; go_simp; try with_reducible rfl)); try simp only [Act.put, List.setIfInBounds_toArray, List.set_cons_zero, List.set_cons_succ]) | (refine wpPlan_still (Or.inr ⟨by rfl, rfl⟩) ?_; try simp only [Act.put, List.setIfInBounds_toArray, List.set_cons_zero, List.set_cons_succ]))
    refine wpPlan_only (fun K hK => ?_)
    first
      | (rw [if_neg (by exact Bool.false_ne_true)]; refine hK.out _ _ (s_rv E) ?_; clear hK K; try simp only [Act.put, List.setIfInBounds_toArray, List.set_cons_zero, List.set_cons_succ])
      | (try go_simp
         go_at_call 50
         (with_reducible refine (hN _).mono ?_)
         rintro X wp1 ⟨rfl, rfl⟩
         skip
         refine hK.out _ _ (s_rv E) ?_
         clear hK K
         try simp only [Act.put, List.setIfInBounds_toArray, List.set_cons_zero, List.set_cons_succ])
    iterate 4 (first | (refine wpPlan_still (v := ?_) (Or.inl ⟨by rfl, ?_⟩) ?_; rotate_left; (focus (intro W hW; (try dsimp only at hW); go_split_ands; go_simp; try with_reducible rfl)); try simp only [Act.put, List.setIfInBounds_toArray, List.set_cons_zero, List.set_cons_succ]) | (refine wpPlan_still (Or.inr ⟨by rfl, rfl⟩) ?_; try simp only [Act.put, List.setIfInBounds_toArray, List.set_cons_zero, List.set_cons_succ]))
    refine wpPlan_only (fun K hK => ?_)
    first
      | (rw [if_neg (by exact Bool.false_ne_true)]; refine hK.out _ _ (s_rv E) ?_; clear hK K; try simp only [Act.put, List.setIfInBounds_toArray, List.set_cons_zero, List.set_cons_succ])
      | (try go_simp
         go_at_call 13
         (with_reducible refine (hS _).mono ?_)
         rintro X wp1 ⟨rfl, hb⟩
         replace E := E.on hb; clear hb
         refine hK.out _ _ (s_rv E) ?_
         clear hK K
         try simp only [Act.put, List.setIfInBounds_toArray, List.set_cons_zero, List.set_cons_succ])
    iterate 15 (first | (refine wpPlan_still (v := ?_) (Or.inl ⟨by rfl, ?_⟩) ?_; rotate_left; (focus (intro W hW; (try dsimp only at hW); go_split_ands; go_simp; try with_reducible rfl)); try simp only [Act.put, List.setIfInBounds_toArray, List.set_cons_zero, List.set_cons_succ]) | (refine wpPlan_still (Or.inr ⟨by rfl, rfl⟩) ?_; try simp only [Act.put, List.setIfInBounds_toArray, List.set_cons_zero, List.set_cons_succ]))
    refine wpPlan_only (fun K hK => ?_)
    first
      | (rw [if_neg (by exact Bool.false_ne_true)]; refine hK.out _ _ (s_rv E) ?_; clear hK K; try simp only [Act.put, List.setIfInBounds_toArray, List.set_cons_zero, List.set_cons_succ])
      | (try go_simp
         go_at_call 51
         (with_reducible refine (hD _).mono ?_)
         rintro X wp1 ⟨rfl, rfl⟩
         skip
         refine hK.out _ _ (s_rv E) ?_
         clear hK K
         try simp only [Act.put, List.setIfInBounds_toArray, List.set_cons_zero, List.set_cons_succ])
    iterate 8 (first | (refine wpPlan_still (v := ?_) (Or.inl ⟨by rfl, ?_⟩) ?_; rotate_left; (focus (intro W hW; (try dsimp only at hW); go_split_ands; go_simp; try with_reducible rfl)); try simp only [Act.put, List.setIfInBounds_toArray, List.set_cons_zero, List.set_cons_succ]) | (refine wpPlan_still (Or.inr ⟨by rfl, rfl⟩) ?_; try simp only [Act.put, List.setIfInBounds_toArray, List.set_cons_zero, List.set_cons_succ]))
    refine wpPlan_only (fun K hK => ?_)
    first
      | (rw [if_neg (by exact Bool.false_ne_true)]; refine hK.out _ _ (s_rv E) ?_; clear hK K; try simp only [Act.put, List.setIfInBounds_toArray, List.set_cons_zero, List.set_cons_succ])
      | (try go_simp
         go_at_call 51
         (with_reducible refine (hD _).mono ?_)
         rintro X wp1 ⟨rfl, rfl⟩
         skip
         refine hK.out _ _ (s_rv E) ?_
         clear hK K
         try simp only [Act.put, List.setIfInBounds_toArray, List.set_cons_zero, List.set_cons_succ])
    iterate 1 (first | (refine wpPlan_still (v := ?_) (Or.inl ⟨by rfl, ?_⟩) ?_; rotate_left; (focus (intro W hW; (try dsimp only at hW); go_split_ands; go_simp; try with_reducible rfl)); try simp only [Act.put, List.setIfInBounds_toArray, List.set_cons_zero, List.set_cons_succ]) | (refine wpPlan_still (Or.inr ⟨by rfl, rfl⟩) ?_; try simp only [Act.put, List.setIfInBounds_toArray, List.set_cons_zero, List.set_cons_succ]))
    refine wpPlan_end ?_
    replace C := E.cells
    simp [BC, CF] at C
    go_wp2_with fail
    go_ret
    exact ⟨rfl, E.1⟩
  have t1 : decide (ct < 1) = false := by simp at h1 ⊢; omega
  cases h2 : decide (ct ≤ 1000)
  · simp only [Bool.and_false]
    have t2 : decide (ct > 1000) = true := by simp at h2 ⊢; omega
    have t3 : decide (1000 < ct) = true := t2
    clear h2
    go_enter Try.func21, Try.ntmps21
    go_upto_region 1 with fail
    refine wp_region_plan 34 [(0, true), (1, true), (2, false), (3, true), (4, true), (5, true), (6, true), (7, false), (8, true), (9, true), (10, true), (11, true), (12, true), (13, true), (14, true), (15, true), (16, true), (17, true), (18, true), (19, true), (20, true), (21, true), (22, true), (23, false), (24, true), (25, true), (26, true), (27, true), (28, true), (29, true), (30, true), (31, true), (32, false), (33, true)] (fun W' => Env w W' [⟨w.heap.size, 32, #[.string mk, .int .i64 sz, .int .i64 ct, .int .i64 cd, .slice p ds.length cap]⟩] ∧ W'.cell? ⟨w.heap.size, 0, none⟩ = some (.string mk) ∧ W'.cell? ⟨w.heap.size, 1, none⟩ = some (.int .i64 sz) ∧ W'.cell? ⟨w.heap.size, 2, none⟩ = some (.int .i64 ct) ∧ W'.cell? ⟨w.heap.size, 3, none⟩ = some (.int .i64 cd) ∧ W'.cell? ⟨w.heap.size, 4, none⟩ = some (.slice p ds.length cap)) (by kernel_rfl) (by kernel_rfl) (fun _ _ d _ _ h => by cases d <;> exact h) (s_rv E.drw) ?_
    simp only [List.filterMap_cons, List.filterMap_nil, List.getElem?_cons_zero, List.getElem?_cons_succ, Option.map_some, List.drop_succ_cons, List.drop_zero]
    replace E := E.drw
    iterate 2 (first | (refine wpPlan_still (v := ?_) (Or.inl ⟨by rfl, ?_⟩) ?_; rotate_left; (focus (intro W hW; (try dsimp only at hW); go_split_ands; go_simp; try with_reducible rfl)); try simp only [Act.put, List.setIfInBounds_toArray, List.set_cons_zero, List.set_cons_succ]) | (refine wpPlan_still (Or.inr ⟨by rfl, rfl⟩) ?_; try simp only [Act.put, List.setIfInBounds_toArray, List.set_cons_zero, List.set_cons_succ]))
    refine wpPlan_only (fun K hK => ?_)
    first
      | (rw [if_neg (by exact Bool.false_ne_true)]; refine hK.out _ _ (s_rv E) ?_; clear hK K; try simp only [Act.put, List.setIfInBounds_toArray, List.set_cons_zero, List.set_cons_succ])
      | (try go_simp
         go_at_call 50
         (with_reducible refine (hN _).mono ?_)
         rintro X wp1 ⟨rfl, rfl⟩
         skip
         refine hK.out _ _ (s_rv E) ?_
         clear hK K
         try simp only [Act.put, List.setIfInBounds_toArray, List.set_cons_zero, List.set_cons_succ])
    iterate 4 (first | (refine wpPlan_still (v := ?_) (Or.inl ⟨by rfl, ?_⟩) ?_; rotate_left; (focus (intro W hW; (try dsimp only at hW); go_split_ands; go_simp; try with_reducible rfl)); try simp only [Act.put, List.setIfInBounds_toArray, List.set_cons_zero, List.set_cons_succ]) | (refine wpPlan_still (Or.inr ⟨by rfl, rfl⟩) ?_; try simp only [Act.put, List.setIfInBounds_toArray, List.set_cons_zero, List.set_cons_succ]))
    refine wpPlan_only (fun K hK => ?_)
    first
      | (rw [if_neg (by exact Bool.false_ne_true)]; refine hK.out _ _ (s_rv E) ?_; clear hK K; try simp only [Act.put, List.setIfInBounds_toArray, List.set_cons_zero, List.set_cons_succ])
      | (try go_simp
         go_at_call 13
         (with_reducible refine (hS _).mono ?_)
         rintro X wp1 ⟨rfl, hb⟩
         replace E := E.on hb; clear hb
         refine hK.out _ _ (s_rv E) ?_
         clear hK K
         try simp only [Act.put, List.setIfInBounds_toArray, List.set_cons_zero, List.set_cons_succ])
    iterate 15 (first | (refine wpPlan_still (v := ?_) (Or.inl ⟨by rfl, ?_⟩) ?_; rotate_left; (focus (intro W hW; (try dsimp only at hW); go_split_ands; go_simp; try with_reducible rfl)); try simp only [Act.put, List.setIfInBounds_toArray, List.set_cons_zero, List.set_cons_succ]) | (refine wpPlan_still (Or.inr ⟨by rfl, rfl⟩) ?_; try simp only [Act.put, List.setIfInBounds_toArray, List.set_cons_zero, List.set_cons_succ]))
    refine wpPlan_only (fun K hK => ?_)
    first
      | (rw [if_neg (by exact Bool.false_ne_true)]; refine hK.out _ _ (s_rv E) ?_; clear hK K; try simp only [Act.put, List.setIfInBounds_toArray, List.set_cons_zero, List.set_cons_succ])
      | (try go_simp
         go_at_call 51
         (with_reducible refine (hD _).mono ?_)
         rintro X wp1 ⟨rfl, rfl⟩
         skip
         refine hK.out _ _ (s_rv E) ?_
         clear hK K
         try simp only [Act.put, List.setIfInBounds_toArray, List.set_cons_zero, List.set_cons_succ])
    iterate 8 (first | (refine wpPlan_still (v := ?_) (Or.inl ⟨by rfl, ?_⟩) ?_; rotate_left; (focus (intro W hW; (try dsimp only at hW); go_split_ands; go_simp; try with_reducible rfl)); try simp only [Act.put, List.setIfInBounds_toArray, List.set_cons_zero, List.set_cons_succ]) | (refine wpPlan_still (Or.inr ⟨by rfl, rfl⟩) ?_; try simp only [Act.put, List.setIfInBounds_toArray, List.set_cons_zero, List.set_cons_succ]))
    refine wpPlan_only (fun K hK => ?_)
    first
      | (rw [if_neg (by exact Bool.false_ne_true)]; refine hK.out _ _ (s_rv E) ?_; clear hK K; try simp only [Act.put, List.setIfInBounds_toArray, List.set_cons_zero, List.set_cons_succ])
      | (try go_simp
         go_at_call 51
         (with_reducible refine (hD _).mono ?_)
         rintro X wp1 ⟨rfl, rfl⟩
         skip
         refine hK.out _ _ (s_rv E) ?_
         clear hK K
         try simp only [Act.put, List.setIfInBounds_toArray, List.set_cons_zero, List.set_cons_succ])
    iterate 1 (first | (refine wpPlan_still (v := ?_) (Or.inl ⟨by rfl, ?_⟩) ?_; rotate_left; (focus (intro W hW; (try dsimp only at hW); go_split_ands; go_simp; try with_reducible rfl)); try simp only [Act.put, List.setIfInBounds_toArray, List.set_cons_zero, List.set_cons_succ]) | (refine wpPlan_still (Or.inr ⟨by rfl, rfl⟩) ?_; try simp only [Act.put, List.setIfInBounds_toArray, List.set_cons_zero, List.set_cons_succ]))
    refine wpPlan_end ?_
    replace C := E.cells
    simp [BC, CF] at C
    go_wp2_with fail
    go_ret
    exact ⟨rfl, E.1⟩
  have t2 : decide (ct > 1000) = false := by simp at h2 ⊢; omega
  have t3 : decide (1000 < ct) = false := t2
  cases IC
  · simp only [Bool.false_and]
    have e := hz.2 rfl
    subst e
    clear h1 h2 hz
    go_enter Try.func21, Try.ntmps21
    go_upto_region 1 with fail
    refine wp_region_plan 34 [(0, true), (1, true), (2, false), (3, true), (4, true), (5, true), (6, true), (7, false), (8, true), (9, true), (10, true), (11, true), (12, true), (13, true), (14, true), (15, true), (16, true), (17, true), (18, true), (19, true), (20, true), (21, true), (22, true), (23, false), (24, true), (25, true), (26, true), (27, true), (28, true), (29, true), (30, true), (31, true), (32, false), (33, true)] (fun W' => Env w W' [⟨w.heap.size, 32, #[.string mk, .int .i64 sz, .int .i64 ct, .int .i64 cd, .slice p ds.length cap]⟩] ∧ W'.cell? ⟨w.heap.size, 0, none⟩ = some (.string mk) ∧ W'.cell? ⟨w.heap.size, 1, none⟩ = some (.int .i64 sz) ∧ W'.cell? ⟨w.heap.size, 2, none⟩ = some (.int .i64 ct) ∧ W'.cell? ⟨w.heap.size, 3, none⟩ = some (.int .i64 cd) ∧ W'.cell? ⟨w.heap.size, 4, none⟩ = some (.slice p ds.length cap)) (by kernel_rfl) (by kernel_rfl) (fun _ _ d _ _ h => by cases d <;> exact h) (s_rv E.drw) ?_
    simp only [List.filterMap_cons, List.filterMap_nil, List.getElem?_cons_zero, List.getElem?_cons_succ, Option.map_some, List.drop_succ_cons, List.drop_zero]
    replace E := E.drw
    iterate 2 (first | (refine wpPlan_still (v := ?_) (Or.inl ⟨by rfl, ?_⟩) ?_; rotate_left; (focus (intro W hW; (try dsimp only at hW); go_split_ands; go_simp; try with_reducible rfl)); try simp only [Act.put, List.setIfInBounds_toArray, List.set_cons_zero, List.set_cons_succ]) | (refine wpPlan_still (Or.inr ⟨by rfl, rfl⟩) ?_; try simp only [Act.put, List.setIfInBounds_toArray, List.set_cons_zero, List.set_cons_succ]))
    refine wpPlan_only (fun K hK => ?_)
    first
      | (rw [if_neg (by exact Bool.false_ne_true)]; refine hK.out _ _ (s_rv E) ?_; clear hK K; try simp only [Act.put, List.setIfInBounds_toArray, List.set_cons_zero, List.set_cons_succ])
      | (try go_simp
         go_at_call 50
         (with_reducible refine (hN _).mono ?_)
         rintro X wp1 ⟨rfl, rfl⟩
         skip
         refine hK.out _ _ (s_rv E) ?_
         clear hK K
         try simp only [Act.put, List.setIfInBounds_toArray, List.set_cons_zero, List.set_cons_succ])
    iterate 4 (first | (refine wpPlan_still (v := ?_) (Or.inl ⟨by rfl, ?_⟩) ?_; rotate_left; (focus (intro W hW; (try dsimp only at hW); go_split_ands; go_simp; try with_reducible rfl)); try simp only [Act.put, List.setIfInBounds_toArray, List.set_cons_zero, List.set_cons_succ]) | (refine wpPlan_still (Or.inr ⟨by rfl, rfl⟩) ?_; try simp only [Act.put, List.setIfInBounds_toArray, List.set_cons_zero, List.set_cons_succ]))
    refine wpPlan_only (fun K hK => ?_)
    first
      | (rw [if_neg (by exact Bool.false_ne_true)]; refine hK.out _ _ (s_rv E) ?_; clear hK K; try simp only [Act.put, List.setIfInBounds_toArray, List.set_cons_zero, List.set_cons_succ])
      | (try go_simp
         go_at_call 13
         (with_reducible refine (hS _).mono ?_)
         rintro X wp1 ⟨rfl, hb⟩
         replace E := E.on hb; clear hb
         refine hK.out _ _ (s_rv E) ?_
         clear hK K
         try simp only [Act.put, List.setIfInBounds_toArray, List.set_cons_zero, List.set_cons_succ])
    iterate 15 (first | (refine wpPlan_still (v := ?_) (Or.inl ⟨by rfl, ?_⟩) ?_; rotate_left; (focus (intro W hW; (try dsimp only at hW); go_split_ands; go_simp; try with_reducible rfl)); try simp only [Act.put, List.setIfInBounds_toArray, List.set_cons_zero, List.set_cons_succ]) | (refine wpPlan_still (Or.inr ⟨by rfl, rfl⟩) ?_; try simp only [Act.put, List.setIfInBounds_toArray, List.set_cons_zero, List.set_cons_succ]))
    refine wpPlan_only (fun K hK => ?_)
    first
      | (rw [if_neg (by exact Bool.false_ne_true)]; refine hK.out _ _ (s_rv E) ?_; clear hK K; try simp only [Act.put, List.setIfInBounds_toArray, List.set_cons_zero, List.set_cons_succ])
      | (try go_simp
         go_at_call 51
         (with_reducible refine (hD _).mono ?_)
         rintro X wp1 ⟨rfl, rfl⟩
         skip
         refine hK.out _ _ (s_rv E) ?_
         clear hK K
         try simp only [Act.put, List.setIfInBounds_toArray, List.set_cons_zero, List.set_cons_succ])
    iterate 8 (first | (refine wpPlan_still (v := ?_) (Or.inl ⟨by rfl, ?_⟩) ?_; rotate_left; (focus (intro W hW; (try dsimp only at hW); go_split_ands; go_simp; try with_reducible rfl)); try simp only [Act.put, List.setIfInBounds_toArray, List.set_cons_zero, List.set_cons_succ]) | (refine wpPlan_still (Or.inr ⟨by rfl, rfl⟩) ?_; try simp only [Act.put, List.setIfInBounds_toArray, List.set_cons_zero, List.set_cons_succ]))
    refine wpPlan_only (fun K hK => ?_)
    first
      | (rw [if_neg (by exact Bool.false_ne_true)]; refine hK.out _ _ (s_rv E) ?_; clear hK K; try simp only [Act.put, List.setIfInBounds_toArray, List.set_cons_zero, List.set_cons_succ])
      | (try go_simp
         go_at_call 51
         (with_reducible refine (hD _).mono ?_)
         rintro X wp1 ⟨rfl, rfl⟩
         skip
         refine hK.out _ _ (s_rv E) ?_
         clear hK K
         try simp only [Act.put, List.setIfInBounds_toArray, List.set_cons_zero, List.set_cons_succ])
    iterate 1 (first | (refine wpPlan_still (v := ?_) (Or.inl ⟨by rfl, ?_⟩) ?_; rotate_left; (focus (intro W hW; (try dsimp only at hW); go_split_ands; go_simp; try with_reducible rfl)); try simp only [Act.put, List.setIfInBounds_toArray, List.set_cons_zero, List.set_cons_succ]) | (refine wpPlan_still (Or.inr ⟨by rfl, rfl⟩) ?_; try simp only [Act.put, List.setIfInBounds_toArray, List.set_cons_zero, List.set_cons_succ]))
    refine wpPlan_end ?_
    replace C := E.cells
    simp [BC, CF] at C
    go_wp2_with fail
    go_ret
    exact ⟨rfl, E.1⟩
  have hn : ((n : Int) == 0) = false := by
    have : ¬ n = 0 := fun k => by have := hz.1 k; cases this
    simp; omega
  cases hl : (ds.length == n)
  · simp only [Bool.false_and, Bool.and_false]
    have q1 : ((ds.length : Int) != (n : Int)) = true := by simp at hl ⊢; omega
    clear h1 h2 hz hl
    go_enter Try.func21, Try.ntmps21
    go_upto_region 1 with fail
    refine wp_region_plan 34 [(0, true), (1, true), (2, false), (3, true), (4, true), (5, true), (6, true), (7, false), (8, true), (9, true), (10, true), (11, true), (12, true), (13, true), (14, true), (15, true), (16, true), (17, true), (18, true), (19, true), (20, true), (21, true), (22, true), (23, false), (24, true), (25, true), (26, true), (27, true), (28, true), (29, true), (30, true), (31, true), (32, false), (33, true)] (fun W' => Env w W' [⟨w.heap.size, 32, #[.string mk, .int .i64 sz, .int .i64 ct, .int .i64 cd, .slice p ds.length cap]⟩] ∧ W'.cell? ⟨w.heap.size, 0, none⟩ = some (.string mk) ∧ W'.cell? ⟨w.heap.size, 1, none⟩ = some (.int .i64 sz) ∧ W'.cell? ⟨w.heap.size, 2, none⟩ = some (.int .i64 ct) ∧ W'.cell? ⟨w.heap.size, 3, none⟩ = some (.int .i64 cd) ∧ W'.cell? ⟨w.heap.size, 4, none⟩ = some (.slice p ds.length cap)) (by kernel_rfl) (by kernel_rfl) (fun _ _ d _ _ h => by cases d <;> exact h) (s_rv E.drw) ?_
    simp only [List.filterMap_cons, List.filterMap_nil, List.getElem?_cons_zero, List.getElem?_cons_succ, Option.map_some, List.drop_succ_cons, List.drop_zero]
    replace E := E.drw
    iterate 2 (first | (refine wpPlan_still (v := ?_) (Or.inl ⟨by rfl, ?_⟩) ?_; rotate_left; (focus (intro W hW; (try dsimp only at hW); go_split_ands; go_simp; try with_reducible rfl)); try simp only [Act.put, List.setIfInBounds_toArray, List.set_cons_zero, List.set_cons_succ]) | (refine wpPlan_still (Or.inr ⟨by rfl, rfl⟩) ?_; try simp only [Act.put, List.setIfInBounds_toArray, List.set_cons_zero, List.set_cons_succ]))
    refine wpPlan_only (fun K hK => ?_)
    first
      | (rw [if_neg (by exact Bool.false_ne_true)]; refine hK.out _ _ (s_rv E) ?_; clear hK K; try simp only [Act.put, List.setIfInBounds_toArray, List.set_cons_zero, List.set_cons_succ])
      | (try go_simp
         go_at_call 50
         (with_reducible refine (hN _).mono ?_)
         rintro X wp1 ⟨rfl, rfl⟩
         skip
         refine hK.out _ _ (s_rv E) ?_
         clear hK K
         try simp only [Act.put, List.setIfInBounds_toArray, List.set_cons_zero, List.set_cons_succ])
    iterate 4 (first | (refine wpPlan_still (v := ?_) (Or.inl ⟨by rfl, ?_⟩) ?_; rotate_left; (focus (intro W hW; (try dsimp only at hW); go_split_ands; go_simp; try with_reducible rfl)); try simp only [Act.put, List.setIfInBounds_toArray, List.set_cons_zero, List.set_cons_succ]) | (refine wpPlan_still (Or.inr ⟨by rfl, rfl⟩) ?_; try simp only [Act.put, List.setIfInBounds_toArray, List.set_cons_zero, List.set_cons_succ]))
    refine wpPlan_only (fun K hK => ?_)
    first
      | (rw [if_neg (by exact Bool.false_ne_true)]; refine hK.out _ _ (s_rv E) ?_; clear hK K; try simp only [Act.put, List.setIfInBounds_toArray, List.set_cons_zero, List.set_cons_succ])
      | (try go_simp
         go_at_call 13
         (with_reducible refine (hS _).mono ?_)
         rintro X wp1 ⟨rfl, hb⟩
         replace E := E.on hb; clear hb
         refine hK.out _ _ (s_rv E) ?_
         clear hK K
         try simp only [Act.put, List.setIfInBounds_toArray, List.set_cons_zero, List.set_cons_succ])
    iterate 15 (first | (refine wpPlan_still (v := ?_) (Or.inl ⟨by rfl, ?_⟩) ?_; rotate_left; (focus (intro W hW; (try dsimp only at hW); go_split_ands; go_simp; try with_reducible rfl)); try simp only [Act.put, List.setIfInBounds_toArray, List.set_cons_zero, List.set_cons_succ]) | (refine wpPlan_still (Or.inr ⟨by rfl, rfl⟩) ?_; try simp only [Act.put, List.setIfInBounds_toArray, List.set_cons_zero, List.set_cons_succ]))
    refine wpPlan_only (fun K hK => ?_)
    first
      | (rw [if_neg (by exact Bool.false_ne_true)]; refine hK.out _ _ (s_rv E) ?_; clear hK K; try simp only [Act.put, List.setIfInBounds_toArray, List.set_cons_zero, List.set_cons_succ])
      | (try go_simp
         go_at_call 51
         (with_reducible refine (hD _).mono ?_)
         rintro X wp1 ⟨rfl, rfl⟩
         skip
         refine hK.out _ _ (s_rv E) ?_
         clear hK K
         try simp only [Act.put, List.setIfInBounds_toArray, List.set_cons_zero, List.set_cons_succ])
    iterate 8 (first | (refine wpPlan_still (v := ?_) (Or.inl ⟨by rfl, ?_⟩) ?_; rotate_left; (focus (intro W hW; (try dsimp only at hW); go_split_ands; go_simp; try with_reducible rfl)); try simp only [Act.put, List.setIfInBounds_toArray, List.set_cons_zero, List.set_cons_succ]) | (refine wpPlan_still (Or.inr ⟨by rfl, rfl⟩) ?_; try simp only [Act.put, List.setIfInBounds_toArray, List.set_cons_zero, List.set_cons_succ]))
    refine wpPlan_only (fun K hK => ?_)
    first
      | (rw [if_neg (by exact Bool.false_ne_true)]; refine hK.out _ _ (s_rv E) ?_; clear hK K; try simp only [Act.put, List.setIfInBounds_toArray, List.set_cons_zero, List.set_cons_succ])
      | (try go_simp
         go_at_call 51
         (with_reducible refine (hD _).mono ?_)
         rintro X wp1 ⟨rfl, rfl⟩
         skip
         refine hK.out _ _ (s_rv E) ?_
         clear hK K
         try simp only [Act.put, List.setIfInBounds_toArray, List.set_cons_zero, List.set_cons_succ])
    iterate 1 (first | (refine wpPlan_still (v := ?_) (Or.inl ⟨by rfl, ?_⟩) ?_; rotate_left; (focus (intro W hW; (try dsimp only at hW); go_split_ands; go_simp; try with_reducible rfl)); try simp only [Act.put, List.setIfInBounds_toArray, List.set_cons_zero, List.set_cons_succ]) | (refine wpPlan_still (Or.inr ⟨by rfl, rfl⟩) ?_; try simp only [Act.put, List.setIfInBounds_toArray, List.set_cons_zero, List.set_cons_succ]))
    refine wpPlan_end ?_
    replace C := E.cells
    simp [BC, CF] at C
    go_wp2_with fail
    go_ret
    exact ⟨rfl, E.1⟩
  have hl' := Lib.hid (show ds.length = n by simpa using hl)
  have q1 : ((ds.length : Int) != (n : Int)) = false := by have := hl'.out; simp; omega
  simp only [Bool.true_and, Bool.and_true]
  clear h1 h2 hz hl
  go_enter Try.func21, Try.ntmps21
  go_upto_region 1 with fail
  refine wp_region_plan 34 [(0, true), (1, true), (2, false), (3, true), (4, true), (5, true), (6, true), (7, false), (8, true), (9, true), (10, true), (11, true), (12, true), (13, true), (14, true), (15, true), (16, true), (17, true), (18, true), (19, true), (20, true), (21, true), (22, true), (23, false), (24, true), (25, true), (26, true), (27, true), (28, true), (29, true), (30, true), (31, true), (32, false), (33, true)] (fun W' => Env w W' [⟨w.heap.size, 32, #[.string mk, .int .i64 sz, .int .i64 ct, .int .i64 cd, .slice p ds.length cap]⟩] ∧ W'.cell? ⟨w.heap.size, 0, none⟩ = some (.string mk) ∧ W'.cell? ⟨w.heap.size, 1, none⟩ = some (.int .i64 sz) ∧ W'.cell? ⟨w.heap.size, 2, none⟩ = some (.int .i64 ct) ∧ W'.cell? ⟨w.heap.size, 3, none⟩ = some (.int .i64 cd) ∧ W'.cell? ⟨w.heap.size, 4, none⟩ = some (.slice p ds.length cap)) (by kernel_rfl) (by kernel_rfl) (fun _ _ d _ _ h => by cases d <;> exact h) (s_rv E.drw) ?_
  simp only [List.filterMap_cons, List.filterMap_nil, List.getElem?_cons_zero, List.getElem?_cons_succ, Option.map_some, List.drop_succ_cons, List.drop_zero]
  replace E := E.drw
  iterate 2 (first | (refine wpPlan_still (v := ?_) (Or.inl ⟨by rfl, ?_⟩) ?_; rotate_left; (focus (intro W hW; (try dsimp only at hW); go_split_ands; go_simp; try with_reducible rfl)); try simp only [Act.put, List.setIfInBounds_toArray, List.set_cons_zero, List.set_cons_succ]) | (refine wpPlan_still (Or.inr ⟨by rfl, rfl⟩) ?_; try simp only [Act.put, List.setIfInBounds_toArray, List.set_cons_zero, List.set_cons_succ]))
  refine wpPlan_only (fun K hK => ?_)
  first
    | (rw [if_neg (by exact Bool.false_ne_true)]; refine hK.out _ _ (s_rv E) ?_; clear hK K; try simp only [Act.put, List.setIfInBounds_toArray, List.set_cons_zero, List.set_cons_succ])
    | (try go_simp
       go_at_call 50
       (with_reducible refine (hN _).mono ?_)
       rintro X wp1 ⟨rfl, rfl⟩
       skip
       refine hK.out _ _ (s_rv E) ?_
       clear hK K
       try simp only [Act.put, List.setIfInBounds_toArray, List.set_cons_zero, List.set_cons_succ])
  iterate 4 (first | (refine wpPlan_still (v := ?_) (Or.inl ⟨by rfl, ?_⟩) ?_; rotate_left; (focus (intro W hW; (try dsimp only at hW); go_split_ands; go_simp; try with_reducible rfl)); try simp only [Act.put, List.setIfInBounds_toArray, List.set_cons_zero, List.set_cons_succ]) | (refine wpPlan_still (Or.inr ⟨by rfl, rfl⟩) ?_; try simp only [Act.put, List.setIfInBounds_toArray, List.set_cons_zero, List.set_cons_succ]))
  refine wpPlan_only (fun K hK => ?_)
  first
    | (rw [if_neg (by exact Bool.false_ne_true)]; refine hK.out _ _ (s_rv E) ?_; clear hK K; try simp only [Act.put, List.setIfInBounds_toArray, List.set_cons_zero, List.set_cons_succ])
    | (try go_simp
       go_at_call 13
       (with_reducible refine (hS _).mono ?_)
       rintro X wp1 ⟨rfl, hb⟩
       replace E := E.on hb; clear hb
       refine hK.out _ _ (s_rv E) ?_
       clear hK K
       try simp only [Act.put, List.setIfInBounds_toArray, List.set_cons_zero, List.set_cons_succ])
  iterate 15 (first | (refine wpPlan_still (v := ?_) (Or.inl ⟨by rfl, ?_⟩) ?_; rotate_left; (focus (intro W hW; (try dsimp only at hW); go_split_ands; go_simp; try with_reducible rfl)); try simp only [Act.put, List.setIfInBounds_toArray, List.set_cons_zero, List.set_cons_succ]) | (refine wpPlan_still (Or.inr ⟨by rfl, rfl⟩) ?_; try simp only [Act.put, List.setIfInBounds_toArray, List.set_cons_zero, List.set_cons_succ]))
  refine wpPlan_only (fun K hK => ?_)
  first
    | (rw [if_neg (by exact Bool.false_ne_true)]; refine hK.out _ _ (s_rv E) ?_; clear hK K; try simp only [Act.put, List.setIfInBounds_toArray, List.set_cons_zero, List.set_cons_succ])
    | (try go_simp
       go_at_call 51
       (with_reducible refine (hD _).mono ?_)
       rintro X wp1 ⟨rfl, rfl⟩
       skip
       refine hK.out _ _ (s_rv E) ?_
       clear hK K
       try simp only [Act.put, List.setIfInBounds_toArray, List.set_cons_zero, List.set_cons_succ])
  iterate 8 (first | (refine wpPlan_still (v := ?_) (Or.inl ⟨by rfl, ?_⟩) ?_; rotate_left; (focus (intro W hW; (try dsimp only at hW); go_split_ands; go_simp; try with_reducible rfl)); try simp only [Act.put, List.setIfInBounds_toArray, List.set_cons_zero, List.set_cons_succ]) | (refine wpPlan_still (Or.inr ⟨by rfl, rfl⟩) ?_; try simp only [Act.put, List.setIfInBounds_toArray, List.set_cons_zero, List.set_cons_succ]))
  refine wpPlan_only (fun K hK => ?_)
  first
    | (rw [if_neg (by exact Bool.false_ne_true)]; refine hK.out _ _ (s_rv E) ?_; clear hK K; try simp only [Act.put, List.setIfInBounds_toArray, List.set_cons_zero, List.set_cons_succ])
    | (try go_simp
       go_at_call 51
       (with_reducible refine (hD _).mono ?_)
       rintro X wp1 ⟨rfl, rfl⟩
       skip
       refine hK.out _ _ (s_rv E) ?_
       clear hK K
       try simp only [Act.put, List.setIfInBounds_toArray, List.set_cons_zero, List.set_cons_succ])
  iterate 1 (first | (refine wpPlan_still (v := ?_) (Or.inl ⟨by rfl, ?_⟩) ?_; rotate_left; (focus (intro W hW; (try dsimp only at hW); go_split_ands; go_simp; try with_reducible rfl)); try simp only [Act.put, List.setIfInBounds_toArray, List.set_cons_zero, List.set_cons_succ]) | (refine wpPlan_still (Or.inr ⟨by rfl, rfl⟩) ?_; try simp only [Act.put, List.setIfInBounds_toArray, List.set_cons_zero, List.set_cons_succ]))
  refine wpPlan_end ?_
  replace C := E.cells
  simp [BC, CF] at C
  go_wp2_with fail
  have hB := envb E
  have hl5 : ds.length ≤ 5 := by rw [hl'.out]; exact hle
  have E0 := Lib.hid E
  clear E hle hl' hn q1 hD hN hS t1 t2 t3
  go_loop [3, 4] (fun v3 v4 => ∃ (k : Nat) (s : Int), v4 = .int .i64 k ∧ v3 = .int .i64 s ∧ k ≤ ds.length ∧ 0 ≤ s ∧ s ≤ (k : Int) * 1048576 ∧ Hid (okL (ds.take k) = true ∧ (ds.take k).sum = s)) (fun _ v => ds.length - (intOf v).toNat)
  case atStart => exact ⟨0, 0, rfl, rfl, Nat.zero_le _, by omega, by omega, Lib.hid ⟨rfl, rfl⟩⟩
  case round =>
    obtain ⟨k, s, rfl, rfl, hk, s0, s1, hG⟩ := hrel
    by_cases hlt : k < ds.length
    · have g1 : decide ((k : Int) < (ds.length : Int)) = true := by simp [hlt]
      have W1 : IntKind.i64.wrap ((k : Int) + 1) = ((k + 1 : Nat) : Int) := by rw [IntWalk.i64_in _ (by omega)]; omega
      have q1 : (0 : Int) ≤ (k : Int) := by omega
      have q2 : (k : Int) < (ds.length : Int) := by omega
      obtain ⟨a, rfl, d0⟩ := HD.out k hlt
      replace d0 := cellLater hB d0
      obtain ⟨y, hyy⟩ : ∃ y, y = ds[k] := ⟨_, rfl⟩
      have hs : Hid (okL (ds.take (k + 1)) = (decide (1 ≤ y) && decide (y ≤ 1048576)) ∧ (ds.take (k + 1)).sum = s + y) := Lib.hid (by
        rw [okL_step hlt hG.out.1, hyy]
        refine ⟨rfl, ?_⟩
        rw [List.take_succ_eq_append_getElem hlt, List.sum_append, hG.out.2]; simp)
      rw [← hyy] at d0
      clear hyy hG
      by_cases e : y < 1
      · have t1 : decide (y < 1) = true := by simp [e]
        have HE : Hid (FT = false) := Lib.hid (by rw [HF.out, okL_take (k + 1) (by rw [hs.out.1]; simp; omega)]; rfl)
        clear e hs
        go_wp2
        go_ret
        exact ⟨by rw [HE.out]; rfl, hB⟩
      · have t1 : decide (y < 1) = false := by simp; omega
        by_cases e2 : 1048576 < y
        · have t2 : decide (1048576 < y) = true := by simp [e2]
          have t3 : decide (y > 1048576) = true := by simp; omega
          have HE : Hid (FT = false) := Lib.hid (by rw [HF.out, okL_take (k + 1) (by rw [hs.out.1]; simp; omega)]; rfl)
          clear e e2 hs
          go_wp2
          go_ret
          exact ⟨by rw [HE.out]; rfl, hB⟩
        · have t2 : decide (1048576 < y) = false := by simp; omega
          have t3 : decide (y > 1048576) = false := by simp; omega
          have W2 : IntKind.i64.wrap (s + y) = s + y := IntWalk.i64_in _ (by omega)
          have HG : Hid (okL (ds.take (k + 1)) = true ∧ (ds.take (k + 1)).sum = s + y) := Lib.hid ⟨by rw [hs.out.1]; simp; omega, hs.out.2⟩
          clear hs
          go_wp2
          exact ⟨⟨k + 1, s + y, rfl, rfl, hlt, by omega, by omega, HG⟩, by simp [intOf]; omega⟩
    · have g1 : decide ((k : Int) < (ds.length : Int)) = false := by simp; omega
      have HE : Hid (FT = decide (s ≤ 262144)) := Lib.hid (by
        have h := hG.out
        rw [List.take_of_length_le (by omega)] at h
        rw [HF.out, h.1, h.2]; rfl)
      go_wp2
      go_ret
      exact ⟨by rw [HE.out]; rfl, hB⟩
end Go.Proofs.Ythphgppgdlimeaa
