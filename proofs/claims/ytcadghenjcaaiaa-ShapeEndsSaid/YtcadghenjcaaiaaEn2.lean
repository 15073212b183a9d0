/- ShapeEnds. -/
import Derived.Test.YtcadghenjcaaiaaEn1
namespace Go.Proofs.Ytcadghenjcaaiaa
open Go.ChangeShapes Go.WideShapes Go.ChangeAt Go.RowKit
set_option linter.unusedVariables false
set_option linter.unusedSimpArgs false

set_option maxHeartbeats 8000000 in
set_option maxRecDepth 100000 in
theorem ends_0 (mk : ByteArray) (sz ct : Int) (p : Option Addr) (d0 : Int) (cap : Nat) (w : World) (hk : Bar.Ok ⟨mk, sz, ct, 0, p, [d0], cap⟩ w) (h1 : (decide (([d0] : List Int).length ≤ 8) && decide (mk.size ≤ 60)) = true) (hv : barB ⟨mk, sz, ct, 0, p, [d0], cap⟩ = true) :
    Calls Try.prog 7 #[Bar.val ⟨mk, sz, ct, 0, p, [d0], cap⟩] w fun e w' => e = .returned (.bool true) ∧ Below w.heap.size w w' := by
  have h16 := fun W => Short_any ⟨mk, sz, ct, 0, p, [d0], cap⟩ W
  have h18 := fun W (h : Below w.heap.size w W) => Path_ok ⟨mk, sz, ct, 0, p, [d0], cap⟩ W (hk.on h) hv
  have h11 := fun W => Dims_any 0 W
  have hD : ndim 0 = 1 := by kernel_rfl
  have hC : isC 0 = true := by kernel_rfl
  rw [hD, hC] at h11
  have hlen : (pts ⟨mk, sz, ct, 0, p, [d0], cap⟩).length = 2 := by kernel_rfl
  have hp : pt ⟨mk, sz, ct, 0, p, [d0], cap⟩ 1 = ⟨(0 + d0), 0, 0⟩ := by kernel_rfl
  have hp2 : pt ⟨mk, sz, ct, 0, p, [d0], cap⟩ 1 = ⟨d0, 0, 0⟩ := by rw [hp]; simp only [Pt.mk.injEq]; refine ⟨?_, ?_, ?_⟩ <;> first | omega | trivial
  have hlast : ∀ h, (pts ⟨mk, sz, ct, 0, p, [d0], cap⟩)[1]'h = ⟨d0, 0, 0⟩ := fun h => by rw [← hp2]; simp [pts]
  have hbd := fitB_mem _ _ (barB_and hv).2.2.1 (by omega)
  simp only [List.mem_cons, List.not_mem_nil, or_false, forall_eq_or_imp, forall_eq] at hbd
  obtain ⟨a, rfl, hd⟩ := rdz_fn hk.rd rfl (Nat.succ_pos _)
  have c0 := hd 0 (by simp)
  simp only [List.getElem_cons_zero, List.getElem_cons_succ] at c0
  dsimp only at h16
  rw [h1] at h16
  have E := (Env.nil w).add w.heap.size 32 (Bar.cs ⟨mk, sz, ct, 0, some a, [d0], cap⟩) rfl
  clear hk h1 hv hD hC hp hp2 hd
  simp only [Bar.val, Bar.cs, List.length_cons, List.length_nil, Nat.zero_add, Nat.reduceAdd] at h16 h18 E ⊢
  have HLE := Lib.hid hlen
  have HLA := Lib.hid hlast
  clear hlen hlast
  generalize pts ⟨mk, sz, ct, 0, some a, [d0], cap⟩ = PS at *
  have V1 : IntKind.i64.wrap ((2 : Int) - 1) = 1 := by rw [IntWalk.i64_in _ (by omega)]; rfl
  have V2 : IntKind.i64.wrap 1 = 1 := IntWalk.i64_in _ (by omega)
  have hq : ∀ W, (binOp .eql 40 (.agg #[.int .i64 (d0), .int .i64 (0), .int .i64 (0)]) (.agg #[.int .i64 (d0), .int .i64 (0), .int .i64 (0)])).run Try.prog W = .ok (.bool true) W := fun W => eq40_same _ _ _ W
  have C := E.cells
  simp [BC, CF] at C
  go_enter Try.func7, Try.ntmps7
  go_upto_region 11 with (first
    | (go_at_call 10; (with_reducible refine (awake_any _).mono ?_); rintro X w1 ⟨rfl, hb⟩; replace E := E.on hb; replace C := E.cells; simp [BC, CF] at C; clear hb)
    | (go_at_call 16; (with_reducible refine (h16 _).mono ?_); rintro X w2 ⟨rfl, hb⟩; replace E := E.on hb; replace C := E.cells; simp [BC, CF] at C; clear hb)
    | (go_at_call 18; (with_reducible refine (h18 _ (envb E)).mono ?_); rintro X w3 ⟨v, rfl, hO, hb⟩; replace E := E.on hb; replace C := E.cells; simp [BC, CF] at C; clear hb; obtain ⟨g, cap2, rfl, p0, p1, p2⟩ := Own.last hO HLE.out HLA.out (show 1 * 3 = 3 from rfl) (show 1 * 3 + 1 = 4 from rfl) (show 1 * 3 + 2 = 5 from rfl))
    | (go_at_call 11; (with_reducible refine (h11 _).mono ?_); rintro X w4 ⟨rfl, hb⟩; replace E := E.on hb; replace p0 := cellLater hb p0; replace p1 := cellLater hb p1; replace p2 := cellLater hb p2; replace C := E.cells; simp [BC, CF] at C; clear hb))
  try dsimp only at p0 p1 p2
  clear hO HLE HLA h16 h18 h11
  refine wp_region_plan 10 [(0, true), (1, true), (2, true), (3, true), (4, true), (5, true), (6, true), (7, true), (8, false), (9, false)] (fun W' => W'.cell? ⟨g, 3, none⟩ = some (.int .i64 (d0)) ∧ W'.cell? ⟨g, 4, none⟩ = some (.int .i64 (0)) ∧ W'.cell? ⟨g, 5, none⟩ = some (.int .i64 (0)) ∧ W'.cell? ⟨w.heap.size, 3, none⟩ = some (.int .i64 0) ∧ W'.cell? ⟨w.heap.size, 4, none⟩ = some (.slice (some a) 1 cap)) (by kernel_rfl) (by kernel_rfl) (fun _ _ d _ _ h => by cases d <;> exact h) ⟨p0, p1, p2, C.2.2.2.2.1.1, C.2.2.2.2.2.1⟩ ?_
  simp only [List.filterMap_cons, List.filterMap_nil, List.getElem?_cons_zero, List.getElem?_cons_succ, Option.map_some, List.drop_succ_cons, List.drop_zero]
  iterate 8 (first | (refine wpPlan_still (v := ?_) (Or.inl ⟨by rfl, ?_⟩) ?_; rotate_left; (focus (intro W hW; (try dsimp only at hW); go_split_ands; go_simp; try with_reducible rfl)); try simp only [Act.put, List.setIfInBounds_toArray, List.set_cons_zero, List.set_cons_succ]) | (refine wpPlan_still (Or.inr ⟨by rfl, rfl⟩) ?_; try simp only [Act.put, List.setIfInBounds_toArray, List.set_cons_zero, List.set_cons_succ]))
  refine wpPlan_only (fun K hK => ?_)
  try go_simp
  have E5 := (E.add w4.heap.size 40 #[.int .i64 0, .int .i64 0, .int .i64 0] rfl).drw
  have C5 := E5.cells
  simp [BC, CF] at C5
  have b5 := below_dr (al1 w4 (.cells #[.int .i64 0, .int .i64 0, .int .i64 0] 40))
  refine hK.out _ _ ⟨cellLater b5 p0, cellLater b5 p1, cellLater b5 p2, cellLater b5 C.2.2.2.2.1.1, cellLater b5 C.2.2.2.2.2.1⟩ ?_
  clear hK K
  try simp only [Act.put, List.setIfInBounds_toArray, List.set_cons_zero, List.set_cons_succ]
  have E7 := E.add w4.heap.size 40 #[.int .i64 (d0), .int .i64 (0), .int .i64 (0)] rfl
  have E6 := E7.drw
  have C6 := E6.cells
  simp [BC, CF] at C6
  have b6 := below_dr (al1 w4 (.cells #[.int .i64 (d0), .int .i64 (0), .int .i64 (0)] 40))
  refine wpPlan_only (fun K hK => ?_)
  try go_simp
  refine hK.out _ _ ⟨cellLater b6 p0, cellLater b6 p1, cellLater b6 p2, cellLater b6 C.2.2.2.2.1.1, cellLater b6 C.2.2.2.2.2.1⟩ ?_
  clear hK K
  try simp only [Act.put, List.setIfInBounds_toArray, List.set_cons_zero, List.set_cons_succ]
  refine wpPlan_end ?_
  replace E := E6
  replace C := C6
  replace c0 := cellLater (envb E7) c0
  have c0' := c0
  rw [show a.add 0 = a by simp [Addr.add]] at c0'
  clear E7 E6 E5 C5 C6 b5 b6 p0 p1 p2
  go_upto_region 14 with fail
  go_quiet (fail)
  go_wp2_with fail
  go_ret
  exact ⟨rfl, envb (E.dr _)⟩
set_option maxHeartbeats 8000000 in
set_option maxRecDepth 100000 in
theorem ends_11 (mk : ByteArray) (sz ct : Int) (p : Option Addr) (d0 d1 : Int) (cap : Nat) (w : World) (hk : Bar.Ok ⟨mk, sz, ct, 11, p, [d0, d1], cap⟩ w) (h1 : (decide (([d0, d1] : List Int).length ≤ 8) && decide (mk.size ≤ 60)) = true) (hv : barB ⟨mk, sz, ct, 11, p, [d0, d1], cap⟩ = true) :
    Calls Try.prog 7 #[Bar.val ⟨mk, sz, ct, 11, p, [d0, d1], cap⟩] w fun e w' => e = .returned (.bool true) ∧ Below w.heap.size w w' := by
  have h16 := fun W => Short_any ⟨mk, sz, ct, 11, p, [d0, d1], cap⟩ W
  have h18 := fun W (h : Below w.heap.size w W) => Path_ok ⟨mk, sz, ct, 11, p, [d0, d1], cap⟩ W (hk.on h) hv
  have h11 := fun W => Dims_any 11 W
  have hD : ndim 11 = 2 := by kernel_rfl
  have hC : isC 11 = true := by kernel_rfl
  rw [hD, hC] at h11
  have hlen : (pts ⟨mk, sz, ct, 11, p, [d0, d1], cap⟩).length = 3 := by kernel_rfl
  have hp : pt ⟨mk, sz, ct, 11, p, [d0, d1], cap⟩ 2 = ⟨(0 + d0), (0 + d1), 0⟩ := by kernel_rfl
  have hp2 : pt ⟨mk, sz, ct, 11, p, [d0, d1], cap⟩ 2 = ⟨d0, d1, 0⟩ := by rw [hp]; simp only [Pt.mk.injEq]; refine ⟨?_, ?_, ?_⟩ <;> first | omega | trivial
  have hlast : ∀ h, (pts ⟨mk, sz, ct, 11, p, [d0, d1], cap⟩)[2]'h = ⟨d0, d1, 0⟩ := fun h => by rw [← hp2]; simp [pts]
  have hbd := fitB_mem _ _ (barB_and hv).2.2.1 (by omega)
  simp only [List.mem_cons, List.not_mem_nil, or_false, forall_eq_or_imp, forall_eq] at hbd
  obtain ⟨a, rfl, hd⟩ := rdz_fn hk.rd rfl (Nat.succ_pos _)
  have c0 := hd 0 (by simp)
  have c1 := hd 1 (by simp)
  simp only [List.getElem_cons_zero, List.getElem_cons_succ] at c0 c1
  dsimp only at h16
  rw [h1] at h16
  have E := (Env.nil w).add w.heap.size 32 (Bar.cs ⟨mk, sz, ct, 11, some a, [d0, d1], cap⟩) rfl
  clear hk h1 hv hD hC hp hp2 hd
  simp only [Bar.val, Bar.cs, List.length_cons, List.length_nil, Nat.zero_add, Nat.reduceAdd] at h16 h18 E ⊢
  have HLE := Lib.hid hlen
  have HLA := Lib.hid hlast
  clear hlen hlast
  generalize pts ⟨mk, sz, ct, 11, some a, [d0, d1], cap⟩ = PS at *
  have V1 : IntKind.i64.wrap ((3 : Int) - 1) = 2 := by rw [IntWalk.i64_in _ (by omega)]; rfl
  have V2 : IntKind.i64.wrap 2 = 2 := IntWalk.i64_in _ (by omega)
  have hq : ∀ W, (binOp .eql 40 (.agg #[.int .i64 (d0), .int .i64 (d1), .int .i64 (0)]) (.agg #[.int .i64 (d0), .int .i64 (d1), .int .i64 (0)])).run Try.prog W = .ok (.bool true) W := fun W => eq40_same _ _ _ W
  have C := E.cells
  simp [BC, CF] at C
  go_enter Try.func7, Try.ntmps7
  go_upto_region 11 with (first
    | (go_at_call 10; (with_reducible refine (awake_any _).mono ?_); rintro X w1 ⟨rfl, hb⟩; replace E := E.on hb; replace C := E.cells; simp [BC, CF] at C; clear hb)
    | (go_at_call 16; (with_reducible refine (h16 _).mono ?_); rintro X w2 ⟨rfl, hb⟩; replace E := E.on hb; replace C := E.cells; simp [BC, CF] at C; clear hb)
    | (go_at_call 18; (with_reducible refine (h18 _ (envb E)).mono ?_); rintro X w3 ⟨v, rfl, hO, hb⟩; replace E := E.on hb; replace C := E.cells; simp [BC, CF] at C; clear hb; obtain ⟨g, cap2, rfl, p0, p1, p2⟩ := Own.last hO HLE.out HLA.out (show 2 * 3 = 6 from rfl) (show 2 * 3 + 1 = 7 from rfl) (show 2 * 3 + 2 = 8 from rfl))
    | (go_at_call 11; (with_reducible refine (h11 _).mono ?_); rintro X w4 ⟨rfl, hb⟩; replace E := E.on hb; replace p0 := cellLater hb p0; replace p1 := cellLater hb p1; replace p2 := cellLater hb p2; replace C := E.cells; simp [BC, CF] at C; clear hb))
  try dsimp only at p0 p1 p2
  clear hO HLE HLA h16 h18 h11
  refine wp_region_plan 10 [(0, true), (1, true), (2, true), (3, true), (4, true), (5, true), (6, true), (7, true), (8, false), (9, false)] (fun W' => W'.cell? ⟨g, 6, none⟩ = some (.int .i64 (d0)) ∧ W'.cell? ⟨g, 7, none⟩ = some (.int .i64 (d1)) ∧ W'.cell? ⟨g, 8, none⟩ = some (.int .i64 (0)) ∧ W'.cell? ⟨w.heap.size, 3, none⟩ = some (.int .i64 11) ∧ W'.cell? ⟨w.heap.size, 4, none⟩ = some (.slice (some a) 2 cap)) (by kernel_rfl) (by kernel_rfl) (fun _ _ d _ _ h => by cases d <;> exact h) ⟨p0, p1, p2, C.2.2.2.2.1.1, C.2.2.2.2.2.1⟩ ?_
  simp only [List.filterMap_cons, List.filterMap_nil, List.getElem?_cons_zero, List.getElem?_cons_succ, Option.map_some, List.drop_succ_cons, List.drop_zero]
  iterate 8 (first | (refine wpPlan_still (v := ?_) (Or.inl ⟨by rfl, ?_⟩) ?_; rotate_left; (focus (intro W hW; (try dsimp only at hW); go_split_ands; go_simp; try with_reducible rfl)); try simp only [Act.put, List.setIfInBounds_toArray, List.set_cons_zero, List.set_cons_succ]) | (refine wpPlan_still (Or.inr ⟨by rfl, rfl⟩) ?_; try simp only [Act.put, List.setIfInBounds_toArray, List.set_cons_zero, List.set_cons_succ]))
  refine wpPlan_only (fun K hK => ?_)
  try go_simp
  have E5 := (E.add w4.heap.size 40 #[.int .i64 0, .int .i64 0, .int .i64 0] rfl).drw
  have C5 := E5.cells
  simp [BC, CF] at C5
  have b5 := below_dr (al1 w4 (.cells #[.int .i64 0, .int .i64 0, .int .i64 0] 40))
  refine hK.out _ _ ⟨cellLater b5 p0, cellLater b5 p1, cellLater b5 p2, cellLater b5 C.2.2.2.2.1.1, cellLater b5 C.2.2.2.2.2.1⟩ ?_
  clear hK K
  try simp only [Act.put, List.setIfInBounds_toArray, List.set_cons_zero, List.set_cons_succ]
  have E7 := E.add w4.heap.size 40 #[.int .i64 (d0), .int .i64 (d1), .int .i64 (0)] rfl
  have E6 := E7.drw
  have C6 := E6.cells
  simp [BC, CF] at C6
  have b6 := below_dr (al1 w4 (.cells #[.int .i64 (d0), .int .i64 (d1), .int .i64 (0)] 40))
  refine wpPlan_only (fun K hK => ?_)
  try go_simp
  refine hK.out _ _ ⟨cellLater b6 p0, cellLater b6 p1, cellLater b6 p2, cellLater b6 C.2.2.2.2.1.1, cellLater b6 C.2.2.2.2.2.1⟩ ?_
  clear hK K
  try simp only [Act.put, List.setIfInBounds_toArray, List.set_cons_zero, List.set_cons_succ]
  refine wpPlan_end ?_
  replace E := E6
  replace C := C6
  replace c0 := cellLater (envb E7) c0
  replace c1 := cellLater (envb E7) c1
  have c0' := c0
  rw [show a.add 0 = a by simp [Addr.add]] at c0'
  have c1' := c1
  rw [show a.add 1 = ⟨a.block, a.off + 1, none⟩ by simp [Addr.add]] at c1'
  clear E7 E6 E5 C5 C6 b5 b6 p0 p1 p2
  go_upto_region 16 with fail
  go_quiet (fail)
  go_wp2_with fail
  go_ret
  exact ⟨rfl, envb (E.dr _)⟩
set_option maxHeartbeats 8000000 in
set_option maxRecDepth 100000 in
theorem ends_21 (mk : ByteArray) (sz ct : Int) (p : Option Addr) (d0 d1 d2 : Int) (cap : Nat) (w : World) (hk : Bar.Ok ⟨mk, sz, ct, 21, p, [d0, d1, d2], cap⟩ w) (h1 : (decide (([d0, d1, d2] : List Int).length ≤ 8) && decide (mk.size ≤ 60)) = true) (hv : barB ⟨mk, sz, ct, 21, p, [d0, d1, d2], cap⟩ = true) :
    Calls Try.prog 7 #[Bar.val ⟨mk, sz, ct, 21, p, [d0, d1, d2], cap⟩] w fun e w' => e = .returned (.bool true) ∧ Below w.heap.size w w' := by
  have h16 := fun W => Short_any ⟨mk, sz, ct, 21, p, [d0, d1, d2], cap⟩ W
  have h18 := fun W (h : Below w.heap.size w W) => Path_ok ⟨mk, sz, ct, 21, p, [d0, d1, d2], cap⟩ W (hk.on h) hv
  have h11 := fun W => Dims_any 21 W
  have hD : ndim 21 = 3 := by kernel_rfl
  have hC : isC 21 = true := by kernel_rfl
  rw [hD, hC] at h11
  have hlen : (pts ⟨mk, sz, ct, 21, p, [d0, d1, d2], cap⟩).length = 4 := by kernel_rfl
  have hp : pt ⟨mk, sz, ct, 21, p, [d0, d1, d2], cap⟩ 3 = ⟨(0 + d1), ((0 - d0) + d2), 0⟩ := by kernel_rfl
  have hp2 : pt ⟨mk, sz, ct, 21, p, [d0, d1, d2], cap⟩ 3 = ⟨d1, d2 - d0, 0⟩ := by rw [hp]; simp only [Pt.mk.injEq]; refine ⟨?_, ?_, ?_⟩ <;> first | omega | trivial
  have hlast : ∀ h, (pts ⟨mk, sz, ct, 21, p, [d0, d1, d2], cap⟩)[3]'h = ⟨d1, d2 - d0, 0⟩ := fun h => by rw [← hp2]; simp [pts]
  have hbd := fitB_mem _ _ (barB_and hv).2.2.1 (by omega)
  simp only [List.mem_cons, List.not_mem_nil, or_false, forall_eq_or_imp, forall_eq] at hbd
  obtain ⟨a, rfl, hd⟩ := rdz_fn hk.rd rfl (Nat.succ_pos _)
  have c0 := hd 0 (by simp)
  have c1 := hd 1 (by simp)
  have c2 := hd 2 (by simp)
  simp only [List.getElem_cons_zero, List.getElem_cons_succ] at c0 c1 c2
  dsimp only at h16
  rw [h1] at h16
  have E := (Env.nil w).add w.heap.size 32 (Bar.cs ⟨mk, sz, ct, 21, some a, [d0, d1, d2], cap⟩) rfl
  clear hk h1 hv hD hC hp hp2 hd
  simp only [Bar.val, Bar.cs, List.length_cons, List.length_nil, Nat.zero_add, Nat.reduceAdd] at h16 h18 E ⊢
  have HLE := Lib.hid hlen
  have HLA := Lib.hid hlast
  clear hlen hlast
  generalize pts ⟨mk, sz, ct, 21, some a, [d0, d1, d2], cap⟩ = PS at *
  have W0 : IntKind.i64.wrap (d2 - d0) = d2 - d0 := IntWalk.i64_in _ (by omega)
  have V1 : IntKind.i64.wrap ((4 : Int) - 1) = 3 := by rw [IntWalk.i64_in _ (by omega)]; rfl
  have V2 : IntKind.i64.wrap 3 = 3 := IntWalk.i64_in _ (by omega)
  have hq : ∀ W, (binOp .eql 40 (.agg #[.int .i64 (d1), .int .i64 (d2 - d0), .int .i64 (0)]) (.agg #[.int .i64 (d1), .int .i64 (d2 - d0), .int .i64 (0)])).run Try.prog W = .ok (.bool true) W := fun W => eq40_same _ _ _ W
  have C := E.cells
  simp [BC, CF] at C
  go_enter Try.func7, Try.ntmps7
  go_upto_region 11 with (first
    | (go_at_call 10; (with_reducible refine (awake_any _).mono ?_); rintro X w1 ⟨rfl, hb⟩; replace E := E.on hb; replace C := E.cells; simp [BC, CF] at C; clear hb)
    | (go_at_call 16; (with_reducible refine (h16 _).mono ?_); rintro X w2 ⟨rfl, hb⟩; replace E := E.on hb; replace C := E.cells; simp [BC, CF] at C; clear hb)
    | (go_at_call 18; (with_reducible refine (h18 _ (envb E)).mono ?_); rintro X w3 ⟨v, rfl, hO, hb⟩; replace E := E.on hb; replace C := E.cells; simp [BC, CF] at C; clear hb; obtain ⟨g, cap2, rfl, p0, p1, p2⟩ := Own.last hO HLE.out HLA.out (show 3 * 3 = 9 from rfl) (show 3 * 3 + 1 = 10 from rfl) (show 3 * 3 + 2 = 11 from rfl))
    | (go_at_call 11; (with_reducible refine (h11 _).mono ?_); rintro X w4 ⟨rfl, hb⟩; replace E := E.on hb; replace p0 := cellLater hb p0; replace p1 := cellLater hb p1; replace p2 := cellLater hb p2; replace C := E.cells; simp [BC, CF] at C; clear hb))
  try dsimp only at p0 p1 p2
  clear hO HLE HLA h16 h18 h11
  refine wp_region_plan 10 [(0, true), (1, true), (2, true), (3, true), (4, true), (5, true), (6, true), (7, true), (8, false), (9, false)] (fun W' => W'.cell? ⟨g, 9, none⟩ = some (.int .i64 (d1)) ∧ W'.cell? ⟨g, 10, none⟩ = some (.int .i64 (d2 - d0)) ∧ W'.cell? ⟨g, 11, none⟩ = some (.int .i64 (0)) ∧ W'.cell? ⟨w.heap.size, 3, none⟩ = some (.int .i64 21) ∧ W'.cell? ⟨w.heap.size, 4, none⟩ = some (.slice (some a) 3 cap)) (by kernel_rfl) (by kernel_rfl) (fun _ _ d _ _ h => by cases d <;> exact h) ⟨p0, p1, p2, C.2.2.2.2.1.1, C.2.2.2.2.2.1⟩ ?_
  simp only [List.filterMap_cons, List.filterMap_nil, List.getElem?_cons_zero, List.getElem?_cons_succ, Option.map_some, List.drop_succ_cons, List.drop_zero]
  iterate 8 (first | (refine wpPlan_still (v := ?_) (Or.inl ⟨by rfl, ?_⟩) ?_; rotate_left; (focus (intro W hW; (try dsimp only at hW); go_split_ands; go_simp; try with_reducible rfl)); try simp only [Act.put, List.setIfInBounds_toArray, List.set_cons_zero, List.set_cons_succ]) | (refine wpPlan_still (Or.inr ⟨by rfl, rfl⟩) ?_; try simp only [Act.put, List.setIfInBounds_toArray, List.set_cons_zero, List.set_cons_succ]))
  refine wpPlan_only (fun K hK => ?_)
  try go_simp
  have E5 := (E.add w4.heap.size 40 #[.int .i64 0, .int .i64 0, .int .i64 0] rfl).drw
  have C5 := E5.cells
  simp [BC, CF] at C5
  have b5 := below_dr (al1 w4 (.cells #[.int .i64 0, .int .i64 0, .int .i64 0] 40))
  refine hK.out _ _ ⟨cellLater b5 p0, cellLater b5 p1, cellLater b5 p2, cellLater b5 C.2.2.2.2.1.1, cellLater b5 C.2.2.2.2.2.1⟩ ?_
  clear hK K
  try simp only [Act.put, List.setIfInBounds_toArray, List.set_cons_zero, List.set_cons_succ]
  have E7 := E.add w4.heap.size 40 #[.int .i64 (d1), .int .i64 (d2 - d0), .int .i64 (0)] rfl
  have E6 := E7.drw
  have C6 := E6.cells
  simp [BC, CF] at C6
  have b6 := below_dr (al1 w4 (.cells #[.int .i64 (d1), .int .i64 (d2 - d0), .int .i64 (0)] 40))
  refine wpPlan_only (fun K hK => ?_)
  try go_simp
  refine hK.out _ _ ⟨cellLater b6 p0, cellLater b6 p1, cellLater b6 p2, cellLater b6 C.2.2.2.2.1.1, cellLater b6 C.2.2.2.2.2.1⟩ ?_
  clear hK K
  try simp only [Act.put, List.setIfInBounds_toArray, List.set_cons_zero, List.set_cons_succ]
  refine wpPlan_end ?_
  replace E := E6
  replace C := C6
  replace c0 := cellLater (envb E7) c0
  replace c1 := cellLater (envb E7) c1
  replace c2 := cellLater (envb E7) c2
  have c0' := c0
  rw [show a.add 0 = a by simp [Addr.add]] at c0'
  have c1' := c1
  rw [show a.add 1 = ⟨a.block, a.off + 1, none⟩ by simp [Addr.add]] at c1'
  have c2' := c2
  rw [show a.add 2 = ⟨a.block, a.off + 2, none⟩ by simp [Addr.add]] at c2'
  clear E7 E6 E5 C5 C6 b5 b6 p0 p1 p2
  go_upto_region 18 with fail
  go_quiet (fail)
  go_wp2_with fail
  go_ret
  exact ⟨rfl, envb (E.dr _)⟩
set_option maxHeartbeats 8000000 in
set_option maxRecDepth 100000 in
theorem ends_26 (mk : ByteArray) (sz ct : Int) (p : Option Addr) (d0 d1 d2 : Int) (cap : Nat) (w : World) (hk : Bar.Ok ⟨mk, sz, ct, 26, p, [d0, d1, d2], cap⟩ w) (h1 : (decide (([d0, d1, d2] : List Int).length ≤ 8) && decide (mk.size ≤ 60)) = true) (hv : barB ⟨mk, sz, ct, 26, p, [d0, d1, d2], cap⟩ = true) :
    Calls Try.prog 7 #[Bar.val ⟨mk, sz, ct, 26, p, [d0, d1, d2], cap⟩] w fun e w' => e = .returned (.bool true) ∧ Below w.heap.size w w' := by
  have h16 := fun W => Short_any ⟨mk, sz, ct, 26, p, [d0, d1, d2], cap⟩ W
  have h18 := fun W (h : Below w.heap.size w W) => Path_ok ⟨mk, sz, ct, 26, p, [d0, d1, d2], cap⟩ W (hk.on h) hv
  have h11 := fun W => Dims_any 26 W
  have hD : ndim 26 = 3 := by kernel_rfl
  have hC : isC 26 = true := by kernel_rfl
  rw [hD, hC] at h11
  have hlen : (pts ⟨mk, sz, ct, 26, p, [d0, d1, d2], cap⟩).length = 4 := by kernel_rfl
  have hp : pt ⟨mk, sz, ct, 26, p, [d0, d1, d2], cap⟩ 3 = ⟨((0 + d0) + d2), (0 + d1), 0⟩ := by kernel_rfl
  have hp2 : pt ⟨mk, sz, ct, 26, p, [d0, d1, d2], cap⟩ 3 = ⟨d0 + d2, d1, 0⟩ := by rw [hp]; simp only [Pt.mk.injEq]; refine ⟨?_, ?_, ?_⟩ <;> first | omega | trivial
  have hlast : ∀ h, (pts ⟨mk, sz, ct, 26, p, [d0, d1, d2], cap⟩)[3]'h = ⟨d0 + d2, d1, 0⟩ := fun h => by rw [← hp2]; simp [pts]
  have hbd := fitB_mem _ _ (barB_and hv).2.2.1 (by omega)
  simp only [List.mem_cons, List.not_mem_nil, or_false, forall_eq_or_imp, forall_eq] at hbd
  obtain ⟨a, rfl, hd⟩ := rdz_fn hk.rd rfl (Nat.succ_pos _)
  have c0 := hd 0 (by simp)
  have c1 := hd 1 (by simp)
  have c2 := hd 2 (by simp)
  simp only [List.getElem_cons_zero, List.getElem_cons_succ] at c0 c1 c2
  dsimp only at h16
  rw [h1] at h16
  have E := (Env.nil w).add w.heap.size 32 (Bar.cs ⟨mk, sz, ct, 26, some a, [d0, d1, d2], cap⟩) rfl
  clear hk h1 hv hD hC hp hp2 hd
  simp only [Bar.val, Bar.cs, List.length_cons, List.length_nil, Nat.zero_add, Nat.reduceAdd] at h16 h18 E ⊢
  have HLE := Lib.hid hlen
  have HLA := Lib.hid hlast
  clear hlen hlast
  generalize pts ⟨mk, sz, ct, 26, some a, [d0, d1, d2], cap⟩ = PS at *
  have W0 : IntKind.i64.wrap (d0 + d2) = d0 + d2 := IntWalk.i64_in _ (by omega)
  have V1 : IntKind.i64.wrap ((4 : Int) - 1) = 3 := by rw [IntWalk.i64_in _ (by omega)]; rfl
  have V2 : IntKind.i64.wrap 3 = 3 := IntWalk.i64_in _ (by omega)
  have hq : ∀ W, (binOp .eql 40 (.agg #[.int .i64 (d0 + d2), .int .i64 (d1), .int .i64 (0)]) (.agg #[.int .i64 (d0 + d2), .int .i64 (d1), .int .i64 (0)])).run Try.prog W = .ok (.bool true) W := fun W => eq40_same _ _ _ W
  have C := E.cells
  simp [BC, CF] at C
  go_enter Try.func7, Try.ntmps7
  go_upto_region 11 with (first
    | (go_at_call 10; (with_reducible refine (awake_any _).mono ?_); rintro X w1 ⟨rfl, hb⟩; replace E := E.on hb; replace C := E.cells; simp [BC, CF] at C; clear hb)
    | (go_at_call 16; (with_reducible refine (h16 _).mono ?_); rintro X w2 ⟨rfl, hb⟩; replace E := E.on hb; replace C := E.cells; simp [BC, CF] at C; clear hb)
    | (go_at_call 18; (with_reducible refine (h18 _ (envb E)).mono ?_); rintro X w3 ⟨v, rfl, hO, hb⟩; replace E := E.on hb; replace C := E.cells; simp [BC, CF] at C; clear hb; obtain ⟨g, cap2, rfl, p0, p1, p2⟩ := Own.last hO HLE.out HLA.out (show 3 * 3 = 9 from rfl) (show 3 * 3 + 1 = 10 from rfl) (show 3 * 3 + 2 = 11 from rfl))
    | (go_at_call 11; (with_reducible refine (h11 _).mono ?_); rintro X w4 ⟨rfl, hb⟩; replace E := E.on hb; replace p0 := cellLater hb p0; replace p1 := cellLater hb p1; replace p2 := cellLater hb p2; replace C := E.cells; simp [BC, CF] at C; clear hb))
  try dsimp only at p0 p1 p2
  clear hO HLE HLA h16 h18 h11
  refine wp_region_plan 10 [(0, true), (1, true), (2, true), (3, true), (4, true), (5, true), (6, true), (7, true), (8, false), (9, false)] (fun W' => W'.cell? ⟨g, 9, none⟩ = some (.int .i64 (d0 + d2)) ∧ W'.cell? ⟨g, 10, none⟩ = some (.int .i64 (d1)) ∧ W'.cell? ⟨g, 11, none⟩ = some (.int .i64 (0)) ∧ W'.cell? ⟨w.heap.size, 3, none⟩ = some (.int .i64 26) ∧ W'.cell? ⟨w.heap.size, 4, none⟩ = some (.slice (some a) 3 cap)) (by kernel_rfl) (by kernel_rfl) (fun _ _ d _ _ h => by cases d <;> exact h) ⟨p0, p1, p2, C.2.2.2.2.1.1, C.2.2.2.2.2.1⟩ ?_
  simp only [List.filterMap_cons, List.filterMap_nil, List.getElem?_cons_zero, List.getElem?_cons_succ, Option.map_some, List.drop_succ_cons, List.drop_zero]
  iterate 8 (first | (refine wpPlan_still (v := ?_) (Or.inl ⟨by rfl, ?_⟩) ?_; rotate_left; (focus (intro W hW; (try dsimp only at hW); go_split_ands; go_simp; try with_reducible rfl)); try simp only [Act.put, List.setIfInBounds_toArray, List.set_cons_zero, List.set_cons_succ]) | (refine wpPlan_still (Or.inr ⟨by rfl, rfl⟩) ?_; try simp only [Act.put, List.setIfInBounds_toArray, List.set_cons_zero, List.set_cons_succ]))
  refine wpPlan_only (fun K hK => ?_)
  try go_simp
  have E5 := (E.add w4.heap.size 40 #[.int .i64 0, .int .i64 0, .int .i64 0] rfl).drw
  have C5 := E5.cells
  simp [BC, CF] at C5
  have b5 := below_dr (al1 w4 (.cells #[.int .i64 0, .int .i64 0, .int .i64 0] 40))
  refine hK.out _ _ ⟨cellLater b5 p0, cellLater b5 p1, cellLater b5 p2, cellLater b5 C.2.2.2.2.1.1, cellLater b5 C.2.2.2.2.2.1⟩ ?_
  clear hK K
  try simp only [Act.put, List.setIfInBounds_toArray, List.set_cons_zero, List.set_cons_succ]
  have E7 := E.add w4.heap.size 40 #[.int .i64 (d0 + d2), .int .i64 (d1), .int .i64 (0)] rfl
  have E6 := E7.drw
  have C6 := E6.cells
  simp [BC, CF] at C6
  have b6 := below_dr (al1 w4 (.cells #[.int .i64 (d0 + d2), .int .i64 (d1), .int .i64 (0)] 40))
  refine wpPlan_only (fun K hK => ?_)
  try go_simp
  refine hK.out _ _ ⟨cellLater b6 p0, cellLater b6 p1, cellLater b6 p2, cellLater b6 C.2.2.2.2.1.1, cellLater b6 C.2.2.2.2.2.1⟩ ?_
  clear hK K
  try simp only [Act.put, List.setIfInBounds_toArray, List.set_cons_zero, List.set_cons_succ]
  refine wpPlan_end ?_
  replace E := E6
  replace C := C6
  replace c0 := cellLater (envb E7) c0
  replace c1 := cellLater (envb E7) c1
  replace c2 := cellLater (envb E7) c2
  have c0' := c0
  rw [show a.add 0 = a by simp [Addr.add]] at c0'
  have c1' := c1
  rw [show a.add 1 = ⟨a.block, a.off + 1, none⟩ by simp [Addr.add]] at c1'
  have c2' := c2
  rw [show a.add 2 = ⟨a.block, a.off + 2, none⟩ by simp [Addr.add]] at c2'
  clear E7 E6 E5 C5 C6 b5 b6 p0 p1 p2
  go_upto_region 20 with fail
  go_quiet (fail)
  go_wp2_with fail
  go_ret
  exact ⟨rfl, envb (E.dr _)⟩
set_option maxHeartbeats 8000000 in
set_option maxRecDepth 100000 in
theorem ends_31 (mk : ByteArray) (sz ct : Int) (p : Option Addr) (d0 d1 d2 : Int) (cap : Nat) (w : World) (hk : Bar.Ok ⟨mk, sz, ct, 31, p, [d0, d1, d2], cap⟩ w) (h1 : (decide (([d0, d1, d2] : List Int).length ≤ 8) && decide (mk.size ≤ 60)) = true) (hv : barB ⟨mk, sz, ct, 31, p, [d0, d1, d2], cap⟩ = true) :
    Calls Try.prog 7 #[Bar.val ⟨mk, sz, ct, 31, p, [d0, d1, d2], cap⟩] w fun e w' => e = .returned (.bool true) ∧ Below w.heap.size w w' := by
  have h16 := fun W => Short_any ⟨mk, sz, ct, 31, p, [d0, d1, d2], cap⟩ W
  have h18 := fun W (h : Below w.heap.size w W) => Path_ok ⟨mk, sz, ct, 31, p, [d0, d1, d2], cap⟩ W (hk.on h) hv
  have h11 := fun W => Dims_any 31 W
  have hD : ndim 31 = 3 := by kernel_rfl
  have hC : isC 31 = true := by kernel_rfl
  rw [hD, hC] at h11
  have hlen : (pts ⟨mk, sz, ct, 31, p, [d0, d1, d2], cap⟩).length = 4 := by kernel_rfl
  have hp : pt ⟨mk, sz, ct, 31, p, [d0, d1, d2], cap⟩ 3 = ⟨(0 + d0), (0 + d1), (0 + d2)⟩ := by kernel_rfl
  have hp2 : pt ⟨mk, sz, ct, 31, p, [d0, d1, d2], cap⟩ 3 = ⟨d0, d1, d2⟩ := by rw [hp]; simp only [Pt.mk.injEq]; refine ⟨?_, ?_, ?_⟩ <;> first | omega | trivial
  have hlast : ∀ h, (pts ⟨mk, sz, ct, 31, p, [d0, d1, d2], cap⟩)[3]'h = ⟨d0, d1, d2⟩ := fun h => by rw [← hp2]; simp [pts]
  have hbd := fitB_mem _ _ (barB_and hv).2.2.1 (by omega)
  simp only [List.mem_cons, List.not_mem_nil, or_false, forall_eq_or_imp, forall_eq] at hbd
  obtain ⟨a, rfl, hd⟩ := rdz_fn hk.rd rfl (Nat.succ_pos _)
  have c0 := hd 0 (by simp)
  have c1 := hd 1 (by simp)
  have c2 := hd 2 (by simp)
  simp only [List.getElem_cons_zero, List.getElem_cons_succ] at c0 c1 c2
  dsimp only at h16
  rw [h1] at h16
  have E := (Env.nil w).add w.heap.size 32 (Bar.cs ⟨mk, sz, ct, 31, some a, [d0, d1, d2], cap⟩) rfl
  clear hk h1 hv hD hC hp hp2 hd
  simp only [Bar.val, Bar.cs, List.length_cons, List.length_nil, Nat.zero_add, Nat.reduceAdd] at h16 h18 E ⊢
  have HLE := Lib.hid hlen
  have HLA := Lib.hid hlast
  clear hlen hlast
  generalize pts ⟨mk, sz, ct, 31, some a, [d0, d1, d2], cap⟩ = PS at *
  have V1 : IntKind.i64.wrap ((4 : Int) - 1) = 3 := by rw [IntWalk.i64_in _ (by omega)]; rfl
  have V2 : IntKind.i64.wrap 3 = 3 := IntWalk.i64_in _ (by omega)
  have hq : ∀ W, (binOp .eql 40 (.agg #[.int .i64 (d0), .int .i64 (d1), .int .i64 (d2)]) (.agg #[.int .i64 (d0), .int .i64 (d1), .int .i64 (d2)])).run Try.prog W = .ok (.bool true) W := fun W => eq40_same _ _ _ W
  have C := E.cells
  simp [BC, CF] at C
  go_enter Try.func7, Try.ntmps7
  go_upto_region 11 with (first
    | (go_at_call 10; (with_reducible refine (awake_any _).mono ?_); rintro X w1 ⟨rfl, hb⟩; replace E := E.on hb; replace C := E.cells; simp [BC, CF] at C; clear hb)
    | (go_at_call 16; (with_reducible refine (h16 _).mono ?_); rintro X w2 ⟨rfl, hb⟩; replace E := E.on hb; replace C := E.cells; simp [BC, CF] at C; clear hb)
    | (go_at_call 18; (with_reducible refine (h18 _ (envb E)).mono ?_); rintro X w3 ⟨v, rfl, hO, hb⟩; replace E := E.on hb; replace C := E.cells; simp [BC, CF] at C; clear hb; obtain ⟨g, cap2, rfl, p0, p1, p2⟩ := Own.last hO HLE.out HLA.out (show 3 * 3 = 9 from rfl) (show 3 * 3 + 1 = 10 from rfl) (show 3 * 3 + 2 = 11 from rfl))
    | (go_at_call 11; (with_reducible refine (h11 _).mono ?_); rintro X w4 ⟨rfl, hb⟩; replace E := E.on hb; replace p0 := cellLater hb p0; replace p1 := cellLater hb p1; replace p2 := cellLater hb p2; replace C := E.cells; simp [BC, CF] at C; clear hb))
  try dsimp only at p0 p1 p2
  clear hO HLE HLA h16 h18 h11
  refine wp_region_plan 10 [(0, true), (1, true), (2, true), (3, true), (4, true), (5, true), (6, true), (7, true), (8, false), (9, false)] (fun W' => W'.cell? ⟨g, 9, none⟩ = some (.int .i64 (d0)) ∧ W'.cell? ⟨g, 10, none⟩ = some (.int .i64 (d1)) ∧ W'.cell? ⟨g, 11, none⟩ = some (.int .i64 (d2)) ∧ W'.cell? ⟨w.heap.size, 3, none⟩ = some (.int .i64 31) ∧ W'.cell? ⟨w.heap.size, 4, none⟩ = some (.slice (some a) 3 cap)) (by kernel_rfl) (by kernel_rfl) (fun _ _ d _ _ h => by cases d <;> exact h) ⟨p0, p1, p2, C.2.2.2.2.1.1, C.2.2.2.2.2.1⟩ ?_
  simp only [List.filterMap_cons, List.filterMap_nil, List.getElem?_cons_zero, List.getElem?_cons_succ, Option.map_some, List.drop_succ_cons, List.drop_zero]
  iterate 8 (first | (refine wpPlan_still (v := ?_) (Or.inl ⟨by rfl, ?_⟩) ?_; rotate_left; (focus (intro W hW; (try dsimp only at hW); go_split_ands; go_simp; try with_reducible rfl)); try simp only [Act.put, List.setIfInBounds_toArray, List.set_cons_zero, List.set_cons_succ]) | (refine wpPlan_still (Or.inr ⟨by rfl, rfl⟩) ?_; try simp only [Act.put, List.setIfInBounds_toArray, List.set_cons_zero, List.set_cons_succ]))
  refine wpPlan_only (fun K hK => ?_)
  try go_simp
  have E5 := (E.add w4.heap.size 40 #[.int .i64 0, .int .i64 0, .int .i64 0] rfl).drw
  have C5 := E5.cells
  simp [BC, CF] at C5
  have b5 := below_dr (al1 w4 (.cells #[.int .i64 0, .int .i64 0, .int .i64 0] 40))
  refine hK.out _ _ ⟨cellLater b5 p0, cellLater b5 p1, cellLater b5 p2, cellLater b5 C.2.2.2.2.1.1, cellLater b5 C.2.2.2.2.2.1⟩ ?_
  clear hK K
  try simp only [Act.put, List.setIfInBounds_toArray, List.set_cons_zero, List.set_cons_succ]
  have E7 := E.add w4.heap.size 40 #[.int .i64 (d0), .int .i64 (d1), .int .i64 (d2)] rfl
  have E6 := E7.drw
  have C6 := E6.cells
  simp [BC, CF] at C6
  have b6 := below_dr (al1 w4 (.cells #[.int .i64 (d0), .int .i64 (d1), .int .i64 (d2)] 40))
  refine wpPlan_only (fun K hK => ?_)
  try go_simp
  refine hK.out _ _ ⟨cellLater b6 p0, cellLater b6 p1, cellLater b6 p2, cellLater b6 C.2.2.2.2.1.1, cellLater b6 C.2.2.2.2.2.1⟩ ?_
  clear hK K
  try simp only [Act.put, List.setIfInBounds_toArray, List.set_cons_zero, List.set_cons_succ]
  refine wpPlan_end ?_
  replace E := E6
  replace C := C6
  replace c0 := cellLater (envb E7) c0
  replace c1 := cellLater (envb E7) c1
  replace c2 := cellLater (envb E7) c2
  have c0' := c0
  rw [show a.add 0 = a by simp [Addr.add]] at c0'
  have c1' := c1
  rw [show a.add 1 = ⟨a.block, a.off + 1, none⟩ by simp [Addr.add]] at c1'
  have c2' := c2
  rw [show a.add 2 = ⟨a.block, a.off + 2, none⟩ by simp [Addr.add]] at c2'
  clear E7 E6 E5 C5 C6 b5 b6 p0 p1 p2
  go_upto_region 22 with fail
  go_quiet (fail)
  go_wp2_with fail
  go_ret
  exact ⟨rfl, envb (E.dr _)⟩
set_option maxHeartbeats 8000000 in
set_option maxRecDepth 100000 in
theorem ends_41 (mk : ByteArray) (sz ct : Int) (p : Option Addr) (d0 d1 d2 d3 d4 : Int) (cap : Nat) (w : World) (hk : Bar.Ok ⟨mk, sz, ct, 41, p, [d0, d1, d2, d3, d4], cap⟩ w) (h1 : (decide (([d0, d1, d2, d3, d4] : List Int).length ≤ 8) && decide (mk.size ≤ 60)) = true) (hv : barB ⟨mk, sz, ct, 41, p, [d0, d1, d2, d3, d4], cap⟩ = true) :
    Calls Try.prog 7 #[Bar.val ⟨mk, sz, ct, 41, p, [d0, d1, d2, d3, d4], cap⟩] w fun e w' => e = .returned (.bool true) ∧ Below w.heap.size w w' := by
  have h16 := fun W => Short_any ⟨mk, sz, ct, 41, p, [d0, d1, d2, d3, d4], cap⟩ W
  have h18 := fun W (h : Below w.heap.size w W) => Path_ok ⟨mk, sz, ct, 41, p, [d0, d1, d2, d3, d4], cap⟩ W (hk.on h) hv
  have h11 := fun W => Dims_any 41 W
  have hD : ndim 41 = 5 := by kernel_rfl
  have hC : isC 41 = true := by kernel_rfl
  rw [hD, hC] at h11
  have hlen : (pts ⟨mk, sz, ct, 41, p, [d0, d1, d2, d3, d4], cap⟩).length = 6 := by kernel_rfl
  have hp : pt ⟨mk, sz, ct, 41, p, [d0, d1, d2, d3, d4], cap⟩ 5 = ⟨(((0 + d0) + d2) + d4), ((0 + d1) - d3), 0⟩ := by kernel_rfl
  have hp2 : pt ⟨mk, sz, ct, 41, p, [d0, d1, d2, d3, d4], cap⟩ 5 = ⟨d0 + d2 + d4, d1 - d3, 0⟩ := by rw [hp]; simp only [Pt.mk.injEq]; refine ⟨?_, ?_, ?_⟩ <;> first | omega | trivial
  have hlast : ∀ h, (pts ⟨mk, sz, ct, 41, p, [d0, d1, d2, d3, d4], cap⟩)[5]'h = ⟨d0 + d2 + d4, d1 - d3, 0⟩ := fun h => by rw [← hp2]; simp [pts]
  have hbd := fitB_mem _ _ (barB_and hv).2.2.1 (by omega)
  simp only [List.mem_cons, List.not_mem_nil, or_false, forall_eq_or_imp, forall_eq] at hbd
  obtain ⟨a, rfl, hd⟩ := rdz_fn hk.rd rfl (Nat.succ_pos _)
  have c0 := hd 0 (by simp)
  have c1 := hd 1 (by simp)
  have c2 := hd 2 (by simp)
  have c3 := hd 3 (by simp)
  have c4 := hd 4 (by simp)
  simp only [List.getElem_cons_zero, List.getElem_cons_succ] at c0 c1 c2 c3 c4
  dsimp only at h16
  rw [h1] at h16
  have E := (Env.nil w).add w.heap.size 32 (Bar.cs ⟨mk, sz, ct, 41, some a, [d0, d1, d2, d3, d4], cap⟩) rfl
  clear hk h1 hv hD hC hp hp2 hd
  simp only [Bar.val, Bar.cs, List.length_cons, List.length_nil, Nat.zero_add, Nat.reduceAdd] at h16 h18 E ⊢
  have HLE := Lib.hid hlen
  have HLA := Lib.hid hlast
  clear hlen hlast
  generalize pts ⟨mk, sz, ct, 41, some a, [d0, d1, d2, d3, d4], cap⟩ = PS at *
  have W0 : IntKind.i64.wrap (d0 + d2) = d0 + d2 := IntWalk.i64_in _ (by omega)
  have W1 : IntKind.i64.wrap (d0 + d2 + d4) = d0 + d2 + d4 := IntWalk.i64_in _ (by omega)
  have W2 : IntKind.i64.wrap (d1 - d3) = d1 - d3 := IntWalk.i64_in _ (by omega)
  have V1 : IntKind.i64.wrap ((6 : Int) - 1) = 5 := by rw [IntWalk.i64_in _ (by omega)]; rfl
  have V2 : IntKind.i64.wrap 5 = 5 := IntWalk.i64_in _ (by omega)
  have hq : ∀ W, (binOp .eql 40 (.agg #[.int .i64 (d0 + d2 + d4), .int .i64 (d1 - d3), .int .i64 (0)]) (.agg #[.int .i64 (d0 + d2 + d4), .int .i64 (d1 - d3), .int .i64 (0)])).run Try.prog W = .ok (.bool true) W := fun W => eq40_same _ _ _ W
  have C := E.cells
  simp [BC, CF] at C
  go_enter Try.func7, Try.ntmps7
  go_upto_region 11 with (first
    | (go_at_call 10; (with_reducible refine (awake_any _).mono ?_); rintro X w1 ⟨rfl, hb⟩; replace E := E.on hb; replace C := E.cells; simp [BC, CF] at C; clear hb)
    | (go_at_call 16; (with_reducible refine (h16 _).mono ?_); rintro X w2 ⟨rfl, hb⟩; replace E := E.on hb; replace C := E.cells; simp [BC, CF] at C; clear hb)
    | (go_at_call 18; (with_reducible refine (h18 _ (envb E)).mono ?_); rintro X w3 ⟨v, rfl, hO, hb⟩; replace E := E.on hb; replace C := E.cells; simp [BC, CF] at C; clear hb; obtain ⟨g, cap2, rfl, p0, p1, p2⟩ := Own.last hO HLE.out HLA.out (show 5 * 3 = 15 from rfl) (show 5 * 3 + 1 = 16 from rfl) (show 5 * 3 + 2 = 17 from rfl))
    | (go_at_call 11; (with_reducible refine (h11 _).mono ?_); rintro X w4 ⟨rfl, hb⟩; replace E := E.on hb; replace p0 := cellLater hb p0; replace p1 := cellLater hb p1; replace p2 := cellLater hb p2; replace C := E.cells; simp [BC, CF] at C; clear hb))
  try dsimp only at p0 p1 p2
  clear hO HLE HLA h16 h18 h11
  refine wp_region_plan 10 [(0, true), (1, true), (2, true), (3, true), (4, true), (5, true), (6, true), (7, true), (8, false), (9, false)] (fun W' => W'.cell? ⟨g, 15, none⟩ = some (.int .i64 (d0 + d2 + d4)) ∧ W'.cell? ⟨g, 16, none⟩ = some (.int .i64 (d1 - d3)) ∧ W'.cell? ⟨g, 17, none⟩ = some (.int .i64 (0)) ∧ W'.cell? ⟨w.heap.size, 3, none⟩ = some (.int .i64 41) ∧ W'.cell? ⟨w.heap.size, 4, none⟩ = some (.slice (some a) 5 cap)) (by kernel_rfl) (by kernel_rfl) (fun _ _ d _ _ h => by cases d <;> exact h) ⟨p0, p1, p2, C.2.2.2.2.1.1, C.2.2.2.2.2.1⟩ ?_
  simp only [List.filterMap_cons, List.filterMap_nil, List.getElem?_cons_zero, List.getElem?_cons_succ, Option.map_some, List.drop_succ_cons, List.drop_zero]
  iterate 8 (first | (refine wpPlan_still (v := ?_) (Or.inl ⟨by rfl, ?_⟩) ?_; rotate_left; (focus (intro W hW; (try dsimp only at hW); go_split_ands; go_simp; try with_reducible rfl)); try simp only [Act.put, List.setIfInBounds_toArray, List.set_cons_zero, List.set_cons_succ]) | (refine wpPlan_still (Or.inr ⟨by rfl, rfl⟩) ?_; try simp only [Act.put, List.setIfInBounds_toArray, List.set_cons_zero, List.set_cons_succ]))
  refine wpPlan_only (fun K hK => ?_)
  try go_simp
  have E5 := (E.add w4.heap.size 40 #[.int .i64 0, .int .i64 0, .int .i64 0] rfl).drw
  have C5 := E5.cells
  simp [BC, CF] at C5
  have b5 := below_dr (al1 w4 (.cells #[.int .i64 0, .int .i64 0, .int .i64 0] 40))
  refine hK.out _ _ ⟨cellLater b5 p0, cellLater b5 p1, cellLater b5 p2, cellLater b5 C.2.2.2.2.1.1, cellLater b5 C.2.2.2.2.2.1⟩ ?_
  clear hK K
  try simp only [Act.put, List.setIfInBounds_toArray, List.set_cons_zero, List.set_cons_succ]
  have E7 := E.add w4.heap.size 40 #[.int .i64 (d0 + d2 + d4), .int .i64 (d1 - d3), .int .i64 (0)] rfl
  have E6 := E7.drw
  have C6 := E6.cells
  simp [BC, CF] at C6
  have b6 := below_dr (al1 w4 (.cells #[.int .i64 (d0 + d2 + d4), .int .i64 (d1 - d3), .int .i64 (0)] 40))
  refine wpPlan_only (fun K hK => ?_)
  try go_simp
  refine hK.out _ _ ⟨cellLater b6 p0, cellLater b6 p1, cellLater b6 p2, cellLater b6 C.2.2.2.2.1.1, cellLater b6 C.2.2.2.2.2.1⟩ ?_
  clear hK K
  try simp only [Act.put, List.setIfInBounds_toArray, List.set_cons_zero, List.set_cons_succ]
  refine wpPlan_end ?_
  replace E := E6
  replace C := C6
  replace c0 := cellLater (envb E7) c0
  replace c1 := cellLater (envb E7) c1
  replace c2 := cellLater (envb E7) c2
  replace c3 := cellLater (envb E7) c3
  replace c4 := cellLater (envb E7) c4
  have c0' := c0
  rw [show a.add 0 = a by simp [Addr.add]] at c0'
  have c1' := c1
  rw [show a.add 1 = ⟨a.block, a.off + 1, none⟩ by simp [Addr.add]] at c1'
  have c2' := c2
  rw [show a.add 2 = ⟨a.block, a.off + 2, none⟩ by simp [Addr.add]] at c2'
  have c3' := c3
  rw [show a.add 3 = ⟨a.block, a.off + 3, none⟩ by simp [Addr.add]] at c3'
  have c4' := c4
  rw [show a.add 4 = ⟨a.block, a.off + 4, none⟩ by simp [Addr.add]] at c4'
  clear E7 E6 E5 C5 C6 b5 b6 p0 p1 p2
  go_upto_region 24 with fail
  go_quiet (fail)
  go_wp2_with fail
  go_ret
  exact ⟨rfl, envb (E.dr _)⟩
set_option maxHeartbeats 8000000 in
set_option maxRecDepth 100000 in
theorem ends_51 (mk : ByteArray) (sz ct : Int) (p : Option Addr) (d0 d1 d2 : Int) (cap : Nat) (w : World) (hk : Bar.Ok ⟨mk, sz, ct, 51, p, [d0, d1, d2], cap⟩ w) (h1 : (decide (([d0, d1, d2] : List Int).length ≤ 8) && decide (mk.size ≤ 60)) = true) (hv : barB ⟨mk, sz, ct, 51, p, [d0, d1, d2], cap⟩ = true) :
    Calls Try.prog 7 #[Bar.val ⟨mk, sz, ct, 51, p, [d0, d1, d2], cap⟩] w fun e w' => e = .returned (.bool true) ∧ Below w.heap.size w w' := by
  have h16 := fun W => Short_any ⟨mk, sz, ct, 51, p, [d0, d1, d2], cap⟩ W
  have h18 := fun W (h : Below w.heap.size w W) => Path_ok ⟨mk, sz, ct, 51, p, [d0, d1, d2], cap⟩ W (hk.on h) hv
  have h11 := fun W => Dims_any 51 W
  have hD : ndim 51 = 3 := by kernel_rfl
  have hC : isC 51 = true := by kernel_rfl
  rw [hD, hC] at h11
  have hlen : (pts ⟨mk, sz, ct, 51, p, [d0, d1, d2], cap⟩).length = 7 := by kernel_rfl
  have hp : pt ⟨mk, sz, ct, 51, p, [d0, d1, d2], cap⟩ 6 = ⟨(((0 + d0) - d0) + d2), (((0 - d2) + d1) - d1), 0⟩ := by kernel_rfl
  have hp2 : pt ⟨mk, sz, ct, 51, p, [d0, d1, d2], cap⟩ 6 = ⟨d2, -d2, 0⟩ := by rw [hp]; simp only [Pt.mk.injEq]; refine ⟨?_, ?_, ?_⟩ <;> first | omega | trivial
  have hlast : ∀ h, (pts ⟨mk, sz, ct, 51, p, [d0, d1, d2], cap⟩)[6]'h = ⟨d2, -d2, 0⟩ := fun h => by rw [← hp2]; simp [pts]
  have hbd := fitB_mem _ _ (barB_and hv).2.2.1 (by omega)
  simp only [List.mem_cons, List.not_mem_nil, or_false, forall_eq_or_imp, forall_eq] at hbd
  obtain ⟨a, rfl, hd⟩ := rdz_fn hk.rd rfl (Nat.succ_pos _)
  have c0 := hd 0 (by simp)
  have c1 := hd 1 (by simp)
  have c2 := hd 2 (by simp)
  simp only [List.getElem_cons_zero, List.getElem_cons_succ] at c0 c1 c2
  dsimp only at h16
  rw [h1] at h16
  have E := (Env.nil w).add w.heap.size 32 (Bar.cs ⟨mk, sz, ct, 51, some a, [d0, d1, d2], cap⟩) rfl
  clear hk h1 hv hD hC hp hp2 hd
  simp only [Bar.val, Bar.cs, List.length_cons, List.length_nil, Nat.zero_add, Nat.reduceAdd] at h16 h18 E ⊢
  have HLE := Lib.hid hlen
  have HLA := Lib.hid hlast
  clear hlen hlast
  generalize pts ⟨mk, sz, ct, 51, some a, [d0, d1, d2], cap⟩ = PS at *
  have W0 : IntKind.i64.wrap (-d2) = -d2 := IntWalk.i64_in _ (by omega)
  have V1 : IntKind.i64.wrap ((7 : Int) - 1) = 6 := by rw [IntWalk.i64_in _ (by omega)]; rfl
  have V2 : IntKind.i64.wrap 6 = 6 := IntWalk.i64_in _ (by omega)
  have hq : ∀ W, (binOp .eql 40 (.agg #[.int .i64 (d2), .int .i64 (-d2), .int .i64 (0)]) (.agg #[.int .i64 (d2), .int .i64 (-d2), .int .i64 (0)])).run Try.prog W = .ok (.bool true) W := fun W => eq40_same _ _ _ W
  have C := E.cells
  simp [BC, CF] at C
  go_enter Try.func7, Try.ntmps7
  go_upto_region 11 with (first
    | (go_at_call 10; (with_reducible refine (awake_any _).mono ?_); rintro X w1 ⟨rfl, hb⟩; replace E := E.on hb; replace C := E.cells; simp [BC, CF] at C; clear hb)
    | (go_at_call 16; (with_reducible refine (h16 _).mono ?_); rintro X w2 ⟨rfl, hb⟩; replace E := E.on hb; replace C := E.cells; simp [BC, CF] at C; clear hb)
    | (go_at_call 18; (with_reducible refine (h18 _ (envb E)).mono ?_); rintro X w3 ⟨v, rfl, hO, hb⟩; replace E := E.on hb; replace C := E.cells; simp [BC, CF] at C; clear hb; obtain ⟨g, cap2, rfl, p0, p1, p2⟩ := Own.last hO HLE.out HLA.out (show 6 * 3 = 18 from rfl) (show 6 * 3 + 1 = 19 from rfl) (show 6 * 3 + 2 = 20 from rfl))
    | (go_at_call 11; (with_reducible refine (h11 _).mono ?_); rintro X w4 ⟨rfl, hb⟩; replace E := E.on hb; replace p0 := cellLater hb p0; replace p1 := cellLater hb p1; replace p2 := cellLater hb p2; replace C := E.cells; simp [BC, CF] at C; clear hb))
  try dsimp only at p0 p1 p2
  clear hO HLE HLA h16 h18 h11
  refine wp_region_plan 10 [(0, true), (1, true), (2, true), (3, true), (4, true), (5, true), (6, true), (7, true), (8, false), (9, false)] (fun W' => W'.cell? ⟨g, 18, none⟩ = some (.int .i64 (d2)) ∧ W'.cell? ⟨g, 19, none⟩ = some (.int .i64 (-d2)) ∧ W'.cell? ⟨g, 20, none⟩ = some (.int .i64 (0)) ∧ W'.cell? ⟨w.heap.size, 3, none⟩ = some (.int .i64 51) ∧ W'.cell? ⟨w.heap.size, 4, none⟩ = some (.slice (some a) 3 cap)) (by kernel_rfl) (by kernel_rfl) (fun _ _ d _ _ h => by cases d <;> exact h) ⟨p0, p1, p2, C.2.2.2.2.1.1, C.2.2.2.2.2.1⟩ ?_
  simp only [List.filterMap_cons, List.filterMap_nil, List.getElem?_cons_zero, List.getElem?_cons_succ, Option.map_some, List.drop_succ_cons, List.drop_zero]
  iterate 8 (first | (refine wpPlan_still (v := ?_) (Or.inl ⟨by rfl, ?_⟩) ?_; rotate_left; (focus (intro W hW; (try dsimp only at hW); go_split_ands; go_simp; try with_reducible rfl)); try simp only [Act.put, List.setIfInBounds_toArray, List.set_cons_zero, List.set_cons_succ]) | (refine wpPlan_still (Or.inr ⟨by rfl, rfl⟩) ?_; try simp only [Act.put, List.setIfInBounds_toArray, List.set_cons_zero, List.set_cons_succ]))
  refine wpPlan_only (fun K hK => ?_)
  try go_simp
  have E5 := (E.add w4.heap.size 40 #[.int .i64 0, .int .i64 0, .int .i64 0] rfl).drw
  have C5 := E5.cells
  simp [BC, CF] at C5
  have b5 := below_dr (al1 w4 (.cells #[.int .i64 0, .int .i64 0, .int .i64 0] 40))
  refine hK.out _ _ ⟨cellLater b5 p0, cellLater b5 p1, cellLater b5 p2, cellLater b5 C.2.2.2.2.1.1, cellLater b5 C.2.2.2.2.2.1⟩ ?_
  clear hK K
  try simp only [Act.put, List.setIfInBounds_toArray, List.set_cons_zero, List.set_cons_succ]
  have E7 := E.add w4.heap.size 40 #[.int .i64 (d2), .int .i64 (-d2), .int .i64 (0)] rfl
  have E6 := E7.drw
  have C6 := E6.cells
  simp [BC, CF] at C6
  have b6 := below_dr (al1 w4 (.cells #[.int .i64 (d2), .int .i64 (-d2), .int .i64 (0)] 40))
  refine wpPlan_only (fun K hK => ?_)
  try go_simp
  refine hK.out _ _ ⟨cellLater b6 p0, cellLater b6 p1, cellLater b6 p2, cellLater b6 C.2.2.2.2.1.1, cellLater b6 C.2.2.2.2.2.1⟩ ?_
  clear hK K
  try simp only [Act.put, List.setIfInBounds_toArray, List.set_cons_zero, List.set_cons_succ]
  refine wpPlan_end ?_
  replace E := E6
  replace C := C6
  replace c0 := cellLater (envb E7) c0
  replace c1 := cellLater (envb E7) c1
  replace c2 := cellLater (envb E7) c2
  have c0' := c0
  rw [show a.add 0 = a by simp [Addr.add]] at c0'
  have c1' := c1
  rw [show a.add 1 = ⟨a.block, a.off + 1, none⟩ by simp [Addr.add]] at c1'
  have c2' := c2
  rw [show a.add 2 = ⟨a.block, a.off + 2, none⟩ by simp [Addr.add]] at c2'
  clear E7 E6 E5 C5 C6 b5 b6 p0 p1 p2
  go_upto_region 26 with fail
  go_quiet (fail)
  go_wp2_with fail
  go_ret
  exact ⟨rfl, envb (E.dr _)⟩
set_option maxHeartbeats 8000000 in
set_option maxRecDepth 100000 in
theorem ends_98 (mk : ByteArray) (sz ct : Int) (p : Option Addr) (d0 d1 d2 : Int) (cap : Nat) (w : World) (hk : Bar.Ok ⟨mk, sz, ct, 98, p, [d0, d1, d2], cap⟩ w) (h1 : (decide (([d0, d1, d2] : List Int).length ≤ 8) && decide (mk.size ≤ 60)) = true) (hv : barB ⟨mk, sz, ct, 98, p, [d0, d1, d2], cap⟩ = true) :
    Calls Try.prog 7 #[Bar.val ⟨mk, sz, ct, 98, p, [d0, d1, d2], cap⟩] w fun e w' => e = .returned (.bool true) ∧ Below w.heap.size w w' := by
  have h16 := fun W => Short_any ⟨mk, sz, ct, 98, p, [d0, d1, d2], cap⟩ W
  have h18 := fun W (h : Below w.heap.size w W) => Path_ok ⟨mk, sz, ct, 98, p, [d0, d1, d2], cap⟩ W (hk.on h) hv
  have h11 := fun W => Dims_any 98 W
  have hD : ndim 98 = 3 := by kernel_rfl
  have hC : isC 98 = true := by kernel_rfl
  rw [hD, hC] at h11
  have hlen : (pts ⟨mk, sz, ct, 98, p, [d0, d1, d2], cap⟩).length = 6 := by kernel_rfl
  have hp : pt ⟨mk, sz, ct, 98, p, [d0, d1, d2], cap⟩ 5 = ⟨(0 + d2), ((0 - d1) + d1), ((0 + d0) + d0)⟩ := by kernel_rfl
  have hp2 : pt ⟨mk, sz, ct, 98, p, [d0, d1, d2], cap⟩ 5 = ⟨d2, 0, 2 * d0⟩ := by rw [hp]; simp only [Pt.mk.injEq]; refine ⟨?_, ?_, ?_⟩ <;> first | omega | trivial
  have hlast : ∀ h, (pts ⟨mk, sz, ct, 98, p, [d0, d1, d2], cap⟩)[5]'h = ⟨d2, 0, 2 * d0⟩ := fun h => by rw [← hp2]; simp [pts]
  have hbd := fitB_mem _ _ (barB_and hv).2.2.1 (by omega)
  simp only [List.mem_cons, List.not_mem_nil, or_false, forall_eq_or_imp, forall_eq] at hbd
  obtain ⟨a, rfl, hd⟩ := rdz_fn hk.rd rfl (Nat.succ_pos _)
  have c0 := hd 0 (by simp)
  have c1 := hd 1 (by simp)
  have c2 := hd 2 (by simp)
  simp only [List.getElem_cons_zero, List.getElem_cons_succ] at c0 c1 c2
  dsimp only at h16
  rw [h1] at h16
  have E := (Env.nil w).add w.heap.size 32 (Bar.cs ⟨mk, sz, ct, 98, some a, [d0, d1, d2], cap⟩) rfl
  clear hk h1 hv hD hC hp hp2 hd
  simp only [Bar.val, Bar.cs, List.length_cons, List.length_nil, Nat.zero_add, Nat.reduceAdd] at h16 h18 E ⊢
  have HLE := Lib.hid hlen
  have HLA := Lib.hid hlast
  clear hlen hlast
  generalize pts ⟨mk, sz, ct, 98, some a, [d0, d1, d2], cap⟩ = PS at *
  have W0 : IntKind.i64.wrap (2 * d0) = 2 * d0 := IntWalk.i64_in _ (by omega)
  have V1 : IntKind.i64.wrap ((6 : Int) - 1) = 5 := by rw [IntWalk.i64_in _ (by omega)]; rfl
  have V2 : IntKind.i64.wrap 5 = 5 := IntWalk.i64_in _ (by omega)
  have hq : ∀ W, (binOp .eql 40 (.agg #[.int .i64 (d2), .int .i64 (0), .int .i64 (2 * d0)]) (.agg #[.int .i64 (d2), .int .i64 (0), .int .i64 (2 * d0)])).run Try.prog W = .ok (.bool true) W := fun W => eq40_same _ _ _ W
  have C := E.cells
  simp [BC, CF] at C
  go_enter Try.func7, Try.ntmps7
  go_upto_region 11 with (first
    | (go_at_call 10; (with_reducible refine (awake_any _).mono ?_); rintro X w1 ⟨rfl, hb⟩; replace E := E.on hb; replace C := E.cells; simp [BC, CF] at C; clear hb)
    | (go_at_call 16; (with_reducible refine (h16 _).mono ?_); rintro X w2 ⟨rfl, hb⟩; replace E := E.on hb; replace C := E.cells; simp [BC, CF] at C; clear hb)
    | (go_at_call 18; (with_reducible refine (h18 _ (envb E)).mono ?_); rintro X w3 ⟨v, rfl, hO, hb⟩; replace E := E.on hb; replace C := E.cells; simp [BC, CF] at C; clear hb; obtain ⟨g, cap2, rfl, p0, p1, p2⟩ := Own.last hO HLE.out HLA.out (show 5 * 3 = 15 from rfl) (show 5 * 3 + 1 = 16 from rfl) (show 5 * 3 + 2 = 17 from rfl))
    | (go_at_call 11; (with_reducible refine (h11 _).mono ?_); rintro X w4 ⟨rfl, hb⟩; replace E := E.on hb; replace p0 := cellLater hb p0; replace p1 := cellLater hb p1; replace p2 := cellLater hb p2; replace C := E.cells; simp [BC, CF] at C; clear hb))
  try dsimp only at p0 p1 p2
  clear hO HLE HLA h16 h18 h11
  refine wp_region_plan 10 [(0, true), (1, true), (2, true), (3, true), (4, true), (5, true), (6, true), (7, true), (8, false), (9, false)] (fun W' => W'.cell? ⟨g, 15, none⟩ = some (.int .i64 (d2)) ∧ W'.cell? ⟨g, 16, none⟩ = some (.int .i64 (0)) ∧ W'.cell? ⟨g, 17, none⟩ = some (.int .i64 (2 * d0)) ∧ W'.cell? ⟨w.heap.size, 3, none⟩ = some (.int .i64 98) ∧ W'.cell? ⟨w.heap.size, 4, none⟩ = some (.slice (some a) 3 cap)) (by kernel_rfl) (by kernel_rfl) (fun _ _ d _ _ h => by cases d <;> exact h) ⟨p0, p1, p2, C.2.2.2.2.1.1, C.2.2.2.2.2.1⟩ ?_
  simp only [List.filterMap_cons, List.filterMap_nil, List.getElem?_cons_zero, List.getElem?_cons_succ, Option.map_some, List.drop_succ_cons, List.drop_zero]
  iterate 8 (first | (refine wpPlan_still (v := ?_) (Or.inl ⟨by rfl, ?_⟩) ?_; rotate_left; (focus (intro W hW; (try dsimp only at hW); go_split_ands; go_simp; try with_reducible rfl)); try simp only [Act.put, List.setIfInBounds_toArray, List.set_cons_zero, List.set_cons_succ]) | (refine wpPlan_still (Or.inr ⟨by rfl, rfl⟩) ?_; try simp only [Act.put, List.setIfInBounds_toArray, List.set_cons_zero, List.set_cons_succ]))
  refine wpPlan_only (fun K hK => ?_)
  try go_simp
  have E5 := (E.add w4.heap.size 40 #[.int .i64 0, .int .i64 0, .int .i64 0] rfl).drw
  have C5 := E5.cells
  simp [BC, CF] at C5
  have b5 := below_dr (al1 w4 (.cells #[.int .i64 0, .int .i64 0, .int .i64 0] 40))
  refine hK.out _ _ ⟨cellLater b5 p0, cellLater b5 p1, cellLater b5 p2, cellLater b5 C.2.2.2.2.1.1, cellLater b5 C.2.2.2.2.2.1⟩ ?_
  clear hK K
  try simp only [Act.put, List.setIfInBounds_toArray, List.set_cons_zero, List.set_cons_succ]
  have E7 := E.add w4.heap.size 40 #[.int .i64 (d2), .int .i64 (0), .int .i64 (2 * d0)] rfl
  have E6 := E7.drw
  have C6 := E6.cells
  simp [BC, CF] at C6
  have b6 := below_dr (al1 w4 (.cells #[.int .i64 (d2), .int .i64 (0), .int .i64 (2 * d0)] 40))
  refine wpPlan_only (fun K hK => ?_)
  try go_simp
  refine hK.out _ _ ⟨cellLater b6 p0, cellLater b6 p1, cellLater b6 p2, cellLater b6 C.2.2.2.2.1.1, cellLater b6 C.2.2.2.2.2.1⟩ ?_
  clear hK K
  try simp only [Act.put, List.setIfInBounds_toArray, List.set_cons_zero, List.set_cons_succ]
  refine wpPlan_end ?_
  replace E := E6
  replace C := C6
  replace c0 := cellLater (envb E7) c0
  replace c1 := cellLater (envb E7) c1
  replace c2 := cellLater (envb E7) c2
  have c0' := c0
  rw [show a.add 0 = a by simp [Addr.add]] at c0'
  have c1' := c1
  rw [show a.add 1 = ⟨a.block, a.off + 1, none⟩ by simp [Addr.add]] at c1'
  have c2' := c2
  rw [show a.add 2 = ⟨a.block, a.off + 2, none⟩ by simp [Addr.add]] at c2'
  clear E7 E6 E5 C5 C6 b5 b6 p0 p1 p2
  go_upto_region 27 with fail
  go_quiet (fail)
  go_wp2_with fail
  go_ret
  exact ⟨rfl, envb (E.dr _)⟩
theorem ends_walk (b : Bar) (w : World) (hk : b.Ok w) : Calls Try.prog 7 #[b.val] w fun e w' => e = .returned (.bool true) ∧ Below w.heap.size w w' := by
  cases h1 : (decide (b.ds.length ≤ 8) && decide (b.mark.size ≤ 60))
  · exact ends_s b w hk h1
  cases hv : barB b
  · exact ends_n b w hk h1 hv
  obtain ⟨hC, hl, -⟩ := barB_and hv
  obtain ⟨mk, sz, ct, cd, p, ds, cap⟩ := b
  dsimp only at hC hl h1
  rcases code_in hC with rfl | rfl | rfl | rfl | rfl | rfl | rfl | rfl
  · have hl' : ds.length = 1 := hl.trans (by kernel_rfl)
    match ds, hl' with
    | [d0], _ => exact ends_0 mk sz ct p d0 cap w hk h1 hv
  · have hl' : ds.length = 2 := hl.trans (by kernel_rfl)
    match ds, hl' with
    | [d0, d1], _ => exact ends_11 mk sz ct p d0 d1 cap w hk h1 hv
  · have hl' : ds.length = 3 := hl.trans (by kernel_rfl)
    match ds, hl' with
    | [d0, d1, d2], _ => exact ends_21 mk sz ct p d0 d1 d2 cap w hk h1 hv
  · have hl' : ds.length = 3 := hl.trans (by kernel_rfl)
    match ds, hl' with
    | [d0, d1, d2], _ => exact ends_26 mk sz ct p d0 d1 d2 cap w hk h1 hv
  · have hl' : ds.length = 3 := hl.trans (by kernel_rfl)
    match ds, hl' with
    | [d0, d1, d2], _ => exact ends_31 mk sz ct p d0 d1 d2 cap w hk h1 hv
  · have hl' : ds.length = 5 := hl.trans (by kernel_rfl)
    match ds, hl' with
    | [d0, d1, d2, d3, d4], _ => exact ends_41 mk sz ct p d0 d1 d2 d3 d4 cap w hk h1 hv
  · have hl' : ds.length = 3 := hl.trans (by kernel_rfl)
    match ds, hl' with
    | [d0, d1, d2], _ => exact ends_51 mk sz ct p d0 d1 d2 cap w hk h1 hv
  · have hl' : ds.length = 3 := hl.trans (by kernel_rfl)
    match ds, hl' with
    | [d0, d1, d2], _ => exact ends_98 mk sz ct p d0 d1 d2 cap w hk h1 hv
end Go.Proofs.Ytcadghenjcaaiaa
