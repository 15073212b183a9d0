/- The closure of SolidHalves. -/
import Derived.Test.YtkgaahmehmbfjaaHv0
import Derived.Test.YtkgaahmehmbfjaaZ7
import Derived.Test.YtkgaahmehmbfjaaZ2
import Derived.Test.YtkgaahmehmbfjaaZ6
namespace Go.Proofs.Ytkgaahmehmbfjaa
open Go.ChangeShapes Go.WideShapes Go.ChangeAt Go.RowKit
set_option linter.unusedVariables false
set_option linter.unusedSimpArgs false

theorem box_cells6 {w : World} {g : Nat} {b : Bx} (h : Has w g 30 #[.int .i64 b.a, .int .i64 b.b, .int .i64 b.c, .int .i64 b.d, .int .i64 b.e, .int .i64 b.f]) : w.cell? ⟨g, 0, none⟩ = some (.int .i64 b.a) ∧ w.cell? ⟨g, 1, none⟩ = some (.int .i64 b.b) ∧ w.cell? ⟨g, 2, none⟩ = some (.int .i64 b.c) ∧ w.cell? ⟨g, 3, none⟩ = some (.int .i64 b.d) ∧ w.cell? ⟨g, 4, none⟩ = some (.int .i64 b.e) ∧ w.cell? ⟨g, 5, none⟩ = some (.int .i64 b.f) :=
  ⟨h.read 0, h.read 1, h.read 2, h.read 3, h.read 4, h.read 5⟩
set_option maxHeartbeats 8000000 in
set_option maxRecDepth 100000 in
theorem at38_0 (g : Nat) (b : Bx) (n : Int) (w : World) (hb : b.ok = true) (n0 : 0 ≤ n) (n1 : n ≤ 65535) (hG : Has w g 30 #[.int .i64 b.a, .int .i64 b.b, .int .i64 b.c, .int .i64 b.d, .int .i64 b.e, .int .i64 b.f]) :
    Calls Try.prog 38 #[.int .i64 0, .int .u16 n, .pointer (some ⟨g, 0, none⟩)] w fun e w' => e = .returned (.int .i64 (atI b.a b.d n)) ∧ Below w.heap.size w w' := by
  have hk := Bx.ok_i.1 hb
  obtain ⟨b0, b1, b2, b3⟩ := at_b (d := b.d - b.a) (n := n) (by omega) n0 n1
  have W1 : IntKind.i64.wrap (b.d - b.a) = b.d - b.a := IntWalk.i64_in _ (by omega)
  have W2 : IntKind.i64.wrap n = n := IntWalk.i64_in _ (by omega)
  have W3 : IntKind.i64.wrap ((b.d - b.a) * n) = (b.d - b.a) * n := IntWalk.i64_in _ (by omega)
  have W4 : IntKind.i64.wrap (((b.d - b.a) * n).tdiv 65535) = ((b.d - b.a) * n).tdiv 65535 := IntWalk.i64_in _ (by omega)
  have W5 : IntKind.i64.wrap (b.a + ((b.d - b.a) * n).tdiv 65535) = b.a + ((b.d - b.a) * n).tdiv 65535 := IntWalk.i64_in _ (by omega)
  clear b0 b1 b2 b3 hk
  have c1 := fun W => rcoord0 b.a b.b b.c W
  have c2 := fun W => rcoord0 b.d b.e b.f W
  unfold atI
  have B : Below w.heap.size w w.drew := below_dr (Below.refl _ w)
  go_enter Try.func38, Try.ntmps38
  go_upto_region 1 with fail
  refine wp_region_plan 8 [(0, true), (1, true), (2, true), (4, true), (5, true), (6, true), (3, false), (7, false)] (fun W' => W'.cell? ⟨g, 0, none⟩ = some (.int .i64 b.a) ∧ W'.cell? ⟨g, 1, none⟩ = some (.int .i64 b.b) ∧ W'.cell? ⟨g, 2, none⟩ = some (.int .i64 b.c) ∧ W'.cell? ⟨g, 3, none⟩ = some (.int .i64 b.d) ∧ W'.cell? ⟨g, 4, none⟩ = some (.int .i64 b.e) ∧ W'.cell? ⟨g, 5, none⟩ = some (.int .i64 b.f)) (by kernel_rfl) (by kernel_rfl) (fun _ _ d _ _ h => by cases d <;> exact h) (box_cells6 hG) ?_
  simp only [List.filterMap_cons, List.filterMap_nil, List.getElem?_cons_zero, List.getElem?_cons_succ, Option.map_some, List.drop_succ_cons, List.drop_zero]
  iterate 6 (first | (refine wpPlan_still (v := ?_) (Or.inl ⟨by rfl, ?_⟩) ?_; rotate_left; (focus (intro W hW; (try dsimp only at hW); go_split_ands; go_simp; try with_reducible rfl)); try simp only [Act.put, List.setIfInBounds_toArray, List.set_cons_zero, List.set_cons_succ]) | (refine wpPlan_still (Or.inr ⟨by rfl, rfl⟩) ?_; try simp only [Act.put, List.setIfInBounds_toArray, List.set_cons_zero, List.set_cons_succ]))
  refine wpPlan_only (fun K hK => ?_)
  try go_simp
  (go_at_call 39; (with_reducible refine (c1 _).mono ?_); rintro X wq ⟨rfl, hb⟩)
  replace B := belows B hb
  clear hb
  refine hK.out _ _ (box_cells6 (hG.on B)) ?_
  clear hK K
  try simp only [Act.put, List.setIfInBounds_toArray, List.set_cons_zero, List.set_cons_succ]
  refine wpPlan_only (fun K hK => ?_)
  try go_simp
  (go_at_call 39; (with_reducible refine (c2 _).mono ?_); rintro X wq ⟨rfl, hb⟩)
  replace B := belows B hb
  clear hb
  refine hK.out _ _ (box_cells6 (hG.on B)) ?_
  clear hK K
  try simp only [Act.put, List.setIfInBounds_toArray, List.set_cons_zero, List.set_cons_succ]
  refine wpPlan_end ?_
  go_wp2
  go_ret
  exact ⟨rfl, B⟩
set_option maxHeartbeats 8000000 in
set_option maxRecDepth 100000 in
theorem at38_1 (g : Nat) (b : Bx) (n : Int) (w : World) (hb : b.ok = true) (n0 : 0 ≤ n) (n1 : n ≤ 65535) (hG : Has w g 30 #[.int .i64 b.a, .int .i64 b.b, .int .i64 b.c, .int .i64 b.d, .int .i64 b.e, .int .i64 b.f]) :
    Calls Try.prog 38 #[.int .i64 1, .int .u16 n, .pointer (some ⟨g, 0, none⟩)] w fun e w' => e = .returned (.int .i64 (atI b.b b.e n)) ∧ Below w.heap.size w w' := by
  have hk := Bx.ok_i.1 hb
  obtain ⟨b0, b1, b2, b3⟩ := at_b (d := b.e - b.b) (n := n) (by omega) n0 n1
  have W1 : IntKind.i64.wrap (b.e - b.b) = b.e - b.b := IntWalk.i64_in _ (by omega)
  have W2 : IntKind.i64.wrap n = n := IntWalk.i64_in _ (by omega)
  have W3 : IntKind.i64.wrap ((b.e - b.b) * n) = (b.e - b.b) * n := IntWalk.i64_in _ (by omega)
  have W4 : IntKind.i64.wrap (((b.e - b.b) * n).tdiv 65535) = ((b.e - b.b) * n).tdiv 65535 := IntWalk.i64_in _ (by omega)
  have W5 : IntKind.i64.wrap (b.b + ((b.e - b.b) * n).tdiv 65535) = b.b + ((b.e - b.b) * n).tdiv 65535 := IntWalk.i64_in _ (by omega)
  clear b0 b1 b2 b3 hk
  have c1 := fun W => rcoord1 b.a b.b b.c W
  have c2 := fun W => rcoord1 b.d b.e b.f W
  unfold atI
  have B : Below w.heap.size w w.drew := below_dr (Below.refl _ w)
  go_enter Try.func38, Try.ntmps38
  go_upto_region 1 with fail
  refine wp_region_plan 8 [(0, true), (1, true), (2, true), (4, true), (5, true), (6, true), (3, false), (7, false)] (fun W' => W'.cell? ⟨g, 0, none⟩ = some (.int .i64 b.a) ∧ W'.cell? ⟨g, 1, none⟩ = some (.int .i64 b.b) ∧ W'.cell? ⟨g, 2, none⟩ = some (.int .i64 b.c) ∧ W'.cell? ⟨g, 3, none⟩ = some (.int .i64 b.d) ∧ W'.cell? ⟨g, 4, none⟩ = some (.int .i64 b.e) ∧ W'.cell? ⟨g, 5, none⟩ = some (.int .i64 b.f)) (by kernel_rfl) (by kernel_rfl) (fun _ _ d _ _ h => by cases d <;> exact h) (box_cells6 hG) ?_
  simp only [List.filterMap_cons, List.filterMap_nil, List.getElem?_cons_zero, List.getElem?_cons_succ, Option.map_some, List.drop_succ_cons, List.drop_zero]
  iterate 6 (first | (refine wpPlan_still (v := ?_) (Or.inl ⟨by rfl, ?_⟩) ?_; rotate_left; (focus (intro W hW; (try dsimp only at hW); go_split_ands; go_simp; try with_reducible rfl)); try simp only [Act.put, List.setIfInBounds_toArray, List.set_cons_zero, List.set_cons_succ]) | (refine wpPlan_still (Or.inr ⟨by rfl, rfl⟩) ?_; try simp only [Act.put, List.setIfInBounds_toArray, List.set_cons_zero, List.set_cons_succ]))
  refine wpPlan_only (fun K hK => ?_)
  try go_simp
  (go_at_call 39; (with_reducible refine (c1 _).mono ?_); rintro X wq ⟨rfl, hb⟩)
  replace B := belows B hb
  clear hb
  refine hK.out _ _ (box_cells6 (hG.on B)) ?_
  clear hK K
  try simp only [Act.put, List.setIfInBounds_toArray, List.set_cons_zero, List.set_cons_succ]
  refine wpPlan_only (fun K hK => ?_)
  try go_simp
  (go_at_call 39; (with_reducible refine (c2 _).mono ?_); rintro X wq ⟨rfl, hb⟩)
  replace B := belows B hb
  clear hb
  refine hK.out _ _ (box_cells6 (hG.on B)) ?_
  clear hK K
  try simp only [Act.put, List.setIfInBounds_toArray, List.set_cons_zero, List.set_cons_succ]
  refine wpPlan_end ?_
  go_wp2
  go_ret
  exact ⟨rfl, B⟩
set_option maxHeartbeats 8000000 in
set_option maxRecDepth 100000 in
theorem at38_2 (g : Nat) (b : Bx) (n : Int) (w : World) (hb : b.ok = true) (n0 : 0 ≤ n) (n1 : n ≤ 65535) (hG : Has w g 30 #[.int .i64 b.a, .int .i64 b.b, .int .i64 b.c, .int .i64 b.d, .int .i64 b.e, .int .i64 b.f]) :
    Calls Try.prog 38 #[.int .i64 2, .int .u16 n, .pointer (some ⟨g, 0, none⟩)] w fun e w' => e = .returned (.int .i64 (atI b.c b.f n)) ∧ Below w.heap.size w w' := by
  have hk := Bx.ok_i.1 hb
  obtain ⟨b0, b1, b2, b3⟩ := at_b (d := b.f - b.c) (n := n) (by omega) n0 n1
  have W1 : IntKind.i64.wrap (b.f - b.c) = b.f - b.c := IntWalk.i64_in _ (by omega)
  have W2 : IntKind.i64.wrap n = n := IntWalk.i64_in _ (by omega)
  have W3 : IntKind.i64.wrap ((b.f - b.c) * n) = (b.f - b.c) * n := IntWalk.i64_in _ (by omega)
  have W4 : IntKind.i64.wrap (((b.f - b.c) * n).tdiv 65535) = ((b.f - b.c) * n).tdiv 65535 := IntWalk.i64_in _ (by omega)
  have W5 : IntKind.i64.wrap (b.c + ((b.f - b.c) * n).tdiv 65535) = b.c + ((b.f - b.c) * n).tdiv 65535 := IntWalk.i64_in _ (by omega)
  clear b0 b1 b2 b3 hk
  have c1 := fun W => rcoord2 b.a b.b b.c W
  have c2 := fun W => rcoord2 b.d b.e b.f W
  unfold atI
  have B : Below w.heap.size w w.drew := below_dr (Below.refl _ w)
  go_enter Try.func38, Try.ntmps38
  go_upto_region 1 with fail
  refine wp_region_plan 8 [(0, true), (1, true), (2, true), (4, true), (5, true), (6, true), (3, false), (7, false)] (fun W' => W'.cell? ⟨g, 0, none⟩ = some (.int .i64 b.a) ∧ W'.cell? ⟨g, 1, none⟩ = some (.int .i64 b.b) ∧ W'.cell? ⟨g, 2, none⟩ = some (.int .i64 b.c) ∧ W'.cell? ⟨g, 3, none⟩ = some (.int .i64 b.d) ∧ W'.cell? ⟨g, 4, none⟩ = some (.int .i64 b.e) ∧ W'.cell? ⟨g, 5, none⟩ = some (.int .i64 b.f)) (by kernel_rfl) (by kernel_rfl) (fun _ _ d _ _ h => by cases d <;> exact h) (box_cells6 hG) ?_
  simp only [List.filterMap_cons, List.filterMap_nil, List.getElem?_cons_zero, List.getElem?_cons_succ, Option.map_some, List.drop_succ_cons, List.drop_zero]
  iterate 6 (first | (refine wpPlan_still (v := ?_) (Or.inl ⟨by rfl, ?_⟩) ?_; rotate_left; (focus (intro W hW; (try dsimp only at hW); go_split_ands; go_simp; try with_reducible rfl)); try simp only [Act.put, List.setIfInBounds_toArray, List.set_cons_zero, List.set_cons_succ]) | (refine wpPlan_still (Or.inr ⟨by rfl, rfl⟩) ?_; try simp only [Act.put, List.setIfInBounds_toArray, List.set_cons_zero, List.set_cons_succ]))
  refine wpPlan_only (fun K hK => ?_)
  try go_simp
  (go_at_call 39; (with_reducible refine (c1 _).mono ?_); rintro X wq ⟨rfl, hb⟩)
  replace B := belows B hb
  clear hb
  refine hK.out _ _ (box_cells6 (hG.on B)) ?_
  clear hK K
  try simp only [Act.put, List.setIfInBounds_toArray, List.set_cons_zero, List.set_cons_succ]
  refine wpPlan_only (fun K hK => ?_)
  try go_simp
  (go_at_call 39; (with_reducible refine (c2 _).mono ?_); rintro X wq ⟨rfl, hb⟩)
  replace B := belows B hb
  clear hb
  refine hK.out _ _ (box_cells6 (hG.on B)) ?_
  clear hK K
  try simp only [Act.put, List.setIfInBounds_toArray, List.set_cons_zero, List.set_cons_succ]
  refine wpPlan_end ?_
  go_wp2
  go_ret
  exact ⟨rfl, B⟩
end Go.Proofs.Ytkgaahmehmbfjaa
