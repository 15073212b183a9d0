/- RatioMakes returns true: the walk. -/
import Derived.Test.YtbbbmlnggehcdaaDoorRv
namespace Go.Proofs.YtbbbmlnggehcdaaDoor
open Go.ChangeShapes Go.WideShapes Go.ChangeAt Go.RowKit
set_option linter.unusedVariables false
set_option linter.unusedSimpArgs false

theorem six {w0 w : World} {g h i : Nat} {x q y r n d : Int} (E : Env w0 w [⟨g, x, q⟩, ⟨h, y, r⟩, ⟨i, n, d⟩]) :
    w.cell? ⟨g, 0, none⟩ = some (.int .i64 x) ∧ w.cell? ⟨g, 1, none⟩ = some (.int .i64 q) ∧ w.cell? ⟨h, 0, none⟩ = some (.int .i64 y) ∧ w.cell? ⟨h, 1, none⟩ = some (.int .i64 r) ∧ w.cell? ⟨i, 0, none⟩ = some (.int .i64 n) ∧ w.cell? ⟨i, 1, none⟩ = some (.int .i64 d) ∧ Env w0 w [⟨g, x, q⟩, ⟨h, y, r⟩, ⟨i, n, d⟩] :=
  ⟨E.cells.1.1, E.cells.1.2.1, E.cells.2.1.1, E.cells.2.1.2.1, E.cells.2.2.1.1, E.cells.2.2.1.2.1, E⟩

set_option maxRecDepth 100000 in
set_option maxHeartbeats 8000000 in
theorem makes_bad (num den n d x q e0 : Int) (w : World) (z1 : -9223372036854775808 ≤ num) (z2 : num ≤ 9223372036854775807) (z3 : -9223372036854775808 ≤ den) (z4 : den ≤ 9223372036854775807) (n1 : -9223372036854775808 ≤ n) (n2 : n ≤ 9223372036854775807) (d1 : -9223372036854775808 ≤ d) (d2 : d ≤ 9223372036854775807) (ht : Tab w) (RM : makeQ num den = (x, q, e0)) (hv : vB n d = false) :
    Calls Tryd.prog 3 #[.int .i64 num, .int .i64 den, .agg #[.int .i64 n, .int .i64 d]] w (Yes w) := by
  have RF : floorR n d = (0, 1) := by unfold floorR; rw [hv]; rfl
  have RC : ceilR n d = (0, 1) := by unfold ceilR; rw [hv]; rfl
  have hRM := fun w => rmake_any num den w z1 z2 z3 z4 RM
  have ss : ((x == x && q == q) && e0 == e0) = true := by simp
  go_enter Tryd.func3, Tryd.ntmps3
  go_wp2_with (first | (go_at_call 11; refine (awake_any _ (ht.on (al1 _ _))).mono ?_; rintro e w0 ⟨rfl, hb⟩; have E := (env_one w n d).on hb; have C := E.cells; simp only [BC] at C; clear hb) | (go_at_call 12; refine (make_p _ _ _ (by omega) (by omega) (by omega) (by omega)).mono ?_; simp only [RM]; rintro e wA ⟨rfl, hb⟩; (first | (replace E := (E.add _ _).on hb) | (replace E := E.on hb)); replace C := E.cells; simp only [BC] at C; clear hb) | (go_at_call 13; refine (hRM _).mono ?_; rintro e wB ⟨rfl, hb⟩; (first | (replace E := (E.add _ _).on hb) | (replace E := E.on hb)); replace C := E.cells; simp only [BC] at C; clear hb) | (go_at_call 14; refine (floor_p _ _ _ (by omega) (by omega) (by omega) (by omega)).mono ?_; simp only [RF]; rintro e wC ⟨rfl, hb⟩; (first | (replace E := (E.add _ _).on hb) | (replace E := E.on hb)); replace C := E.cells; simp only [BC] at C; clear hb) | (go_at_call 15; refine (ceil_p _ _ _ (by omega) (by omega) (by omega) (by omega)).mono ?_; simp only [RC]; rintro e wD ⟨rfl, hb⟩; (first | (replace E := (E.add _ _).on hb) | (replace E := E.on hb)); replace C := E.cells; simp only [BC] at C; clear hb))
  go_region_held3 (fun w' => w'.cell? ⟨wB.heap.size, 0, none⟩ = some (.int .i64 x) ∧ w'.cell? ⟨wB.heap.size, 1, none⟩ = some (.int .i64 q) ∧ w'.cell? ⟨wA.heap.size, 0, none⟩ = some (.int .i64 x) ∧ w'.cell? ⟨wA.heap.size, 1, none⟩ = some (.int .i64 q) ∧ w'.cell? ⟨w.heap.size, 0, none⟩ = some (.int .i64 n) ∧ w'.cell? ⟨w.heap.size, 1, none⟩ = some (.int .i64 d) ∧ Env w w' [⟨wB.heap.size, x, q⟩, ⟨wA.heap.size, x, q⟩, ⟨w.heap.size, n, d⟩]) (first | exact six (E.on (Dr.below' ⟨1, rfl⟩)) | exact six (Env.on (by go_split_ands; assumption) hb) | go_keep) (first | (go_at_call 16; refine (same_any _ _ _ _ _ _ _).mono ?_; simp only [ss]; rintro e w1 ⟨rfl, hb⟩) | (go_at_call 17; refine (valid_any _ _ _ (by omega) (by omega) (by omega) (by omega)).mono ?_; rw [hv]; rintro e w1 ⟨rfl, hb⟩) | (go_at_call 18; refine (rvalid_any _ _ _ (by omega) (by omega) (by omega) (by omega)).mono ?_; rw [hv]; rintro e w1 ⟨rfl, hb⟩))
  all_goals rename_i hH
  all_goals replace E := hH.2.2.2.2.2.2
  all_goals replace C := E.cells
  all_goals simp only [BC] at C
  all_goals clear hH
  all_goals go_wp2_with (first | (go_at_call 18; refine (rvalid_any _ _ _ (by omega) (by omega) (by omega) (by omega)).mono ?_; rw [hv]; rintro e w1 ⟨rfl, hb⟩; (first | (replace E := (E.add _ _).on hb) | (replace E := E.on hb)); replace C := E.cells; simp only [BC] at C; clear hb))
  all_goals go_ret
  all_goals refine ⟨?_, E.1⟩
  all_goals first | rfl | simp

set_option maxRecDepth 100000 in
set_option maxHeartbeats 8000000 in
theorem makes_ok (num den n d x q e0 : Int) (w : World) (z1 : -9223372036854775808 ≤ num) (z2 : num ≤ 9223372036854775807) (z3 : -9223372036854775808 ≤ den) (z4 : den ≤ 9223372036854775807) (ht : Tab w) (RM : makeQ num den = (x, q, e0)) (v : V n d) :
    Calls Tryd.prog 3 #[.int .i64 num, .int .i64 den, .agg #[.int .i64 n, .int .i64 d]] w (Yes w) := by
  have hv := vB_t.2 v
  have RF : floorR n d = (floorQ n d, 0) := by unfold floorR; rw [hv]; rfl
  have RC : ceilR n d = (ceilQ n d, 0) := by unfold ceilR; rw [hv]; rfl
  have hRM := fun w => rmake_any num den w z1 z2 z3 z4 RM
  obtain ⟨d1, d2, n1, n2, -⟩ := v
  have ss : ((x == x && q == q) && e0 == e0) = true := by simp
  go_enter Tryd.func3, Tryd.ntmps3
  go_wp2_with (first | (go_at_call 11; refine (awake_any _ (ht.on (al1 _ _))).mono ?_; rintro e w0 ⟨rfl, hb⟩; have E := (env_one w n d).on hb; have C := E.cells; simp only [BC] at C; clear hb) | (go_at_call 12; refine (make_p _ _ _ (by omega) (by omega) (by omega) (by omega)).mono ?_; simp only [RM]; rintro e wA ⟨rfl, hb⟩; (first | (replace E := (E.add _ _).on hb) | (replace E := E.on hb)); replace C := E.cells; simp only [BC] at C; clear hb) | (go_at_call 13; refine (hRM _).mono ?_; rintro e wB ⟨rfl, hb⟩; (first | (replace E := (E.add _ _).on hb) | (replace E := E.on hb)); replace C := E.cells; simp only [BC] at C; clear hb) | (go_at_call 14; refine (floor_p _ _ _ (by omega) (by omega) (by omega) (by omega)).mono ?_; simp only [RF]; rintro e wC ⟨rfl, hb⟩; (first | (replace E := (E.add _ _).on hb) | (replace E := E.on hb)); replace C := E.cells; simp only [BC] at C; clear hb) | (go_at_call 15; refine (ceil_p _ _ _ (by omega) (by omega) (by omega) (by omega)).mono ?_; simp only [RC]; rintro e wD ⟨rfl, hb⟩; (first | (replace E := (E.add _ _).on hb) | (replace E := E.on hb)); replace C := E.cells; simp only [BC] at C; clear hb))
  go_region_held3 (fun w' => w'.cell? ⟨wB.heap.size, 0, none⟩ = some (.int .i64 x) ∧ w'.cell? ⟨wB.heap.size, 1, none⟩ = some (.int .i64 q) ∧ w'.cell? ⟨wA.heap.size, 0, none⟩ = some (.int .i64 x) ∧ w'.cell? ⟨wA.heap.size, 1, none⟩ = some (.int .i64 q) ∧ w'.cell? ⟨w.heap.size, 0, none⟩ = some (.int .i64 n) ∧ w'.cell? ⟨w.heap.size, 1, none⟩ = some (.int .i64 d) ∧ Env w w' [⟨wB.heap.size, x, q⟩, ⟨wA.heap.size, x, q⟩, ⟨w.heap.size, n, d⟩]) (first | exact six (E.on (Dr.below' ⟨1, rfl⟩)) | exact six (Env.on (by go_split_ands; assumption) hb) | go_keep) (first | (go_at_call 16; refine (same_any _ _ _ _ _ _ _).mono ?_; simp only [ss]; rintro e w1 ⟨rfl, hb⟩) | (go_at_call 17; refine (valid_any _ _ _ (by omega) (by omega) (by omega) (by omega)).mono ?_; rw [hv]; rintro e w1 ⟨rfl, hb⟩) | (go_at_call 18; refine (rvalid_any _ _ _ (by omega) (by omega) (by omega) (by omega)).mono ?_; rw [hv]; rintro e w1 ⟨rfl, hb⟩))
  all_goals rename_i hH
  all_goals replace E := hH.2.2.2.2.2.2
  all_goals replace C := E.cells
  all_goals simp only [BC] at C
  all_goals clear hH
  all_goals go_wp2_with (first | (go_at_call 18; refine (rvalid_any _ _ _ (by omega) (by omega) (by omega) (by omega)).mono ?_; rw [hv]; rintro e w1 ⟨rfl, hb⟩; (first | (replace E := (E.add _ _).on hb) | (replace E := E.on hb)); replace C := E.cells; simp only [BC] at C; clear hb) | (go_at_call 19; refine (rfloor_any _ _ _ (by omega) (by omega) (by omega) (by omega)).mono ?_; rintro e w1 ⟨rfl, hb⟩; (first | (replace E := (E.add _ _).on hb) | (replace E := E.on hb)); replace C := E.cells; simp only [BC] at C; clear hb) | (go_at_call 20; refine (rceil_any _ _ _ (by omega) (by omega) (by omega) (by omega)).mono ?_; rintro e w1 ⟨rfl, hb⟩; (first | (replace E := (E.add _ _).on hb) | (replace E := E.on hb)); replace C := E.cells; simp only [BC] at C; clear hb))
  all_goals go_ret
  all_goals refine ⟨?_, E.1⟩
  all_goals first | rfl | simp

theorem makes_walk (num den n d : Int) (w : World) (h1 : I64 num) (h2 : I64 den) (h3 : I64 n) (h4 : I64 d) (ht : Tab w) :
    Calls Tryd.prog 3 #[.int .i64 num, .int .i64 den, .agg #[.int .i64 n, .int .i64 d]] w (Yes w) := by
  have RM : makeQ num den = ((makeQ num den).1, (makeQ num den).2.1, (makeQ num den).2.2) := rfl
  cases h : vB n d
  · exact makes_bad num den n d _ _ _ w h1.1 h1.2 h2.1 h2.2 h3.1 h3.2 h4.1 h4.2 ht RM h
  · exact makes_ok num den n d _ _ _ w h1.1 h1.2 h2.1 h2.2 ht RM (vB_t.1 h)
end Go.Proofs.YtbbbmlnggehcdaaDoor
