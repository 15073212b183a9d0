/- The reference: how far boxes are apart along an axis. -/
import Derived.Test.YtffigpkkdljaiaaRc
namespace Go.Proofs.Ytffigpkkdljaiaa
open Go.ChangeShapes Go.WideShapes Go.ChangeAt Go.RowKit
set_option linter.unusedVariables false
set_option linter.unusedSimpArgs false

theorem cells_xy {x y : Bx} {w W' : World} (h : Env w W' [⟨w.heap.size + 1, 25, #[.int .i64 y.a, .int .i64 y.b, .int .i64 y.c, .int .i64 y.d, .int .i64 y.e, .int .i64 y.f]⟩, ⟨w.heap.size, 25, #[.int .i64 x.a, .int .i64 x.b, .int .i64 x.c, .int .i64 x.d, .int .i64 x.e, .int .i64 x.f]⟩]) : W'.cell? ⟨w.heap.size, 0, none⟩ = some (.int .i64 x.a) ∧ W'.cell? ⟨w.heap.size, 1, none⟩ = some (.int .i64 x.b) ∧ W'.cell? ⟨w.heap.size, 2, none⟩ = some (.int .i64 x.c) ∧ W'.cell? ⟨w.heap.size, 3, none⟩ = some (.int .i64 x.d) ∧ W'.cell? ⟨w.heap.size, 4, none⟩ = some (.int .i64 x.e) ∧ W'.cell? ⟨w.heap.size, 5, none⟩ = some (.int .i64 x.f) ∧ W'.cell? ⟨w.heap.size + 1, 0, none⟩ = some (.int .i64 y.a) ∧ W'.cell? ⟨w.heap.size + 1, 1, none⟩ = some (.int .i64 y.b) ∧ W'.cell? ⟨w.heap.size + 1, 2, none⟩ = some (.int .i64 y.c) ∧ W'.cell? ⟨w.heap.size + 1, 3, none⟩ = some (.int .i64 y.d) ∧ W'.cell? ⟨w.heap.size + 1, 4, none⟩ = some (.int .i64 y.e) ∧ W'.cell? ⟨w.heap.size + 1, 5, none⟩ = some (.int .i64 y.f) ∧ Env w W' [⟨w.heap.size + 1, 25, #[.int .i64 y.a, .int .i64 y.b, .int .i64 y.c, .int .i64 y.d, .int .i64 y.e, .int .i64 y.f]⟩, ⟨w.heap.size, 25, #[.int .i64 x.a, .int .i64 x.b, .int .i64 x.c, .int .i64 x.d, .int .i64 x.e, .int .i64 x.f]⟩] := by
  have C := h.cells
  simp [BC, CF] at C
  simp [C, h]
set_option maxHeartbeats 16000000 in
set_option maxRecDepth 100000 in
theorem ralong0 (x y : Bx) (w : World) (hx : x.ok = true) (hy : y.ok = true) : Calls Try.prog 46 #[x.val, y.val, .int .i64 0] w fun E w' => E = .returned (.int .i64 (gp x y 0)) ∧ Below w.heap.size w w' := by
  have E := ((Env.nil w).add w.heap.size 25 #[.int .i64 x.a, .int .i64 x.b, .int .i64 x.c, .int .i64 x.d, .int .i64 x.e, .int .i64 x.f] rfl).add (w.heap.size + 1) 25 #[.int .i64 y.a, .int .i64 y.b, .int .i64 y.c, .int .i64 y.d, .int .i64 y.e, .int .i64 y.f] (by simp)
  have h1 := Bx.ok_t hx
  have h2 := Bx.ok_t hy
  have W1 : IntKind.i64.wrap (y.a - x.d) = y.a - x.d := IntWalk.i64_in _ (by omega)
  have W2 : IntKind.i64.wrap (x.a - y.d) = x.a - y.d := IntWalk.i64_in _ (by omega)
  have c0 := fun W => rcoord0 y.a y.b y.c W
  have c1 := fun W => rcoord0 x.d x.e x.f W
  have c2 := fun W => rcoord0 x.a x.b x.c W
  have c3 := fun W => rcoord0 y.d y.e y.f W
  clear h1 h2 hx hy
  unfold Bx.val
  have C := E.cells
  simp [BC, CF] at C
  by_cases hc : y.a - x.d < x.a - y.d
  · have hg : gp x y 0 = x.a - y.d := by unfold gp gapS; exact mx_l hc
    rw [hg]
    go_enter Try.func46, Try.ntmps46
    go_upto_region 1 with fail
    go_region_held3 (fun W' => W'.cell? ⟨w.heap.size, 0, none⟩ = some (.int .i64 x.a) ∧ W'.cell? ⟨w.heap.size, 1, none⟩ = some (.int .i64 x.b) ∧ W'.cell? ⟨w.heap.size, 2, none⟩ = some (.int .i64 x.c) ∧ W'.cell? ⟨w.heap.size, 3, none⟩ = some (.int .i64 x.d) ∧ W'.cell? ⟨w.heap.size, 4, none⟩ = some (.int .i64 x.e) ∧ W'.cell? ⟨w.heap.size, 5, none⟩ = some (.int .i64 x.f) ∧ W'.cell? ⟨w.heap.size + 1, 0, none⟩ = some (.int .i64 y.a) ∧ W'.cell? ⟨w.heap.size + 1, 1, none⟩ = some (.int .i64 y.b) ∧ W'.cell? ⟨w.heap.size + 1, 2, none⟩ = some (.int .i64 y.c) ∧ W'.cell? ⟨w.heap.size + 1, 3, none⟩ = some (.int .i64 y.d) ∧ W'.cell? ⟨w.heap.size + 1, 4, none⟩ = some (.int .i64 y.e) ∧ W'.cell? ⟨w.heap.size + 1, 5, none⟩ = some (.int .i64 y.f) ∧ Env w W' [⟨w.heap.size + 1, 25, #[.int .i64 y.a, .int .i64 y.b, .int .i64 y.c, .int .i64 y.d, .int .i64 y.e, .int .i64 y.f]⟩, ⟨w.heap.size, 25, #[.int .i64 x.a, .int .i64 x.b, .int .i64 x.c, .int .i64 x.d, .int .i64 x.e, .int .i64 x.f]⟩]) (first | exact cells_xy (by go_split_ands; assumption) | exact cells_xy E | exact cells_xy E.drw) (((go_at_call 44; first | with_reducible refine (c0 _).mono ?_ | with_reducible refine (c1 _).mono ?_ | with_reducible refine (c2 _).mono ?_ | with_reducible refine (c3 _).mono ?_); rintro X w1 ⟨rfl, hb⟩; (first | have E := E.drw.on hb | have E := E.on hb); clear hb))
    all_goals go_wp2
    all_goals go_ret
    all_goals exact ⟨ret_one (by omega), E.1⟩
  · have hg : gp x y 0 = y.a - x.d := by unfold gp gapS; exact mx_r hc
    rw [hg]
    go_enter Try.func46, Try.ntmps46
    go_upto_region 1 with fail
    go_region_held3 (fun W' => W'.cell? ⟨w.heap.size, 0, none⟩ = some (.int .i64 x.a) ∧ W'.cell? ⟨w.heap.size, 1, none⟩ = some (.int .i64 x.b) ∧ W'.cell? ⟨w.heap.size, 2, none⟩ = some (.int .i64 x.c) ∧ W'.cell? ⟨w.heap.size, 3, none⟩ = some (.int .i64 x.d) ∧ W'.cell? ⟨w.heap.size, 4, none⟩ = some (.int .i64 x.e) ∧ W'.cell? ⟨w.heap.size, 5, none⟩ = some (.int .i64 x.f) ∧ W'.cell? ⟨w.heap.size + 1, 0, none⟩ = some (.int .i64 y.a) ∧ W'.cell? ⟨w.heap.size + 1, 1, none⟩ = some (.int .i64 y.b) ∧ W'.cell? ⟨w.heap.size + 1, 2, none⟩ = some (.int .i64 y.c) ∧ W'.cell? ⟨w.heap.size + 1, 3, none⟩ = some (.int .i64 y.d) ∧ W'.cell? ⟨w.heap.size + 1, 4, none⟩ = some (.int .i64 y.e) ∧ W'.cell? ⟨w.heap.size + 1, 5, none⟩ = some (.int .i64 y.f) ∧ Env w W' [⟨w.heap.size + 1, 25, #[.int .i64 y.a, .int .i64 y.b, .int .i64 y.c, .int .i64 y.d, .int .i64 y.e, .int .i64 y.f]⟩, ⟨w.heap.size, 25, #[.int .i64 x.a, .int .i64 x.b, .int .i64 x.c, .int .i64 x.d, .int .i64 x.e, .int .i64 x.f]⟩]) (first | exact cells_xy (by go_split_ands; assumption) | exact cells_xy E | exact cells_xy E.drw) (((go_at_call 44; first | with_reducible refine (c0 _).mono ?_ | with_reducible refine (c1 _).mono ?_ | with_reducible refine (c2 _).mono ?_ | with_reducible refine (c3 _).mono ?_); rintro X w1 ⟨rfl, hb⟩; (first | have E := E.drw.on hb | have E := E.on hb); clear hb))
    all_goals go_wp2
    all_goals go_ret
    all_goals exact ⟨ret_one (by omega), E.1⟩
set_option maxHeartbeats 16000000 in
set_option maxRecDepth 100000 in
theorem ralong1 (x y : Bx) (w : World) (hx : x.ok = true) (hy : y.ok = true) : Calls Try.prog 46 #[x.val, y.val, .int .i64 1] w fun E w' => E = .returned (.int .i64 (gp x y 1)) ∧ Below w.heap.size w w' := by
  have E := ((Env.nil w).add w.heap.size 25 #[.int .i64 x.a, .int .i64 x.b, .int .i64 x.c, .int .i64 x.d, .int .i64 x.e, .int .i64 x.f] rfl).add (w.heap.size + 1) 25 #[.int .i64 y.a, .int .i64 y.b, .int .i64 y.c, .int .i64 y.d, .int .i64 y.e, .int .i64 y.f] (by simp)
  have h1 := Bx.ok_t hx
  have h2 := Bx.ok_t hy
  have W1 : IntKind.i64.wrap (y.b - x.e) = y.b - x.e := IntWalk.i64_in _ (by omega)
  have W2 : IntKind.i64.wrap (x.b - y.e) = x.b - y.e := IntWalk.i64_in _ (by omega)
  have c0 := fun W => rcoord1 y.a y.b y.c W
  have c1 := fun W => rcoord1 x.d x.e x.f W
  have c2 := fun W => rcoord1 x.a x.b x.c W
  have c3 := fun W => rcoord1 y.d y.e y.f W
  clear h1 h2 hx hy
  unfold Bx.val
  have C := E.cells
  simp [BC, CF] at C
  by_cases hc : y.b - x.e < x.b - y.e
  · have hg : gp x y 1 = x.b - y.e := by unfold gp gapS; exact mx_l hc
    rw [hg]
    go_enter Try.func46, Try.ntmps46
    go_upto_region 1 with fail
    go_region_held3 (fun W' => W'.cell? ⟨w.heap.size, 0, none⟩ = some (.int .i64 x.a) ∧ W'.cell? ⟨w.heap.size, 1, none⟩ = some (.int .i64 x.b) ∧ W'.cell? ⟨w.heap.size, 2, none⟩ = some (.int .i64 x.c) ∧ W'.cell? ⟨w.heap.size, 3, none⟩ = some (.int .i64 x.d) ∧ W'.cell? ⟨w.heap.size, 4, none⟩ = some (.int .i64 x.e) ∧ W'.cell? ⟨w.heap.size, 5, none⟩ = some (.int .i64 x.f) ∧ W'.cell? ⟨w.heap.size + 1, 0, none⟩ = some (.int .i64 y.a) ∧ W'.cell? ⟨w.heap.size + 1, 1, none⟩ = some (.int .i64 y.b) ∧ W'.cell? ⟨w.heap.size + 1, 2, none⟩ = some (.int .i64 y.c) ∧ W'.cell? ⟨w.heap.size + 1, 3, none⟩ = some (.int .i64 y.d) ∧ W'.cell? ⟨w.heap.size + 1, 4, none⟩ = some (.int .i64 y.e) ∧ W'.cell? ⟨w.heap.size + 1, 5, none⟩ = some (.int .i64 y.f) ∧ Env w W' [⟨w.heap.size + 1, 25, #[.int .i64 y.a, .int .i64 y.b, .int .i64 y.c, .int .i64 y.d, .int .i64 y.e, .int .i64 y.f]⟩, ⟨w.heap.size, 25, #[.int .i64 x.a, .int .i64 x.b, .int .i64 x.c, .int .i64 x.d, .int .i64 x.e, .int .i64 x.f]⟩]) (first | exact cells_xy (by go_split_ands; assumption) | exact cells_xy E | exact cells_xy E.drw) (((go_at_call 44; first | with_reducible refine (c0 _).mono ?_ | with_reducible refine (c1 _).mono ?_ | with_reducible refine (c2 _).mono ?_ | with_reducible refine (c3 _).mono ?_); rintro X w1 ⟨rfl, hb⟩; (first | have E := E.drw.on hb | have E := E.on hb); clear hb))
    all_goals go_wp2
    all_goals go_ret
    all_goals exact ⟨ret_one (by omega), E.1⟩
  · have hg : gp x y 1 = y.b - x.e := by unfold gp gapS; exact mx_r hc
    rw [hg]
    go_enter Try.func46, Try.ntmps46
    go_upto_region 1 with fail
    go_region_held3 (fun W' => W'.cell? ⟨w.heap.size, 0, none⟩ = some (.int .i64 x.a) ∧ W'.cell? ⟨w.heap.size, 1, none⟩ = some (.int .i64 x.b) ∧ W'.cell? ⟨w.heap.size, 2, none⟩ = some (.int .i64 x.c) ∧ W'.cell? ⟨w.heap.size, 3, none⟩ = some (.int .i64 x.d) ∧ W'.cell? ⟨w.heap.size, 4, none⟩ = some (.int .i64 x.e) ∧ W'.cell? ⟨w.heap.size, 5, none⟩ = some (.int .i64 x.f) ∧ W'.cell? ⟨w.heap.size + 1, 0, none⟩ = some (.int .i64 y.a) ∧ W'.cell? ⟨w.heap.size + 1, 1, none⟩ = some (.int .i64 y.b) ∧ W'.cell? ⟨w.heap.size + 1, 2, none⟩ = some (.int .i64 y.c) ∧ W'.cell? ⟨w.heap.size + 1, 3, none⟩ = some (.int .i64 y.d) ∧ W'.cell? ⟨w.heap.size + 1, 4, none⟩ = some (.int .i64 y.e) ∧ W'.cell? ⟨w.heap.size + 1, 5, none⟩ = some (.int .i64 y.f) ∧ Env w W' [⟨w.heap.size + 1, 25, #[.int .i64 y.a, .int .i64 y.b, .int .i64 y.c, .int .i64 y.d, .int .i64 y.e, .int .i64 y.f]⟩, ⟨w.heap.size, 25, #[.int .i64 x.a, .int .i64 x.b, .int .i64 x.c, .int .i64 x.d, .int .i64 x.e, .int .i64 x.f]⟩]) (first | exact cells_xy (by go_split_ands; assumption) | exact cells_xy E | exact cells_xy E.drw) (((go_at_call 44; first | with_reducible refine (c0 _).mono ?_ | with_reducible refine (c1 _).mono ?_ | with_reducible refine (c2 _).mono ?_ | with_reducible refine (c3 _).mono ?_); rintro X w1 ⟨rfl, hb⟩; (first | have E := E.drw.on hb | have E := E.on hb); clear hb))
    all_goals go_wp2
    all_goals go_ret
    all_goals exact ⟨ret_one (by omega), E.1⟩
set_option maxHeartbeats 16000000 in
set_option maxRecDepth 100000 in
theorem ralong2 (x y : Bx) (w : World) (hx : x.ok = true) (hy : y.ok = true) : Calls Try.prog 46 #[x.val, y.val, .int .i64 2] w fun E w' => E = .returned (.int .i64 (gp x y 2)) ∧ Below w.heap.size w w' := by
  have E := ((Env.nil w).add w.heap.size 25 #[.int .i64 x.a, .int .i64 x.b, .int .i64 x.c, .int .i64 x.d, .int .i64 x.e, .int .i64 x.f] rfl).add (w.heap.size + 1) 25 #[.int .i64 y.a, .int .i64 y.b, .int .i64 y.c, .int .i64 y.d, .int .i64 y.e, .int .i64 y.f] (by simp)
  have h1 := Bx.ok_t hx
  have h2 := Bx.ok_t hy
  have W1 : IntKind.i64.wrap (y.c - x.f) = y.c - x.f := IntWalk.i64_in _ (by omega)
  have W2 : IntKind.i64.wrap (x.c - y.f) = x.c - y.f := IntWalk.i64_in _ (by omega)
  have c0 := fun W => rcoord2 y.a y.b y.c W
  have c1 := fun W => rcoord2 x.d x.e x.f W
  have c2 := fun W => rcoord2 x.a x.b x.c W
  have c3 := fun W => rcoord2 y.d y.e y.f W
  clear h1 h2 hx hy
  unfold Bx.val
  have C := E.cells
  simp [BC, CF] at C
  by_cases hc : y.c - x.f < x.c - y.f
  · have hg : gp x y 2 = x.c - y.f := by unfold gp gapS; exact mx_l hc
    rw [hg]
    go_enter Try.func46, Try.ntmps46
    go_upto_region 1 with fail
    go_region_held3 (fun W' => W'.cell? ⟨w.heap.size, 0, none⟩ = some (.int .i64 x.a) ∧ W'.cell? ⟨w.heap.size, 1, none⟩ = some (.int .i64 x.b) ∧ W'.cell? ⟨w.heap.size, 2, none⟩ = some (.int .i64 x.c) ∧ W'.cell? ⟨w.heap.size, 3, none⟩ = some (.int .i64 x.d) ∧ W'.cell? ⟨w.heap.size, 4, none⟩ = some (.int .i64 x.e) ∧ W'.cell? ⟨w.heap.size, 5, none⟩ = some (.int .i64 x.f) ∧ W'.cell? ⟨w.heap.size + 1, 0, none⟩ = some (.int .i64 y.a) ∧ W'.cell? ⟨w.heap.size + 1, 1, none⟩ = some (.int .i64 y.b) ∧ W'.cell? ⟨w.heap.size + 1, 2, none⟩ = some (.int .i64 y.c) ∧ W'.cell? ⟨w.heap.size + 1, 3, none⟩ = some (.int .i64 y.d) ∧ W'.cell? ⟨w.heap.size + 1, 4, none⟩ = some (.int .i64 y.e) ∧ W'.cell? ⟨w.heap.size + 1, 5, none⟩ = some (.int .i64 y.f) ∧ Env w W' [⟨w.heap.size + 1, 25, #[.int .i64 y.a, .int .i64 y.b, .int .i64 y.c, .int .i64 y.d, .int .i64 y.e, .int .i64 y.f]⟩, ⟨w.heap.size, 25, #[.int .i64 x.a, .int .i64 x.b, .int .i64 x.c, .int .i64 x.d, .int .i64 x.e, .int .i64 x.f]⟩]) (first | exact cells_xy (by go_split_ands; assumption) | exact cells_xy E | exact cells_xy E.drw) (((go_at_call 44; first | with_reducible refine (c0 _).mono ?_ | with_reducible refine (c1 _).mono ?_ | with_reducible refine (c2 _).mono ?_ | with_reducible refine (c3 _).mono ?_); rintro X w1 ⟨rfl, hb⟩; (first | have E := E.drw.on hb | have E := E.on hb); clear hb))
    all_goals go_wp2
    all_goals go_ret
    all_goals exact ⟨ret_one (by omega), E.1⟩
  · have hg : gp x y 2 = y.c - x.f := by unfold gp gapS; exact mx_r hc
    rw [hg]
    go_enter Try.func46, Try.ntmps46
    go_upto_region 1 with fail
    go_region_held3 (fun W' => W'.cell? ⟨w.heap.size, 0, none⟩ = some (.int .i64 x.a) ∧ W'.cell? ⟨w.heap.size, 1, none⟩ = some (.int .i64 x.b) ∧ W'.cell? ⟨w.heap.size, 2, none⟩ = some (.int .i64 x.c) ∧ W'.cell? ⟨w.heap.size, 3, none⟩ = some (.int .i64 x.d) ∧ W'.cell? ⟨w.heap.size, 4, none⟩ = some (.int .i64 x.e) ∧ W'.cell? ⟨w.heap.size, 5, none⟩ = some (.int .i64 x.f) ∧ W'.cell? ⟨w.heap.size + 1, 0, none⟩ = some (.int .i64 y.a) ∧ W'.cell? ⟨w.heap.size + 1, 1, none⟩ = some (.int .i64 y.b) ∧ W'.cell? ⟨w.heap.size + 1, 2, none⟩ = some (.int .i64 y.c) ∧ W'.cell? ⟨w.heap.size + 1, 3, none⟩ = some (.int .i64 y.d) ∧ W'.cell? ⟨w.heap.size + 1, 4, none⟩ = some (.int .i64 y.e) ∧ W'.cell? ⟨w.heap.size + 1, 5, none⟩ = some (.int .i64 y.f) ∧ Env w W' [⟨w.heap.size + 1, 25, #[.int .i64 y.a, .int .i64 y.b, .int .i64 y.c, .int .i64 y.d, .int .i64 y.e, .int .i64 y.f]⟩, ⟨w.heap.size, 25, #[.int .i64 x.a, .int .i64 x.b, .int .i64 x.c, .int .i64 x.d, .int .i64 x.e, .int .i64 x.f]⟩]) (first | exact cells_xy (by go_split_ands; assumption) | exact cells_xy E | exact cells_xy E.drw) (((go_at_call 44; first | with_reducible refine (c0 _).mono ?_ | with_reducible refine (c1 _).mono ?_ | with_reducible refine (c2 _).mono ?_ | with_reducible refine (c3 _).mono ?_); rintro X w1 ⟨rfl, hb⟩; (first | have E := E.drw.on hb | have E := E.on hb); clear hb))
    all_goals go_wp2
    all_goals go_ret
    all_goals exact ⟨ret_one (by omega), E.1⟩
end Go.Proofs.Ytffigpkkdljaiaa
