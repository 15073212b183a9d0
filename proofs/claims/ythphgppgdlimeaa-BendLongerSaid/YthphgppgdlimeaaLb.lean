/- Arc, Allowance, parts, Developed, Cut, Mass, Bends. -/
import Derived.Test.YthphgppgdlimeaaLa
import Derived.Test.YthphgppgdlimeaaPx
import Derived.Test.YthphgppgdlimeaaOpn
import Derived.Laws.StructEq
import Derived.Deep.CutBlock
namespace Go.Proofs.Ythphgppgdlimeaa
open Go.ChangeShapes Go.WideShapes Go.ChangeAt Go.RowKit
set_option linter.unusedVariables false
set_option linter.unusedSimpArgs false

theorem eq24 (a b c d : Int) (W : World) : (binOp .eql 24 (.agg #[.int .i64 a, .int .i64 b]) (.agg #[.int .i64 c, .int .i64 d])).run Try.prog W = .ok (.bool (decide (a = c ∧ b = d))) W := by
  rw [run_eql_struct, run_equalIn_agg (ht := by kernel_rfl) (hp := by kernel_rfl)]
  simp [go_sem, Program.fieldsOf, Try.underlying24]
  by_cases h1 : a = c <;> by_cases h2 : b = d <;> simp [h1, h2]
theorem rd_bn {d : Int} (h : isz d = true) : Rr (bn d) := by
  rcases isz_cases h with rfl | rfl | rfl | rfl | rfl | rfl | rfl | rfl | rfl <;> (unfold Rr; decide)
set_option maxRecDepth 100000 in
theorem of_arc_ok (d : Int) (h : isz d = true) (w : World) : Calls Try.prog 40 #[.int .i64 d, .func (.func 41) #[] #[]] w fun e w' => e = .returned (.tuple #[two (arcL (bn d)) (arcH (bn d)), .int .i64 0]) ∧ Below w.heap.size w w' := by
  have hb := fun W => bend_ok d h W
  have ha := fun W => arcof_any (bn d) (rd_bn h) W
  unfold two at *
  clear h
  generalize arcL (bn d) = x at *
  generalize arcH (bn d) = y at *
  generalize bn d = r at *
  have E := (Env.nil w).add w.heap.size 24 #[.int .i64 0, .int .i64 0] rfl
  have C := E.cells
  simp [BC, CF] at C
  go_enter Try.func40, Try.ntmps40
  go_wp2_with (first
    | (go_at_call 31; (with_reducible refine (hb _).mono ?_); rintro X wq ⟨rfl, hb⟩; replace E := E.on hb; replace C := E.cells; simp [BC, CF] at C; clear hb)
    | (go_at_call 41; (with_reducible refine (ha _).mono ?_); rintro X wq ⟨rfl, hb⟩; replace E := E.on hb; replace C := E.cells; simp [BC, CF] at C; clear hb))
  exact bodyPost_ret (v := .tuple #[.agg #[.int .i64 x, .int .i64 y], .int .i64 0]) (by simp [results, Try.results40, go_sem, *]) rfl ⟨rfl, envb2 (E.put2 (.int .i64 x) (.int .i64 y) 0 rfl)⟩
set_option maxRecDepth 100000 in
theorem of_arc_no (d : Int) (h : isz d = false) (w : World) : Calls Try.prog 40 #[.int .i64 d, .func (.func 41) #[] #[]] w fun e w' => e = .returned (.tuple #[two 0 0, .int .i64 1]) ∧ Below w.heap.size w w' := by
  have hb := fun W => bend_no d h W
  unfold two at *
  clear h
  have E := (Env.nil w).add w.heap.size 24 #[.int .i64 0, .int .i64 0] rfl
  have C := E.cells
  simp [BC, CF] at C
  go_enter Try.func40, Try.ntmps40
  go_wp2_with (first
    | (go_at_call 31; (with_reducible refine (hb _).mono ?_); rintro X wq ⟨rfl, hb⟩; replace E := E.on hb; replace C := E.cells; simp [BC, CF] at C; clear hb))
  exact bodyPost_ret (v := .tuple #[.agg #[.int .i64 0, .int .i64 0], .int .i64 1]) (by simp [results, Try.results40, go_sem, *]) rfl ⟨rfl, envb2 (E.put2 (.int .i64 0) (.int .i64 0) 0 rfl)⟩
set_option maxRecDepth 100000 in
theorem of_alw_ok (d : Int) (h : isz d = true) (w : World) : Calls Try.prog 40 #[.int .i64 d, .func (.func 42) #[] #[]] w fun e w' => e = .returned (.tuple #[two (alwL (bn d)) (alwH (bn d)), .int .i64 0]) ∧ Below w.heap.size w w' := by
  have hb := fun W => bend_ok d h W
  have ha := fun W => alwof_any (bn d) (rd_bn h) W
  unfold two at *
  clear h
  generalize alwL (bn d) = x at *
  generalize alwH (bn d) = y at *
  generalize bn d = r at *
  have E := (Env.nil w).add w.heap.size 24 #[.int .i64 0, .int .i64 0] rfl
  have C := E.cells
  simp [BC, CF] at C
  go_enter Try.func40, Try.ntmps40
  go_wp2_with (first
    | (go_at_call 31; (with_reducible refine (hb _).mono ?_); rintro X wq ⟨rfl, hb⟩; replace E := E.on hb; replace C := E.cells; simp [BC, CF] at C; clear hb)
    | (go_at_call 42; (with_reducible refine (ha _).mono ?_); rintro X wq ⟨rfl, hb⟩; replace E := E.on hb; replace C := E.cells; simp [BC, CF] at C; clear hb))
  exact bodyPost_ret (v := .tuple #[.agg #[.int .i64 x, .int .i64 y], .int .i64 0]) (by simp [results, Try.results40, go_sem, *]) rfl ⟨rfl, envb2 (E.put2 (.int .i64 x) (.int .i64 y) 0 rfl)⟩
set_option maxRecDepth 100000 in
theorem of_alw_no (d : Int) (h : isz d = false) (w : World) : Calls Try.prog 40 #[.int .i64 d, .func (.func 42) #[] #[]] w fun e w' => e = .returned (.tuple #[two 0 0, .int .i64 1]) ∧ Below w.heap.size w w' := by
  have hb := fun W => bend_no d h W
  unfold two at *
  clear h
  have E := (Env.nil w).add w.heap.size 24 #[.int .i64 0, .int .i64 0] rfl
  have C := E.cells
  simp [BC, CF] at C
  go_enter Try.func40, Try.ntmps40
  go_wp2_with (first
    | (go_at_call 31; (with_reducible refine (hb _).mono ?_); rintro X wq ⟨rfl, hb⟩; replace E := E.on hb; replace C := E.cells; simp [BC, CF] at C; clear hb))
  exact bodyPost_ret (v := .tuple #[.agg #[.int .i64 0, .int .i64 0], .int .i64 1]) (by simp [results, Try.results40, go_sem, *]) rfl ⟨rfl, envb2 (E.put2 (.int .i64 0) (.int .i64 0) 0 rfl)⟩
set_option maxRecDepth 100000 in
theorem Arc_ok (d : Int) (h : isz d = true) (w : World) : Calls Try.prog 11 #[.int .i64 d] w fun e w' => e = .returned (.tuple #[two (arcL (bn d)) (arcH (bn d)), .int .i64 0]) ∧ Below w.heap.size w w' := by
  have ho := fun W => of_arc_ok d h W
  unfold two at *
  clear h
  generalize arcL (bn d) = x at *
  generalize arcH (bn d) = y at *
  have E := (Env.nil w).add w.heap.size 24 #[.int .i64 0, .int .i64 0] rfl
  have C := E.cells
  simp [BC, CF] at C
  go_enter Try.func11, Try.ntmps11
  go_wp2_with (first
    | (go_at_call 40; (with_reducible refine (ho _).mono ?_); rintro X wq ⟨rfl, hb⟩; replace E := E.on hb; replace C := E.cells; simp [BC, CF] at C; clear hb))
  exact bodyPost_ret (v := .tuple #[.agg #[.int .i64 x, .int .i64 y], .int .i64 0]) (by simp [results, Try.results11, go_sem, *]) rfl ⟨rfl, envb2 (E.put2 (.int .i64 x) (.int .i64 y) 0 rfl)⟩
set_option maxRecDepth 100000 in
theorem Arc_no (d : Int) (h : isz d = false) (w : World) : Calls Try.prog 11 #[.int .i64 d] w fun e w' => e = .returned (.tuple #[two 0 0, .int .i64 1]) ∧ Below w.heap.size w w' := by
  have ho := fun W => of_arc_no d h W
  unfold two at *
  clear h
  have E := (Env.nil w).add w.heap.size 24 #[.int .i64 0, .int .i64 0] rfl
  have C := E.cells
  simp [BC, CF] at C
  go_enter Try.func11, Try.ntmps11
  go_wp2_with (first
    | (go_at_call 40; (with_reducible refine (ho _).mono ?_); rintro X wq ⟨rfl, hb⟩; replace E := E.on hb; replace C := E.cells; simp [BC, CF] at C; clear hb))
  exact bodyPost_ret (v := .tuple #[.agg #[.int .i64 0, .int .i64 0], .int .i64 1]) (by simp [results, Try.results11, go_sem, *]) rfl ⟨rfl, envb2 (E.put2 (.int .i64 0) (.int .i64 0) 0 rfl)⟩
set_option maxRecDepth 100000 in
theorem Alw_ok (d : Int) (h : isz d = true) (w : World) : Calls Try.prog 12 #[.int .i64 d] w fun e w' => e = .returned (.tuple #[two (alwL (bn d)) (alwH (bn d)), .int .i64 0]) ∧ Below w.heap.size w w' := by
  have ho := fun W => of_alw_ok d h W
  unfold two at *
  clear h
  generalize alwL (bn d) = x at *
  generalize alwH (bn d) = y at *
  have E := (Env.nil w).add w.heap.size 24 #[.int .i64 0, .int .i64 0] rfl
  have C := E.cells
  simp [BC, CF] at C
  go_enter Try.func12, Try.ntmps12
  go_wp2_with (first
    | (go_at_call 40; (with_reducible refine (ho _).mono ?_); rintro X wq ⟨rfl, hb⟩; replace E := E.on hb; replace C := E.cells; simp [BC, CF] at C; clear hb))
  exact bodyPost_ret (v := .tuple #[.agg #[.int .i64 x, .int .i64 y], .int .i64 0]) (by simp [results, Try.results12, go_sem, *]) rfl ⟨rfl, envb2 (E.put2 (.int .i64 x) (.int .i64 y) 0 rfl)⟩
set_option maxRecDepth 100000 in
theorem Alw_no (d : Int) (h : isz d = false) (w : World) : Calls Try.prog 12 #[.int .i64 d] w fun e w' => e = .returned (.tuple #[two 0 0, .int .i64 1]) ∧ Below w.heap.size w w' := by
  have ho := fun W => of_alw_no d h W
  unfold two at *
  clear h
  have E := (Env.nil w).add w.heap.size 24 #[.int .i64 0, .int .i64 0] rfl
  have C := E.cells
  simp [BC, CF] at C
  go_enter Try.func12, Try.ntmps12
  go_wp2_with (first
    | (go_at_call 40; (with_reducible refine (ho _).mono ?_); rintro X wq ⟨rfl, hb⟩; replace E := E.on hb; replace C := E.cells; simp [BC, CF] at C; clear hb))
  exact bodyPost_ret (v := .tuple #[.agg #[.int .i64 0, .int .i64 0], .int .i64 1]) (by simp [results, Try.results12, go_sem, *]) rfl ⟨rfl, envb2 (E.put2 (.int .i64 0) (.int .i64 0) 0 rfl)⟩
set_option maxRecDepth 100000 in
theorem rArc_ok (d : Int) (h : isz d = true) (w : World) : Calls Try.prog 14 #[.int .i64 d] w fun e w' => e = .returned (two (arcL (bn d)) (arcH (bn d))) ∧ Below w.heap.size w w' := by
  have hb := fun W => rbend_ok d h W
  have hr := rd_bn h
  clear h
  generalize bn d = r at *
  have e1 : (500 * r * 355 + 112).tdiv 113 = arcH r := rfl
  have e2 : (500 * r * 333).tdiv 106 = arcL r := rfl
  have b := arc_bd hr
  unfold Rr at hr
  have W1 : IntKind.i64.wrap (500 * r) = 500 * r := IntWalk.i64_in _ (by omega)
  have W2 : IntKind.i64.wrap (500 * r * 333) = 500 * r * 333 := IntWalk.i64_in _ (by omega)
  have W3 : IntKind.i64.wrap (500 * r * 355) = 500 * r * 355 := IntWalk.i64_in _ (by omega)
  have W4 : IntKind.i64.wrap (500 * r * 355 + 112) = 500 * r * 355 + 112 := IntWalk.i64_in _ (by omega)
  have W5 : IntKind.i64.wrap ((500 * r * 333).tdiv 106) = (500 * r * 333).tdiv 106 := by rw [e2]; exact IntWalk.i64_in _ (by omega)
  have W6 : IntKind.i64.wrap ((500 * r * 355 + 112).tdiv 113) = (500 * r * 355 + 112).tdiv 113 := by rw [e1]; exact IntWalk.i64_in _ (by omega)
  rw [← e1, ← e2]
  unfold two at *
  clear hr b e1 e2
  have E := (Env.nil w).add w.heap.size 24 #[.int .i64 0, .int .i64 0] rfl
  have C := E.cells
  simp [BC, CF] at C
  go_enter Try.func14, Try.ntmps14
  go_wp2_with (first
    | (go_at_call 44; (with_reducible refine (hb _).mono ?_); rintro X wq ⟨rfl, rfl⟩))
  exact bodyPost_ret (v := .agg #[.int .i64 ((500 * r * 333).tdiv 106), .int .i64 ((500 * r * 355 + 112).tdiv 113)]) (by simp [results, Try.results14, go_sem, *]) rfl ⟨rfl, al1 w _⟩
set_option maxRecDepth 100000 in
theorem rAlw_ok (d : Int) (h : isz d = true) (w : World) : Calls Try.prog 15 #[.int .i64 d] w fun e w' => e = .returned (two (alwL (bn d)) (alwH (bn d))) ∧ Below w.heap.size w w' := by
  have hb := fun W => rbend_ok d h W
  have ha := fun W => rArc_ok d h W
  have hr := rd_bn h
  clear h
  generalize bn d = r at *
  have e1 : alwL r = 2000 * r - arcH r := rfl
  have e2 : alwH r = 2000 * r - arcL r := rfl
  have b := arc_bd hr
  unfold Rr at hr
  have W1 : IntKind.i64.wrap (2000 * r) = 2000 * r := IntWalk.i64_in _ (by omega)
  have W2 : IntKind.i64.wrap (2000 * r - arcH r) = 2000 * r - arcH r := IntWalk.i64_in _ (by omega)
  have W3 : IntKind.i64.wrap (2000 * r - arcL r) = 2000 * r - arcL r := IntWalk.i64_in _ (by omega)
  rw [e1, e2]
  unfold two at *
  clear hr b e1 e2
  generalize arcH r = y at *
  generalize arcL r = x at *
  have E := (Env.nil w).add w.heap.size 24 #[.int .i64 0, .int .i64 0] rfl
  have C := E.cells
  simp [BC, CF] at C
  go_enter Try.func15, Try.ntmps15
  go_upto_region 2 with (first
    | (go_at_call 44; (with_reducible refine (hb _).mono ?_); rintro X wq ⟨rfl, rfl⟩)
    | (go_at_call 14; (with_reducible refine (ha _).mono ?_); rintro X wq ⟨rfl, hb⟩; replace E := E.on hb; replace E := E.add _ 24 #[.int .i64 x, .int .i64 y] rfl; clear hb; replace C := E.cells; simp [BC, CF] at C))
  go_wp2
  exact bodyPost_ret (v := .agg #[.int .i64 (2000 * r - y), .int .i64 (2000 * r - x)]) (by simp [results, Try.results15, go_sem, *]) rfl ⟨rfl, envb2 (E.put2 _ _ 1 rfl)⟩
end Go.Proofs.Ythphgppgdlimeaa
