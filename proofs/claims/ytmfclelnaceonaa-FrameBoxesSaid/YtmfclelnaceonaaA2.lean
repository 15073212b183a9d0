/- Units. -/
import Derived.Test.YtmfclelnaceonaaA
namespace Go.Proofs.Ytmfclelnaceonaa
open Go.ChangeShapes Go.WideShapes Go.ChangeAt Go.RowKit
set_option linter.unusedVariables false
set_option linter.unusedSimpArgs false

theorem ax_or {n : Int} (h : axB n = true) : n = -3 ∨ n = -2 ∨ n = -1 ∨ n = 1 ∨ n = 2 ∨ n = 3 := by
  simp only [axB, Bool.and_eq_true, decide_eq_true_eq, Bool.not_eq_true', decide_eq_false_iff_not] at h
  omega
theorem unit_58 (n : Int) (h : axB n = true) (w : World) : Calls Try.prog 58 #[.int .i64 n] w fun e w' => e = .returned (U n).val ∧ Below w.heap.size w w' := by
  rcases ax_or h with rfl | rfl | rfl | rfl | rfl | rfl
  · rw [show (U (-3)).val = pv (0) (0) (-1) from rfl]
    unfold pv
    clear h
    go_enter Try.func58, Try.ntmps58
    go_wp2
    exact bodyPost_ret (v := pv (0) (0) (-1)) (by simp [results, Try.results58, go_sem, pv]) rfl ⟨rfl, al1 w _⟩
  · rw [show (U (-2)).val = pv (0) (-1) (0) from rfl]
    unfold pv
    clear h
    go_enter Try.func58, Try.ntmps58
    go_wp2
    exact bodyPost_ret (v := pv (0) (-1) (0)) (by simp [results, Try.results58, go_sem, pv]) rfl ⟨rfl, al1 w _⟩
  · rw [show (U (-1)).val = pv (-1) (0) (0) from rfl]
    unfold pv
    clear h
    go_enter Try.func58, Try.ntmps58
    go_wp2
    exact bodyPost_ret (v := pv (-1) (0) (0)) (by simp [results, Try.results58, go_sem, pv]) rfl ⟨rfl, al1 w _⟩
  · rw [show (U (1)).val = pv (1) (0) (0) from rfl]
    unfold pv
    clear h
    go_enter Try.func58, Try.ntmps58
    go_wp2
    exact bodyPost_ret (v := pv (1) (0) (0)) (by simp [results, Try.results58, go_sem, pv]) rfl ⟨rfl, al1 w _⟩
  · rw [show (U (2)).val = pv (0) (1) (0) from rfl]
    unfold pv
    clear h
    go_enter Try.func58, Try.ntmps58
    go_wp2
    exact bodyPost_ret (v := pv (0) (1) (0)) (by simp [results, Try.results58, go_sem, pv]) rfl ⟨rfl, al1 w _⟩
  · rw [show (U (3)).val = pv (0) (0) (1) from rfl]
    unfold pv
    clear h
    go_enter Try.func58, Try.ntmps58
    go_wp2
    exact bodyPost_ret (v := pv (0) (0) (1)) (by simp [results, Try.results58, go_sem, pv]) rfl ⟨rfl, al1 w _⟩
theorem unit42_1 (w : World) : Calls Try.prog 42 #[.int .i64 1] w fun e w' => e = .returned (pv (1) (0) (0)) ∧ Below w.heap.size w w' := by
  unfold pv
  go_enter Try.func42, Try.ntmps42
  go_wp2
  exact bodyPost_ret (v := pv (1) (0) (0)) (by simp [results, Try.results42, go_sem, pv]) rfl ⟨rfl, al1 w _⟩
theorem unit42_2 (w : World) : Calls Try.prog 42 #[.int .i64 2] w fun e w' => e = .returned (pv (0) (1) (0)) ∧ Below w.heap.size w w' := by
  unfold pv
  go_enter Try.func42, Try.ntmps42
  go_wp2
  exact bodyPost_ret (v := pv (0) (1) (0)) (by simp [results, Try.results42, go_sem, pv]) rfl ⟨rfl, al1 w _⟩
theorem unit42_3 (w : World) : Calls Try.prog 42 #[.int .i64 3] w fun e w' => e = .returned (pv (0) (0) (1)) ∧ Below w.heap.size w w' := by
  unfold pv
  go_enter Try.func42, Try.ntmps42
  go_wp2
  exact bodyPost_ret (v := pv (0) (0) (1)) (by simp [results, Try.results42, go_sem, pv]) rfl ⟨rfl, al1 w _⟩
theorem unit42_m1 (w : World) : Calls Try.prog 42 #[.int .i64 (-1)] w fun e w' => e = .returned (pv (-1) (0) (0)) ∧ Below w.heap.size w w' := by
  have h := fun W => unit42_1 W
  unfold pv at *
  have E := (Env.nil w).add w.heap.size 37 #[.int .i64 0, .int .i64 0, .int .i64 0] rfl
  have C := E.cells
  simp [BC, CF] at C
  go_enter Try.func42, Try.ntmps42
  go_wp2_with (first
    | (go_at_call 42; (with_reducible refine (h _).mono ?_); rintro X wq ⟨rfl, hb⟩; replace E := E.on hb; replace C := E.cells; simp [BC, CF] at C; clear hb))
  exact bodyPost_ret (v := pv (-1) (0) (0)) (by simp [results, Try.results42, go_sem, pv, *]) rfl ⟨rfl, envb ((E.three _ _ _ 0 rfl).more _)⟩
theorem unit42_m2 (w : World) : Calls Try.prog 42 #[.int .i64 (-2)] w fun e w' => e = .returned (pv (0) (-1) (0)) ∧ Below w.heap.size w w' := by
  have h := fun W => unit42_2 W
  unfold pv at *
  have E := (Env.nil w).add w.heap.size 37 #[.int .i64 0, .int .i64 0, .int .i64 0] rfl
  have C := E.cells
  simp [BC, CF] at C
  go_enter Try.func42, Try.ntmps42
  go_wp2_with (first
    | (go_at_call 42; (with_reducible refine (h _).mono ?_); rintro X wq ⟨rfl, hb⟩; replace E := E.on hb; replace C := E.cells; simp [BC, CF] at C; clear hb))
  exact bodyPost_ret (v := pv (0) (-1) (0)) (by simp [results, Try.results42, go_sem, pv, *]) rfl ⟨rfl, envb ((E.three _ _ _ 0 rfl).more _)⟩
theorem unit42_m3 (w : World) : Calls Try.prog 42 #[.int .i64 (-3)] w fun e w' => e = .returned (pv (0) (0) (-1)) ∧ Below w.heap.size w w' := by
  have h := fun W => unit42_3 W
  unfold pv at *
  have E := (Env.nil w).add w.heap.size 37 #[.int .i64 0, .int .i64 0, .int .i64 0] rfl
  have C := E.cells
  simp [BC, CF] at C
  go_enter Try.func42, Try.ntmps42
  go_wp2_with (first
    | (go_at_call 42; (with_reducible refine (h _).mono ?_); rintro X wq ⟨rfl, hb⟩; replace E := E.on hb; replace C := E.cells; simp [BC, CF] at C; clear hb))
  exact bodyPost_ret (v := pv (0) (0) (-1)) (by simp [results, Try.results42, go_sem, pv, *]) rfl ⟨rfl, envb ((E.three _ _ _ 0 rfl).more _)⟩
theorem unit_42 (n : Int) (h : axB n = true) (w : World) : Calls Try.prog 42 #[.int .i64 n] w fun e w' => e = .returned (U n).val ∧ Below w.heap.size w w' := by
  rcases ax_or h with rfl | rfl | rfl | rfl | rfl | rfl
  · exact unit42_m3 w
  · exact unit42_m2 w
  · exact unit42_m1 w
  · exact unit42_1 w
  · exact unit42_2 w
  · exact unit42_3 w
theorem times_59 (x y z n : Int) (hx : I64 (x * n)) (hy : I64 (y * n)) (hz : I64 (z * n)) (w : World) : Calls Try.prog 59 #[(Pt.mk x y z).val, .int .i64 n] w fun e w' => e = .returned (pv (x * n) (y * n) (z * n)) ∧ Below w.heap.size w w' := by
  have W0 : IntKind.i64.wrap (x * n) = x * n := i64w hx
  have W1 : IntKind.i64.wrap (y * n) = y * n := i64w hy
  have W2 : IntKind.i64.wrap (z * n) = z * n := i64w hz
  have E := ((Env.nil w).add w.heap.size 37 #[.int .i64 x, .int .i64 y, .int .i64 z] rfl)
  clear hx hy hz
  unfold pv Pt.val
  go_enter Try.func59, Try.ntmps59
  go_wp2
  exact bodyPost_ret (v := pv (x * n) (y * n) (z * n)) (by simp [results, Try.results59, go_sem, pv]) rfl ⟨rfl, al (envb E) _⟩
theorem times_51 (x y z n : Int) (hx : I64 (n * x)) (hy : I64 (n * y)) (hz : I64 (n * z)) (w : World) : Calls Try.prog 51 #[.int .i64 n, (Pt.mk x y z).val] w fun e w' => e = .returned (pv (n * x) (n * y) (n * z)) ∧ Below w.heap.size w w' := by
  have W0 : IntKind.i64.wrap (n * x) = n * x := i64w hx
  have W1 : IntKind.i64.wrap (n * y) = n * y := i64w hy
  have W2 : IntKind.i64.wrap (n * z) = n * z := i64w hz
  have E := ((Env.nil w).add w.heap.size 37 #[.int .i64 x, .int .i64 y, .int .i64 z] rfl)
  clear hx hy hz
  unfold pv Pt.val
  go_enter Try.func51, Try.ntmps51
  go_wp2
  exact bodyPost_ret (v := pv (n * x) (n * y) (n * z)) (by simp [results, Try.results51, go_sem, pv]) rfl ⟨rfl, al (envb E) _⟩
theorem plus_49 (a b c x y z : Int) (hx : I64 (a + x)) (hy : I64 (b + y)) (hz : I64 (c + z)) (w : World) : Calls Try.prog 49 #[(Pt.mk a b c).val, (Pt.mk x y z).val] w fun e w' => e = .returned (pv (a + x) (b + y) (c + z)) ∧ Below w.heap.size w w' := by
  have W0 : IntKind.i64.wrap (a + x) = a + x := i64w hx
  have W1 : IntKind.i64.wrap (b + y) = b + y := i64w hy
  have W2 : IntKind.i64.wrap (c + z) = c + z := i64w hz
  clear hx hy hz
  unfold pv Pt.val
  go_enter Try.func49, Try.ntmps49
  go_wp2
  exact bodyPost_ret (v := pv (a + x) (b + y) (c + z)) (by simp [results, Try.results49, go_sem, pv]) rfl ⟨rfl, al (al (al1 w _) _) _⟩
theorem minus_30 (a b c x y z : Int) (hx : I64 (a - x)) (hy : I64 (b - y)) (hz : I64 (c - z)) (w : World) : Calls Try.prog 30 #[(Pt.mk a b c).val, (Pt.mk x y z).val] w fun e w' => e = .returned (pv (a - x) (b - y) (c - z)) ∧ Below w.heap.size w w' := by
  have W0 : IntKind.i64.wrap (a - x) = a - x := i64w hx
  have W1 : IntKind.i64.wrap (b - y) = b - y := i64w hy
  have W2 : IntKind.i64.wrap (c - z) = c - z := i64w hz
  clear hx hy hz
  unfold pv Pt.val
  go_enter Try.func30, Try.ntmps30
  go_wp2
  exact bodyPost_ret (v := pv (a - x) (b - y) (c - z)) (by simp [results, Try.results30, go_sem, pv]) rfl ⟨rfl, al (al (al1 w _) _) _⟩
set_option maxRecDepth 100000 in
theorem cross_60 (a b c x y z : Int) (h1 : (Pt.mk a b c).bd 1) (h2 : (Pt.mk x y z).bd 1) (w : World) : Calls Try.prog 60 #[(Pt.mk a b c).val, (Pt.mk x y z).val] w fun e w' => e = .returned (pv (b * z - c * y) (c * x - a * z) (a * y - b * x)) ∧ Below w.heap.size w w' := by
  obtain ⟨ha, hb, hc⟩ := h1
  obtain ⟨hx, hy, hz⟩ := h2
  dsimp only at *
  have m0 := mulb hb hz
  have m1 := mulb hc hy
  have m2 := mulb hc hx
  have m3 := mulb ha hz
  have m4 := mulb ha hy
  have m5 := mulb hb hx
  have W0 : IntKind.i64.wrap (b * z) = b * z := IntWalk.i64_in _ (by omega)
  have W1 : IntKind.i64.wrap (c * y) = c * y := IntWalk.i64_in _ (by omega)
  have W2 : IntKind.i64.wrap (b * z - c * y) = b * z - c * y := IntWalk.i64_in _ (by omega)
  have W3 : IntKind.i64.wrap (c * x) = c * x := IntWalk.i64_in _ (by omega)
  have W4 : IntKind.i64.wrap (a * z) = a * z := IntWalk.i64_in _ (by omega)
  have W5 : IntKind.i64.wrap (c * x - a * z) = c * x - a * z := IntWalk.i64_in _ (by omega)
  have W6 : IntKind.i64.wrap (a * y) = a * y := IntWalk.i64_in _ (by omega)
  have W7 : IntKind.i64.wrap (b * x) = b * x := IntWalk.i64_in _ (by omega)
  have W8 : IntKind.i64.wrap (a * y - b * x) = a * y - b * x := IntWalk.i64_in _ (by omega)
  clear ha hb hc hx hy hz m0 m1 m2 m3 m4 m5
  unfold pv Pt.val
  go_enter Try.func60, Try.ntmps60
  go_wp2
  exact bodyPost_ret (v := pv (b * z - c * y) (c * x - a * z) (a * y - b * x)) (by simp [results, Try.results60, go_sem, pv]) rfl ⟨rfl, al (al (al1 w _) _) _⟩
set_option maxRecDepth 100000 in
theorem cross_52 (a b c x y z : Int) (h1 : (Pt.mk a b c).bd 1) (h2 : (Pt.mk x y z).bd 1) (w : World) : Calls Try.prog 52 #[(Pt.mk a b c).val, (Pt.mk x y z).val] w fun e w' => e = .returned (pv (b * z - c * y) (c * x - a * z) (a * y - b * x)) ∧ Below w.heap.size w w' := by
  obtain ⟨ha, hb, hc⟩ := h1
  obtain ⟨hx, hy, hz⟩ := h2
  dsimp only at *
  have m0 := mulb hb hz
  have m1 := mulb hc hy
  have m2 := mulb hc hx
  have m3 := mulb ha hz
  have m4 := mulb ha hy
  have m5 := mulb hb hx
  have W0 : IntKind.i64.wrap (b * z) = b * z := IntWalk.i64_in _ (by omega)
  have W1 : IntKind.i64.wrap (c * y) = c * y := IntWalk.i64_in _ (by omega)
  have W2 : IntKind.i64.wrap (b * z - c * y) = b * z - c * y := IntWalk.i64_in _ (by omega)
  have W3 : IntKind.i64.wrap (c * x) = c * x := IntWalk.i64_in _ (by omega)
  have W4 : IntKind.i64.wrap (a * z) = a * z := IntWalk.i64_in _ (by omega)
  have W5 : IntKind.i64.wrap (c * x - a * z) = c * x - a * z := IntWalk.i64_in _ (by omega)
  have W6 : IntKind.i64.wrap (a * y) = a * y := IntWalk.i64_in _ (by omega)
  have W7 : IntKind.i64.wrap (b * x) = b * x := IntWalk.i64_in _ (by omega)
  have W8 : IntKind.i64.wrap (a * y - b * x) = a * y - b * x := IntWalk.i64_in _ (by omega)
  clear ha hb hc hx hy hz m0 m1 m2 m3 m4 m5
  unfold pv Pt.val
  go_enter Try.func52, Try.ntmps52
  go_wp2
  exact bodyPost_ret (v := pv (b * z - c * y) (c * x - a * z) (a * y - b * x)) (by simp [results, Try.results52, go_sem, pv]) rfl ⟨rfl, al (al (al1 w _) _) _⟩
theorem mmin_45 (a b c x y z : Int) (w : World) : Calls Try.prog 45 #[(Pt.mk a b c).val, (Pt.mk x y z).val] w fun e w' => e = .returned (pv (min a x) (min b y) (min c z)) ∧ Below w.heap.size w w' := by
  unfold pv Pt.val
  go_enter Try.func45, Try.ntmps45
  go_wp2
  all_goals exact bodyPost_ret (v := pv (min a x) (min b y) (min c z)) (by simp [results, Try.results45, go_sem, pv] <;> omega) rfl ⟨rfl, al (al (al1 w _) _) _⟩
theorem mmax_47 (a b c x y z : Int) (w : World) : Calls Try.prog 47 #[(Pt.mk a b c).val, (Pt.mk x y z).val] w fun e w' => e = .returned (pv (max a x) (max b y) (max c z)) ∧ Below w.heap.size w w' := by
  unfold pv Pt.val
  go_enter Try.func47, Try.ntmps47
  go_wp2
  all_goals exact bodyPost_ret (v := pv (max a x) (max b y) (max c z)) (by simp [results, Try.results47, go_sem, pv] <;> omega) rfl ⟨rfl, al (al (al1 w _) _) _⟩
theorem num_57 (x y z : Int) (h : (Pt.mk x y z).bd 4194304) (w : World) : Calls Try.prog 57 #[(Pt.mk x y z).val] w fun e w' => e = .returned (.int .i64 (x + 2 * y + 3 * z)) ∧ Below w.heap.size w w' := by
  obtain ⟨hx, hy, hz⟩ := h
  dsimp only at *
  have W1 : IntKind.i64.wrap (2 * y) = 2 * y := IntWalk.i64_in _ (by omega)
  have W2 : IntKind.i64.wrap (3 * z) = 3 * z := IntWalk.i64_in _ (by omega)
  have W3 : IntKind.i64.wrap (x + 2 * y) = x + 2 * y := IntWalk.i64_in _ (by omega)
  have W4 : IntKind.i64.wrap (x + 2 * y + 3 * z) = x + 2 * y + 3 * z := IntWalk.i64_in _ (by omega)
  clear hx hy hz
  unfold Pt.val
  go_enter Try.func57, Try.ntmps57
  go_wp2
  go_ret
  exact ⟨rfl, al1 w _⟩
theorem num_41 (x y z : Int) (h : (Pt.mk x y z).bd 4194304) (w : World) : Calls Try.prog 41 #[(Pt.mk x y z).val] w fun e w' => e = .returned (.int .i64 (x + 2 * y + 3 * z)) ∧ Below w.heap.size w w' := by
  obtain ⟨hx, hy, hz⟩ := h
  dsimp only at *
  have W1 : IntKind.i64.wrap (2 * y) = 2 * y := IntWalk.i64_in _ (by omega)
  have W2 : IntKind.i64.wrap (3 * z) = 3 * z := IntWalk.i64_in _ (by omega)
  have W3 : IntKind.i64.wrap (x + 2 * y) = x + 2 * y := IntWalk.i64_in _ (by omega)
  have W4 : IntKind.i64.wrap (x + 2 * y + 3 * z) = x + 2 * y + 3 * z := IntWalk.i64_in _ (by omega)
  clear hx hy hz
  unfold Pt.val
  go_enter Try.func41, Try.ntmps41
  go_wp2
  go_ret
  exact ⟨rfl, al1 w _⟩
theorem one_40 (w : World) : Calls Try.prog 40 #[] w fun e w' => e = .returned (tv 1 2) ∧ Below w.heap.size w w' := by
  unfold tv
  go_enter Try.func40, Try.ntmps40
  go_wp2
  exact bodyPost_ret (v := tv 1 2) (by simp [results, Try.results40, go_sem, tv]) rfl ⟨rfl, al1 w _⟩
end Go.Proofs.Ytmfclelnaceonaa
