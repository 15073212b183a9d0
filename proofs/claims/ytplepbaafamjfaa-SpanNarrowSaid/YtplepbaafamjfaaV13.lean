/- The contract of awake: the examples of the chapter hold. -/
import Derived.Test.YtplepbaafamjfaaV12
namespace Go.Proofs.Ytplepbaafamjfaa
open Go.ChangeShapes Go.WideShapes Go.ChangeAt Go.RowKit
set_option linter.unusedVariables false
set_option linter.unusedSimpArgs false

theorem awk_mul (w : World) : Calls Try.prog 23 #[.agg #[.int .i64 (-2), .int .i64 3], .agg #[.int .i64 4, .int .i64 5]] w fun e w' => e = .returned (.tuple #[.agg #[.int .i64 (-10), .int .i64 15], .int .i64 0]) ∧ Below w.heap.size w w' := by
  have h := smul_p (-2) 3 4 5 w
  rw [show mulR (-2) 3 4 5 = (-10, 15, 0) by decide +kernel] at h
  exact h
theorem awk_div (w : World) : Calls Try.prog 24 #[.agg #[.int .i64 7, .int .i64 8], .agg #[.int .i64 (-3), .int .i64 (-2)]] w fun e w' => e = .returned (.tuple #[.agg #[.int .i64 (-4), .int .i64 (-2)], .int .i64 0]) ∧ Below w.heap.size w w' := by
  have h := sdiv_p 7 8 (-3) (-2) w
  rw [show divR 7 8 (-3) (-2) = (-4, -2, 0) by decide +kernel] at h
  exact h
theorem awk_root (w : World) : Calls Try.prog 28 #[.agg #[.int .i64 2, .int .i64 17]] w fun e w' => e = .returned (.tuple #[.agg #[.int .i64 1, .int .i64 5], .int .i64 0]) ∧ Below w.heap.size w w' := by
  have h := sroot_p 2 17 w
  rw [show rootR 2 17 = (1, 5, 0) by decide +kernel] at h
  exact h
theorem awk_of (w : World) : Calls Try.prog 29 #[.agg #[.int .i64 7, .int .i64 3], .int .i64 10] w fun e w' => e = .returned (.tuple #[.agg #[.int .i64 23, .int .i64 24], .int .i64 0]) ∧ Below w.heap.size w w' := by
  have h := sof_p 7 3 10 w (by omega) (by omega) (by omega) (by omega)
  rw [show ofR 7 3 10 = (23, 24, 0) by decide +kernel] at h
  exact h
theorem awk_times (w : World) : Calls Try.prog 27 #[.agg #[.int .i64 (-1), .int .i64 1], .int .i64 5, .int .i64 (-3)] w fun e w' => e = .returned (.tuple #[.agg #[.int .i64 (-2), .int .i64 2], .int .i64 0]) ∧ Below w.heap.size w w' := by
  have h := stimes_p (-1) 1 5 (-3) w
  rw [show timesR (-1) 1 5 (-3) = (-2, 2, 0) by decide +kernel] at h
  exact h

/-- The five blocks of awake. -/
def Awk (w0 w : World) (g1 g2 g3 g4 g5 : Nat) : Prop := Env w0 w [⟨g5, 23, -2, 2⟩, ⟨g4, 23, 23, 24⟩, ⟨g3, 23, 1, 5⟩, ⟨g2, 23, -4, -2⟩, ⟨g1, 23, -10, 15⟩]
theorem Awk.ten {w0 w : World} {g1 g2 g3 g4 g5 : Nat} (h : Awk w0 w g1 g2 g3 g4 g5) :
    w.cell? ⟨g1, 0, none⟩ = some (.int .i64 (-10)) ∧ w.cell? ⟨g1, 1, none⟩ = some (.int .i64 15) ∧ w.cell? ⟨g2, 0, none⟩ = some (.int .i64 (-4)) ∧ w.cell? ⟨g2, 1, none⟩ = some (.int .i64 (-2)) ∧ w.cell? ⟨g3, 0, none⟩ = some (.int .i64 1) ∧ w.cell? ⟨g3, 1, none⟩ = some (.int .i64 5) ∧ w.cell? ⟨g4, 0, none⟩ = some (.int .i64 23) ∧ w.cell? ⟨g4, 1, none⟩ = some (.int .i64 24) ∧ w.cell? ⟨g5, 0, none⟩ = some (.int .i64 (-2)) ∧ w.cell? ⟨g5, 1, none⟩ = some (.int .i64 2) ∧ Awk w0 w g1 g2 g3 g4 g5 :=
  ⟨h.cells.2.2.2.2.1.1, h.cells.2.2.2.2.1.2.1, h.cells.2.2.2.1.1, h.cells.2.2.2.1.2.1, h.cells.2.2.1.1, h.cells.2.2.1.2.1, h.cells.2.1.1, h.cells.2.1.2.1, h.cells.1.1, h.cells.1.2.1, h⟩
theorem Awk.next {w0 w w1 : World} {g1 g2 g3 g4 g5 : Nat} (h : Awk w0 w g1 g2 g3 g4 g5) (hb : Below w.heap.size w w1) : Awk w0 w1 g1 g2 g3 g4 g5 := Env.on h hb
theorem Awk.drew {w0 w : World} {g1 g2 g3 g4 g5 : Nat} (h : Awk w0 w g1 g2 g3 g4 g5) : Awk w0 w.drew g1 g2 g3 g4 g5 := h.next (Dr.below' ⟨1, rfl⟩)
theorem env_nil (w : World) : Env w w [] := ⟨Below.refl _ _, trivial⟩

set_option maxRecDepth 100000 in
set_option maxHeartbeats 8000000 in
theorem awake_any (w : World) : Calls Try.prog 11 #[] w fun e w' => e = .returned (.bool true) ∧ Below w.heap.size w w' := by
  have E := env_nil w
  go_enter Try.func11, Try.ntmps11
  go_wp2_with (first | (go_at_call 39; (refine (of_le _ _ _ (by omega)).mono ?_); rintro e w1 ⟨rfl, hb⟩; replace E := E.on hb; clear hb) | (go_at_call 23; (refine (awk_mul _).mono ?_); rintro e wA ⟨rfl, hb⟩; replace E := (E.on hb).add (-10) 15 23; clear hb) | (go_at_call 24; (refine (awk_div _).mono ?_); rintro e wB ⟨rfl, hb⟩; replace E := (E.on hb).add (-4) (-2) 23; clear hb) | (go_at_call 28; (refine (awk_root _).mono ?_); rintro e wC ⟨rfl, hb⟩; replace E := (E.on hb).add 1 5 23; clear hb) | (go_at_call 29; (refine (awk_of _).mono ?_); rintro e wD ⟨rfl, hb⟩; replace E := (E.on hb).add 23 24 23; clear hb) | (go_at_call 27; (refine (awk_times _).mono ?_); rintro e wF ⟨rfl, hb⟩; replace E := (E.on hb).add (-2) 2 23; clear hb))
  have A : Awk w _ wA.heap.size wB.heap.size wC.heap.size wD.heap.size wF.heap.size := E
  clear E
  generalize wA.heap.size = g1 at *
  generalize wB.heap.size = g2 at *
  generalize wC.heap.size = g3 at *
  generalize wD.heap.size = g4 at *
  generalize wF.heap.size = g5 at *
  generalize wF.alloc (Obj.cells #[Value.int IntKind.i64 (-2), Value.int IntKind.i64 2] 23) = W at *
  go_region_held3 (fun w' => w'.cell? ⟨g1, 0, none⟩ = some (.int .i64 (-10)) ∧ w'.cell? ⟨g1, 1, none⟩ = some (.int .i64 15) ∧ w'.cell? ⟨g2, 0, none⟩ = some (.int .i64 (-4)) ∧ w'.cell? ⟨g2, 1, none⟩ = some (.int .i64 (-2)) ∧ w'.cell? ⟨g3, 0, none⟩ = some (.int .i64 1) ∧ w'.cell? ⟨g3, 1, none⟩ = some (.int .i64 5) ∧ w'.cell? ⟨g4, 0, none⟩ = some (.int .i64 23) ∧ w'.cell? ⟨g4, 1, none⟩ = some (.int .i64 24) ∧ w'.cell? ⟨g5, 0, none⟩ = some (.int .i64 (-2)) ∧ w'.cell? ⟨g5, 1, none⟩ = some (.int .i64 2) ∧ Awk w w' g1 g2 g3 g4 g5)
    (first | with_reducible exact Awk.ten A.drew | with_reducible exact Awk.ten (Awk.next (by go_split_ands; assumption) hb) | go_keep)
    (first | (go_at_call 39; (with_reducible refine (of_le _ _ _ (by omega)).mono ?_); rintro e w1 ⟨rfl, hb⟩))
  all_goals rename_i hH
  all_goals have Z := hH.2.2.2.2.2.2.2.2.2.2.1
  all_goals clear hH
  all_goals go_wp2
  all_goals go_ret
  all_goals exact ⟨by first | rfl | simp, Z⟩
end Go.Proofs.Ytplepbaafamjfaa
