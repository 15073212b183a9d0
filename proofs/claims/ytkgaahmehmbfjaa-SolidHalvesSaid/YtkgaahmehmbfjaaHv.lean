/- SolidHalves. -/
import Derived.Test.YtkgaahmehmbfjaaAwk
import Derived.Test.YtkgaahmehmbfjaaHv1
import Derived.Test.YtkgaahmehmbfjaaRv
import Derived.Test.YtkgaahmehmbfjaaZ2
import Derived.Test.YtkgaahmehmbfjaaZ7
namespace Go.Proofs.Ytkgaahmehmbfjaa
open Go.ChangeShapes Go.WideShapes Go.ChangeAt Go.RowKit Go.Maps Go.Shelf
set_option linter.unusedVariables false
set_option linter.unusedSimpArgs false

set_option maxHeartbeats 8000000 in
set_option maxRecDepth 100000 in
theorem halves_no (p q : Option Addr) (l h : List Bx) (c d : Nat) (b : Bx) (ax pt x y : Int) (w : World) (hS : Sl w p l) (hT : Sl w q h) (hv : rgtS l h = false ∨ b.ok = false) :
    Calls Try.prog 7 #[sv p q l h c d, b.val, .int .u8 ax, .int .u16 pt, .int .u16 x, .int .u16 y] w fun e w' => e = .returned (.bool true) ∧ Below w.heap.size w w' := by
  have awk := fun W => awake_9 W
  have h30 := fun W a b => right_30 p q l h c d W a b
  have h19 : ∀ W, Calls Try.prog 19 #[b.val] W fun e w' => e = .returned (.bool b.ok) ∧ Below W.heap.size W w' := fun W => rvalid_any b W
  have E := ((Env.nil w).add w.heap.size 24 #[.slice p l.length c, .slice q h.length d] rfl).add (w.heap.size + 1) 30 #[.int .i64 b.a, .int .i64 b.b, .int .i64 b.c, .int .i64 b.d, .int .i64 b.e, .int .i64 b.f] (by simp)
  have C := E.cells
  simp [BC, CF] at C
  unfold Bx.val sv at *
  cases hr : rgtS l h
  · simp only [hr] at h30
    go_enter Try.func7, Try.ntmps7
    go_wp2_with (first
      | (go_at_call 9; (with_reducible refine (awk _).mono ?_); rintro X wq ⟨rfl, hb⟩; replace E := E.on hb; replace C := E.cells; simp [BC, CF] at C; clear hb)
      | (go_at_call 30; (with_reducible refine (h30 _ (hS.on (envB E)) (hT.on (envB E))).mono ?_); rintro X wq ⟨rfl, hb⟩; replace E := E.on hb; replace C := E.cells; simp [BC, CF] at C; clear hb)
      | (go_at_call 19; (with_reducible refine (h19 _).mono ?_); rintro X wq ⟨rfl, hb⟩; replace E := E.on hb; replace C := E.cells; simp [BC, CF] at C; clear hb))
    go_ret
    exact ⟨rfl, E.1⟩
  · have hbo : b.ok = false := by rcases hv with hv | hv
                                  · rw [hr] at hv; cases hv
                                  · exact hv
    simp only [hr] at h30
    simp only [hbo] at h19
    go_enter Try.func7, Try.ntmps7
    go_wp2_with (first
      | (go_at_call 9; (with_reducible refine (awk _).mono ?_); rintro X wq ⟨rfl, hb⟩; replace E := E.on hb; replace C := E.cells; simp [BC, CF] at C; clear hb)
      | (go_at_call 30; (with_reducible refine (h30 _ (hS.on (envB E)) (hT.on (envB E))).mono ?_); rintro X wq ⟨rfl, hb⟩; replace E := E.on hb; replace C := E.cells; simp [BC, CF] at C; clear hb)
      | (go_at_call 19; (with_reducible refine (h19 _).mono ?_); rintro X wq ⟨rfl, hb⟩; replace E := E.on hb; replace C := E.cells; simp [BC, CF] at C; clear hb))
    go_ret
    exact ⟨rfl, E.1⟩
theorem hv_s7 {w0 w : World} {n m : Nat} {b : Bx} {A B : Value} (E : Env w0 w [⟨m, 30, #[.int .i64 b.a, .int .i64 b.b, .int .i64 b.c, .int .i64 b.d, .int .i64 b.e, .int .i64 b.f]⟩, ⟨n, 24, #[A, B]⟩]) : Env w0 w [⟨m, 30, #[.int .i64 b.a, .int .i64 b.b, .int .i64 b.c, .int .i64 b.d, .int .i64 b.e, .int .i64 b.f]⟩, ⟨n, 24, #[A, B]⟩] ∧ w.cell? ⟨m, 0, none⟩ = some (.int .i64 b.a) ∧ w.cell? ⟨m, 1, none⟩ = some (.int .i64 b.b) ∧ w.cell? ⟨m, 2, none⟩ = some (.int .i64 b.c) ∧ w.cell? ⟨m, 3, none⟩ = some (.int .i64 b.d) ∧ w.cell? ⟨m, 4, none⟩ = some (.int .i64 b.e) ∧ w.cell? ⟨m, 5, none⟩ = some (.int .i64 b.f) :=
  ⟨E, box_cells6 E.2.2.1⟩
theorem hv_s9 {w0 w : World} {gl gr : Nat} {b : Bx} {L : List Fb} (E : Env w0 w (⟨gr, 30, #[.int .i64 b.a, .int .i64 b.b, .int .i64 b.c, .int .i64 b.d, .int .i64 b.e, .int .i64 b.f]⟩ :: ⟨gl, 30, #[.int .i64 b.a, .int .i64 b.b, .int .i64 b.c, .int .i64 b.d, .int .i64 b.e, .int .i64 b.f]⟩ :: L)) : w.cell? ⟨gl, 3, none⟩ = some (.int .i64 b.d) ∧ w.cell? ⟨gl, 4, none⟩ = some (.int .i64 b.e) ∧ w.cell? ⟨gl, 5, none⟩ = some (.int .i64 b.f) ∧ w.cell? ⟨gr, 0, none⟩ = some (.int .i64 b.a) ∧ w.cell? ⟨gr, 1, none⟩ = some (.int .i64 b.b) ∧ w.cell? ⟨gr, 2, none⟩ = some (.int .i64 b.c) :=
  ⟨E.2.2.2.2.2.1.read 3, E.2.2.2.2.2.1.read 4, E.2.2.2.2.2.1.read 5, E.2.2.1.read 0, E.2.2.1.read 1, E.2.2.1.read 2⟩
end Go.Proofs.Ytkgaahmehmbfjaa
