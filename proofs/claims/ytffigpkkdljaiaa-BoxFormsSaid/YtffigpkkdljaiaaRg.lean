/- The reference: Grown; Hull of no boxes, or of boxes that are not valid. -/
import Derived.Test.YtffigpkkdljaiaaRk
import Derived.Test.YtffigpkkdljaiaaHu
namespace Go.Proofs.Ytffigpkkdljaiaa
open Go.ChangeShapes Go.WideShapes Go.ChangeAt Go.RowKit
set_option linter.unusedVariables false
set_option linter.unusedSimpArgs false

set_option maxHeartbeats 8000000 in
set_option maxRecDepth 100000 in
theorem rgrown_any (x : Bx) (n : Int) (w : World) (hx : x.ok = true) (h0 : 0 ≤ n) (h1 : n ≤ 1048576) :
    Calls Try.prog 29 #[x.val, .int .i64 n] w fun E w' => E = .returned (growB x n).val ∧ Below w.heap.size w w' := by
  have E := ((Env.nil w).add w.heap.size 25 #[.int .i64 x.a, .int .i64 x.b, .int .i64 x.c, .int .i64 x.d, .int .i64 x.e, .int .i64 x.f] rfl).add (w.heap.size + 1) 25 #[.int .i64 0, .int .i64 0, .int .i64 0, .int .i64 0, .int .i64 0, .int .i64 0] (by simp)
  have h := Bx.ok_i.1 hx
  have W0 : IntKind.i64.wrap (x.a - n) = x.a - n := IntWalk.i64_in _ (by omega)
  have W1 : IntKind.i64.wrap (x.b - n) = x.b - n := IntWalk.i64_in _ (by omega)
  have W2 : IntKind.i64.wrap (x.c - n) = x.c - n := IntWalk.i64_in _ (by omega)
  have W3 : IntKind.i64.wrap (x.d + n) = x.d + n := IntWalk.i64_in _ (by omega)
  have W4 : IntKind.i64.wrap (x.e + n) = x.e + n := IntWalk.i64_in _ (by omega)
  have W5 : IntKind.i64.wrap (x.f + n) = x.f + n := IntWalk.i64_in _ (by omega)
  clear h hx h0 h1
  have C := E.cells
  simp [BC, CF] at C
  unfold growB Bx.val
  go_enter Try.func29, Try.ntmps29
  go_wp2
  refine bodyPost_ret (v := .agg #[.int .i64 (x.a - n), .int .i64 (x.b - n), .int .i64 (x.c - n), .int .i64 (x.d + n), .int .i64 (x.e + n), .int .i64 (x.f + n)]) (by simp [results, Try.results29, go_sem]) rfl ⟨rfl, ?_⟩
  with_reducible exact al (al1 w _) _
set_option maxHeartbeats 8000000 in
set_option maxRecDepth 100000 in
theorem Hull_arg (p : Option Addr) (l : List Bx) (cap : Nat) (w : World) (hS : Sl w p l) (hl : l.all Bx.ok = false) :
    Calls Try.prog 19 #[.slice p l.length cap] w fun E w' => E = .returned (.tuple #[zB.val, .int .i64 1]) ∧ Below w.heap.size w w' := by
  have E := (Env.nil w).add w.heap.size 25 #[.int .i64 0, .int .i64 0, .int .i64 0, .int .i64 0, .int .i64 0, .int .i64 0] rfl
  have h := fun W h => allvalid_any p l cap W h
  rw [hl] at h
  have hS1 := hS.on (al1 w (.cells #[.int .i64 0, .int .i64 0, .int .i64 0, .int .i64 0, .int .i64 0, .int .i64 0] 25))
  clear hl
  have C := E.cells
  simp [BC, CF] at C
  unfold zB Bx.val
  dsimp only
  go_enter Try.func19, Try.ntmps19
  go_wp2_with (go_at_call 49; (with_reducible refine (h _ hS1).mono ?_); rintro X w1 ⟨rfl, hb⟩; replace E := E.on hb; replace C := E.cells; simp [BC, CF] at C)
  refine bodyPost_ret (v := .tuple #[.agg #[.int .i64 0, .int .i64 0, .int .i64 0, .int .i64 0, .int .i64 0, .int .i64 0], .int .i64 1]) (by simp [results, Try.results19, go_sem, C]) rfl ⟨rfl, ?_⟩
  exact (E.six 0 rfl).1
set_option maxHeartbeats 8000000 in
set_option maxRecDepth 100000 in
theorem Hull_none (p : Option Addr) (cap : Nat) (w : World) (hS : Sl w p []) :
    Calls Try.prog 19 #[.slice p 0 cap] w fun E w' => E = .returned (.tuple #[zB.val, .int .i64 14]) ∧ Below w.heap.size w w' := by
  have E := (Env.nil w).add w.heap.size 25 #[.int .i64 0, .int .i64 0, .int .i64 0, .int .i64 0, .int .i64 0, .int .i64 0] rfl
  have h : ∀ W, Sl W p [] → Calls Try.prog 49 #[.slice p 0 cap] W fun e w' => e = .returned (.bool true) ∧ Below W.heap.size W w' := fun W h => allvalid_any p [] cap W h
  have hS1 := hS.on (al1 w (.cells #[.int .i64 0, .int .i64 0, .int .i64 0, .int .i64 0, .int .i64 0, .int .i64 0] 25))
  have C := E.cells
  simp [BC, CF] at C
  unfold zB Bx.val
  dsimp only
  go_enter Try.func19, Try.ntmps19
  go_wp2_with (go_at_call 49; (with_reducible refine (h _ hS1).mono ?_); rintro X w1 ⟨rfl, hb⟩; replace E := E.on hb; replace C := E.cells; simp [BC, CF] at C)
  refine bodyPost_ret (v := .tuple #[.agg #[.int .i64 0, .int .i64 0, .int .i64 0, .int .i64 0, .int .i64 0, .int .i64 0], .int .i64 14]) (by simp [results, Try.results19, go_sem, C]) rfl ⟨rfl, ?_⟩
  exact (E.six 0 rfl).1
end Go.Proofs.Ytffigpkkdljaiaa
