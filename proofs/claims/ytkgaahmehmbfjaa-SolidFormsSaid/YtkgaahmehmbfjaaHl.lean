/- Hull. -/
import Derived.Test.YtkgaahmehmbfjaaTb
import Derived.Test.YtkgaahmehmbfjaaZ6
namespace Go.Proofs.Ytkgaahmehmbfjaa
open Go.ChangeShapes Go.WideShapes Go.ChangeAt Go.RowKit
set_option linter.unusedVariables false
set_option linter.unusedSimpArgs false

/-- The hull of the boxes. -/
def hulS : List Bx → Bx
  | [] => ⟨0, 0, 0, 0, 0, 0⟩
  | x :: l => l.foldl hullB x
theorem sl_some {w : World} {p : Option Addr} {l : List Bx} (h : Sl w p l) (hl : 1 ≤ l.length) : ∃ a, p = some a := by
  cases p with
  | none => rw [h.1 rfl] at hl; simp at hl
  | some a => exact ⟨a, rfl⟩
theorem box_hull (p : Option Addr) (l : List Bx) (cap : Nat) (w : World) (hS : Sl w p l) (hl1 : 1 ≤ l.length) (ha : l.all Bx.ok = true) (hc : l.length ≤ cap) :
    Calls Try.prog 45 #[.slice p l.length cap] w fun e w' => e = .returned (.tuple #[(hulS l).val, .int .i64 0]) ∧ Below w.heap.size w w' := by
  obtain ⟨a, rfl⟩ := sl_some hS hl1
  match l, hl1 with
  | x :: l, _ => exact Hull_ok a x l cap w hS ha hc
set_option maxHeartbeats 8000000 in
set_option maxRecDepth 100000 in
theorem Hull_no (p q : Option Addr) (l h : List Bx) (c d : Nat) (w : World) (hS : Sl w p l) (hT : Sl w q h) (hs : okS l h = false) :
    Calls Try.prog 11 #[.agg #[.slice p l.length c, .slice q h.length d]] w fun e w' => e = .returned (.tuple #[.agg #[.int .i64 0, .int .i64 0, .int .i64 0, .int .i64 0, .int .i64 0, .int .i64 0], .int .i64 1]) ∧ Below w.heap.size w w' := by
  have h14 := fun W a b => val14 p q l h c d W a b
  have E := ((Env.nil w).add w.heap.size 24 #[.slice p l.length c, .slice q h.length d] rfl).add (w.heap.size + 1) 30 #[.int .i64 0, .int .i64 0, .int .i64 0, .int .i64 0, .int .i64 0, .int .i64 0] (by simp)
  have C := E.cells
  simp [BC, CF] at C
  simp only [hs] at h14
  go_enter Try.func11, Try.ntmps11
  go_wp2_with (first
    | (go_at_call 14; (with_reducible refine (h14 _ (hS.on (envB E)) (hT.on (envB E))).mono ?_); rintro X wq ⟨rfl, hb⟩; replace E := E.on hb; replace C := E.cells; simp [BC, CF] at C; clear hb))
  refine bodyPost_ret (v := .tuple #[.agg #[.int .i64 0, .int .i64 0, .int .i64 0, .int .i64 0, .int .i64 0, .int .i64 0], .int .i64 1]) (by simp [results, Try.results11, go_sem, C]) rfl ⟨rfl, ?_⟩
  exact envB (E.six (u0 := .int .i64 0) (u1 := .int .i64 0) (u2 := .int .i64 0) (u3 := .int .i64 0) (u4 := .int .i64 0) (u5 := .int .i64 0) 0 rfl)
set_option maxHeartbeats 8000000 in
set_option maxRecDepth 100000 in
theorem Hull_yes (p q : Option Addr) (l h : List Bx) (c d : Nat) (w : World) (hS : Sl w p l) (hT : Sl w q h) (hs : okS l h = true) (hc : l.length ≤ c) :
    Calls Try.prog 11 #[.agg #[.slice p l.length c, .slice q h.length d]] w fun e w' => e = .returned (.tuple #[(hulS l).val, .int .i64 0]) ∧ Below w.heap.size w w' := by
  obtain ⟨⟨hl1, hl2⟩, hh, hlt, hht⟩ := okS_i.1 hs
  have h14 := fun W a b => val14 p q l h c d W a b
  have h45 := fun W H => box_hull p l c W H hl1 (all_tk hlt) hc
  have E := ((Env.nil w).add w.heap.size 24 #[.slice p l.length c, .slice q h.length d] rfl).add (w.heap.size + 1) 30 #[.int .i64 0, .int .i64 0, .int .i64 0, .int .i64 0, .int .i64 0, .int .i64 0] (by simp)
  have C := E.cells
  simp [BC, CF] at C
  simp only [hs] at h14
  generalize hulS l = H at *
  unfold Bx.val at *
  go_enter Try.func11, Try.ntmps11
  go_wp2_with (first
    | (go_at_call 14; (with_reducible refine (h14 _ (hS.on (envB E)) (hT.on (envB E))).mono ?_); rintro X wq ⟨rfl, hb⟩; replace E := E.on hb; replace C := E.cells; simp [BC, CF] at C; clear hb)
    | (go_at_call 45; (with_reducible refine (h45 _ (hS.on (envB E))).mono ?_); rintro X wq ⟨rfl, hb⟩; replace E := E.on hb; replace C := E.cells; simp [BC, CF] at C; clear hb))
  refine bodyPost_ret (v := .tuple #[.agg #[.int .i64 H.a, .int .i64 H.b, .int .i64 H.c, .int .i64 H.d, .int .i64 H.e, .int .i64 H.f], .int .i64 0]) (by simp [results, Try.results11, go_sem, C]) rfl ⟨rfl, ?_⟩
  exact envB (E.six (u0 := .int .i64 H.a) (u1 := .int .i64 H.b) (u2 := .int .i64 H.c) (u3 := .int .i64 H.d) (u4 := .int .i64 H.e) (u5 := .int .i64 H.f) 0 rfl)
end Go.Proofs.Ytkgaahmehmbfjaa
