/- Order. -/
import Derived.Test.YteofbbakegcohaaOd
namespace Go.Proofs.Yteofbbakegcohaa
open Go.ChangeShapes Go.WideShapes Go.ChangeAt Go.RowKit
set_option linter.unusedVariables false
set_option linter.unusedSimpArgs false


theorem order_some {G n : Nat} {A : Nat → List Nat} {w : World} (hG : Gm w G n A) {E : List Nat} (h : ordr A n n [] = some E) :
    Calls Try.prog 43 #[.slice (some ⟨G, 0, none⟩) n n] w fun e w' => ∃ v, e = .returned (.tuple #[v, .bool true]) ∧ Own w.heap.size w' v E ∧ Below w.heap.size w w' :=
  (order_any G n A w hG).mono fun e w' k => by
    obtain ⟨v, h1, h2⟩ := k.1 E h
    exact ⟨v, h1, h2, k.2.2⟩
theorem order_none {G n : Nat} {A : Nat → List Nat} {w : World} (hG : Gm w G n A) (h : ordr A n n [] = none) :
    Calls Try.prog 43 #[.slice (some ⟨G, 0, none⟩) n n] w fun e w' => e = .returned (.tuple #[.slice none 0 0, .bool false]) ∧ Below w.heap.size w w' :=
  (order_any G n A w hG).mono fun e w' k => ⟨k.2.1 h, k.2.2⟩
/-- What newGraph answers is a graph that can be read. -/
theorem graph_gm (p : Option Addr) (n : Nat) (l : List (Nat × Nat)) (cap : Nat) (w : World) (hG : Gr w p n l) :
    Calls Try.prog 42 #[.int .i64 n, .slice p l.length cap] w fun e w' => e = .returned (.slice (some ⟨w.heap.size, 0, none⟩) n n) ∧ Gm w' w.heap.size n (adj l) ∧ Below w.heap.size w w' :=
  (graph_any p n l cap w hG).mono fun e w' k => ⟨k.1, Gm.of k.2.1 hG.2.2.1 hG.2.1 hG.2.2.2, k.2.2⟩
set_option maxRecDepth 100000 in
theorem order_yes (p : Option Addr) (n : Nat) (l : List (Nat × Nat)) (cap : Nat) (w : World) (hG : Gr w p n l) (E : List Nat) (hE : ordr (adj l) n n [] = some E) :
    Calls Try.prog 12 #[.int .i64 n, .slice p l.length cap] w fun e w' => ∃ v, e = .returned (.tuple #[v, .int .i64 0]) ∧ Own w.heap.size w' v E ∧ Below w.heap.size w w' := by
  have HE := Lib.hid hE
  clear hE
  go_enter Try.func12, Try.ntmps12
  go_wp2_with (first
    | (go_at_call 15; (with_reducible refine (valid_ok cap hG).mono ?_); rintro e w1 ⟨rfl, b1⟩; have hG1 := hG.on b1)
    | (go_at_call 42; (with_reducible refine (graph_gm p n l cap _ hG1).mono ?_); rintro e w2 ⟨rfl, g2, b2⟩)
    | (go_at_call 43; (with_reducible refine (order_some g2 HE.out).mono ?_); rintro e w3 ⟨v, rfl, o3, b3⟩))
  refine bodyPost_ret (v := .tuple #[v, .int .i64 0]) (by simp [results, Try.results12, go_sem]) rfl ⟨v, rfl, o3.mono (Nat.le_trans b1.size b2.size), belows (belows b1 b2) b3⟩
set_option maxRecDepth 100000 in
theorem order_loop (p : Option Addr) (n : Nat) (l : List (Nat × Nat)) (cap : Nat) (w : World) (hG : Gr w p n l) (hE : ordr (adj l) n n [] = none) :
    Calls Try.prog 12 #[.int .i64 n, .slice p l.length cap] w fun e w' => e = .returned (.tuple #[.slice none 0 0, .int .i64 23]) ∧ Below w.heap.size w w' := by
  have HE := Lib.hid hE
  clear hE
  go_enter Try.func12, Try.ntmps12
  go_wp2_with (first
    | (go_at_call 15; (with_reducible refine (valid_ok cap hG).mono ?_); rintro e w1 ⟨rfl, b1⟩; have hG1 := hG.on b1)
    | (go_at_call 42; (with_reducible refine (graph_gm p n l cap _ hG1).mono ?_); rintro e w2 ⟨rfl, g2, b2⟩)
    | (go_at_call 43; (with_reducible refine (order_none g2 HE.out).mono ?_); rintro e w3 ⟨rfl, b3⟩))
  exact bodyPost_ret (v := .tuple #[.slice none 0 0, .int .i64 23]) (by simp [results, Try.results12, go_sem]) rfl ⟨rfl, belows (belows b1 b2) b3⟩
set_option maxRecDepth 100000 in
theorem order_no (p : Option Addr) (n : Int) (l : List (Int × Int)) (cap : Nat) (w : World) (hS : Sl w p l) (h : vG n l = false) :
    Calls Try.prog 12 #[.int .i64 n, .slice p l.length cap] w fun e w' => e = .returned (.tuple #[.slice none 0 0, .int .i64 1]) ∧ Below w.heap.size w w' := by
  have hv := valid_any p l cap n w hS
  rw [h] at hv
  go_enter Try.func12, Try.ntmps12
  go_wp2_with (go_at_call 15; (with_reducible refine hv.mono ?_); rintro e w1 ⟨rfl, b1⟩)
  exact bodyPost_ret (v := .tuple #[.slice none 0 0, .int .i64 1]) (by simp [results, Try.results12, go_sem]) rfl ⟨rfl, b1⟩
end Go.Proofs.Yteofbbakegcohaa
