/- BoxFills: what its walks keep. -/
import Derived.Test.YtffigpkkdljaiaaFl1
import Derived.Deep.RegionHeldLaw
namespace Go.Proofs.Ytffigpkkdljaiaa
open Go.ChangeShapes Go.WideShapes Go.ChangeAt Go.RowKit
set_option linter.unusedVariables false
set_option linter.unusedSimpArgs false

theorem cells_fl {b : Bx} {P0 P1 P2 : Int} {w W' : World} {n g k : Nat} (h : Env w W' [⟨k, 25, #[.int .i64 P0, .int .i64 b.b, .int .i64 b.c, .int .i64 b.d, .int .i64 b.e, .int .i64 b.f]⟩, ⟨g, 25, #[.int .i64 b.a, .int .i64 b.b, .int .i64 b.c, .int .i64 P0, .int .i64 b.e, .int .i64 b.f]⟩, ⟨n, 23, #[.int .i64 P0, .int .i64 P1, .int .i64 P2]⟩, ⟨w.heap.size, 25, #[.int .i64 b.a, .int .i64 b.b, .int .i64 b.c, .int .i64 b.d, .int .i64 b.e, .int .i64 b.f]⟩]) : W'.cell? ⟨g, 0, none⟩ = some (.int .i64 b.a) ∧ W'.cell? ⟨g, 1, none⟩ = some (.int .i64 b.b) ∧ W'.cell? ⟨g, 2, none⟩ = some (.int .i64 b.c) ∧ W'.cell? ⟨g, 3, none⟩ = some (.int .i64 P0) ∧ W'.cell? ⟨g, 4, none⟩ = some (.int .i64 b.e) ∧ W'.cell? ⟨g, 5, none⟩ = some (.int .i64 b.f) ∧ W'.cell? ⟨w.heap.size, 0, none⟩ = some (.int .i64 b.a) ∧ W'.cell? ⟨w.heap.size, 1, none⟩ = some (.int .i64 b.b) ∧ W'.cell? ⟨w.heap.size, 2, none⟩ = some (.int .i64 b.c) ∧ W'.cell? ⟨w.heap.size, 3, none⟩ = some (.int .i64 b.d) ∧ W'.cell? ⟨w.heap.size, 4, none⟩ = some (.int .i64 b.e) ∧ W'.cell? ⟨w.heap.size, 5, none⟩ = some (.int .i64 b.f) ∧ Env w W' [⟨k, 25, #[.int .i64 P0, .int .i64 b.b, .int .i64 b.c, .int .i64 b.d, .int .i64 b.e, .int .i64 b.f]⟩, ⟨g, 25, #[.int .i64 b.a, .int .i64 b.b, .int .i64 b.c, .int .i64 P0, .int .i64 b.e, .int .i64 b.f]⟩, ⟨n, 23, #[.int .i64 P0, .int .i64 P1, .int .i64 P2]⟩, ⟨w.heap.size, 25, #[.int .i64 b.a, .int .i64 b.b, .int .i64 b.c, .int .i64 b.d, .int .i64 b.e, .int .i64 b.f]⟩] := by
  have C := h.cells
  simp [BC, CF] at C
  simp [C, h]
theorem fl_a {w W : World} {b : Bx} {k g n m : Nat} {P0 P1 P2 : Int} (E : Env w W [⟨k, 25, #[.int .i64 b.a, .int .i64 b.b, .int .i64 b.c, .int .i64 b.d, .int .i64 b.e, .int .i64 b.f]⟩, ⟨g, 25, #[.int .i64 b.a, .int .i64 b.b, .int .i64 b.c, .int .i64 b.d, .int .i64 b.e, .int .i64 b.f]⟩, ⟨n, 23, #[.int .i64 P0, .int .i64 P1, .int .i64 P2]⟩, ⟨m, 25, #[.int .i64 b.a, .int .i64 b.b, .int .i64 b.c, .int .i64 b.d, .int .i64 b.e, .int .i64 b.f]⟩]) : Env w ((W.setCell ⟨g, 3, none⟩ (.int .i64 P0)).setCell ⟨k, 0, none⟩ (.int .i64 P0)) [⟨k, 25, #[.int .i64 P0, .int .i64 b.b, .int .i64 b.c, .int .i64 b.d, .int .i64 b.e, .int .i64 b.f]⟩, ⟨g, 25, #[.int .i64 b.a, .int .i64 b.b, .int .i64 b.c, .int .i64 P0, .int .i64 b.e, .int .i64 b.f]⟩, ⟨n, 23, #[.int .i64 P0, .int .i64 P1, .int .i64 P2]⟩, ⟨m, 25, #[.int .i64 b.a, .int .i64 b.b, .int .i64 b.c, .int .i64 b.d, .int .i64 b.e, .int .i64 b.f]⟩] := (E.put 1 3 _ rfl).put 0 0 _ rfl
theorem fl_b {w W : World} {b : Bx} {k g n m : Nat} {P0 P1 P2 : Int} (E : Env w W [⟨k, 25, #[.int .i64 b.a, .int .i64 b.b, .int .i64 b.c, .int .i64 b.d, .int .i64 b.e, .int .i64 b.f]⟩, ⟨g, 25, #[.int .i64 b.a, .int .i64 b.b, .int .i64 b.c, .int .i64 b.d, .int .i64 b.e, .int .i64 b.f]⟩, ⟨n, 23, #[.int .i64 P0, .int .i64 P1, .int .i64 P2]⟩, ⟨m, 25, #[.int .i64 b.a, .int .i64 b.b, .int .i64 b.c, .int .i64 b.d, .int .i64 b.e, .int .i64 b.f]⟩]) : Env w ((W.setCell ⟨k, 0, none⟩ (.int .i64 P0)).setCell ⟨g, 3, none⟩ (.int .i64 P0)) [⟨k, 25, #[.int .i64 P0, .int .i64 b.b, .int .i64 b.c, .int .i64 b.d, .int .i64 b.e, .int .i64 b.f]⟩, ⟨g, 25, #[.int .i64 b.a, .int .i64 b.b, .int .i64 b.c, .int .i64 P0, .int .i64 b.e, .int .i64 b.f]⟩, ⟨n, 23, #[.int .i64 P0, .int .i64 P1, .int .i64 P2]⟩, ⟨m, 25, #[.int .i64 b.a, .int .i64 b.b, .int .i64 b.c, .int .i64 b.d, .int .i64 b.e, .int .i64 b.f]⟩] := (E.put 0 0 _ rfl).put 1 3 _ rfl
theorem envb {w0 w : World} {l : List Fb} (h : Env w0 w l) : Below w0.heap.size w0 w := h.1
theorem cells_f2 {b : Bx} {P0 P1 P2 : Int} {w W' : World} {n g k : Nat} (h : Env w W' [⟨k, 25, #[.int .i64 P0, .int .i64 b.b, .int .i64 b.c, .int .i64 b.d, .int .i64 b.e, .int .i64 b.f]⟩, ⟨g, 25, #[.int .i64 b.a, .int .i64 b.b, .int .i64 b.c, .int .i64 P0, .int .i64 b.e, .int .i64 b.f]⟩, ⟨n, 23, #[.int .i64 P0, .int .i64 P1, .int .i64 P2]⟩, ⟨w.heap.size, 25, #[.int .i64 b.a, .int .i64 b.b, .int .i64 b.c, .int .i64 b.d, .int .i64 b.e, .int .i64 b.f]⟩]) : W'.cell? ⟨g, 0, none⟩ = some (.int .i64 b.a) ∧ W'.cell? ⟨g, 1, none⟩ = some (.int .i64 b.b) ∧ W'.cell? ⟨g, 2, none⟩ = some (.int .i64 b.c) ∧ W'.cell? ⟨g, 3, none⟩ = some (.int .i64 P0) ∧ W'.cell? ⟨g, 4, none⟩ = some (.int .i64 b.e) ∧ W'.cell? ⟨g, 5, none⟩ = some (.int .i64 b.f) ∧ W'.cell? ⟨w.heap.size, 0, none⟩ = some (.int .i64 b.a) ∧ W'.cell? ⟨w.heap.size, 1, none⟩ = some (.int .i64 b.b) ∧ W'.cell? ⟨w.heap.size, 2, none⟩ = some (.int .i64 b.c) ∧ W'.cell? ⟨w.heap.size, 3, none⟩ = some (.int .i64 b.d) ∧ W'.cell? ⟨w.heap.size, 4, none⟩ = some (.int .i64 b.e) ∧ W'.cell? ⟨w.heap.size, 5, none⟩ = some (.int .i64 b.f) := by
  have C := h.cells
  simp [BC, CF] at C
  simp [C]
theorem app_sl {B : Nat} {w : World} {gg cap : Nat} {l : List Bx} {b : Bx} {P0 : Int} (h : w.ownsRow B 25 6 (.slice (some ⟨gg, 0, none⟩) (l.length + 1) cap) (l.length + 1) (l.flatMap cb ++ [.int .i64 b.a, .int .i64 b.b, .int .i64 b.c, .int .i64 P0, .int .i64 b.e, .int .i64 b.f])) (hl : l.length ≤ 8) : Sl w (some ⟨gg, 0, none⟩) (l ++ [leftB b P0]) := by
  have h' : Own cb 25 6 B w (.slice (some ⟨gg, 0, none⟩) (l.length + 1) cap) (l ++ [leftB b P0]) := by
    unfold Own
    rw [List.length_append, List.flatMap_append]
    exact h
  obtain ⟨q, c, e, hS⟩ := own_sl h' (by simp; omega)
  simp at e
  obtain ⟨rfl, -⟩ := e
  exact hS
theorem env_app {w w37 W W0 w5 : World} {l : List Fb} {e : TypeId} {s n : Nat} {v : Value} {xs : List Value} (E : Env w w37 l) (BN : Below w37.heap.size w37 W) (ho : W0.ownsRow w37.heap.size e s v n xs) (hg : W.grownBy w5 v.ownBlock) : Env w w5 l := E.on (BN.grown hg BN.size (fun k e => (World.ownsRow.lt ho k e).1))
theorem bn_a {w w1 : World} (h : Below w.drew.heap.size w.drew w1) (o : Obj) : Below w.heap.size w (w1.alloc o) := al (belows (below_dr (Below.refl _ _)) h) o
theorem bn_b {w w1 : World} {o : Obj} (h : Below (w.alloc o).drew.heap.size (w.alloc o).drew w1) : Below w.heap.size w w1 := belows (below_dr (al (Below.refl _ _) o)) h
theorem has_b {w w1 : World} {t : TypeId} {cs : Array Value} (h : Below (w.alloc (.cells cs t)).drew.heap.size (w.alloc (.cells cs t)).drew w1) : Has w1 w.heap.size t cs := (show Has (w.alloc (.cells cs t)).drew w.heap.size t cs from has_new_at (w := w) rfl).on h
theorem env_third {w W : World} {a b c : Fb} {l : List Fb} (E : Env w W (a :: b :: c :: l)) : Has W c.g c.t c.cs := E.2.2.2.2.2.2.2.2.1
end Go.Proofs.Ytffigpkkdljaiaa
