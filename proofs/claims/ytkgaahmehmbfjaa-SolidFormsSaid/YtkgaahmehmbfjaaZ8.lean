/- The reference: Nearest. many; the reference's All. Clone of boxes; which box of a list holds a point. BoxFills: what its walks keep. The reference: Meet. The reference: Contains. The reference: Hull. -/
import Derived.Test.YtkgaahmehmbfjaaZ7
import Derived.Test.YtkgaahmehmbfjaaZ6
import Derived.Deep.RegionHeldLaw
import Derived.Test.YtkgaahmehmbfjaaZ2
namespace Go.Proofs.Ytkgaahmehmbfjaa
open Go.ChangeShapes Go.WideShapes Go.ChangeAt Go.RowKit
set_option linter.unusedVariables false
set_option linter.unusedSimpArgs false

def Lnr (n i : Nat) (x y : Bx) (p0 p1 p2 q0 q1 q2 : Int) : List Fb := [⟨n + 1 + 1 + 1 + 1 + 1, 28, #[.int .i64 (if 0 < i then q0 else 0), .int .i64 (if 1 < i then q1 else 0), .int .i64 (if 2 < i then q2 else 0)]⟩, ⟨n + 1 + 1 + 1 + 1, 28, #[.int .i64 (if 0 < i then p0 else 0), .int .i64 (if 1 < i then p1 else 0), .int .i64 (if 2 < i then p2 else 0)]⟩, ⟨n + 1 + 1 + 1, 28, #[.int .i64 0, .int .i64 0, .int .i64 0]⟩, ⟨n + 1 + 1, 28, #[.int .i64 0, .int .i64 0, .int .i64 0]⟩, ⟨n + 1, 30, #[.int .i64 y.a, .int .i64 y.b, .int .i64 y.c, .int .i64 y.d, .int .i64 y.e, .int .i64 y.f]⟩, ⟨n, 30, #[.int .i64 x.a, .int .i64 x.b, .int .i64 x.c, .int .i64 x.d, .int .i64 x.e, .int .i64 x.f]⟩]
theorem mx_max (a b : Int) : mx a b = max a b := by unfold mx; split <;> omega
theorem cells_nr {x y : Bx} {w W' : World} {i : Nat} {p0 p1 p2 q0 q1 q2 : Int} (h : Env w W' (Lnr w.heap.size i x y p0 p1 p2 q0 q1 q2)) : W'.cell? ⟨w.heap.size, 0, none⟩ = some (.int .i64 x.a) ∧ W'.cell? ⟨w.heap.size, 1, none⟩ = some (.int .i64 x.b) ∧ W'.cell? ⟨w.heap.size, 2, none⟩ = some (.int .i64 x.c) ∧ W'.cell? ⟨w.heap.size, 3, none⟩ = some (.int .i64 x.d) ∧ W'.cell? ⟨w.heap.size, 4, none⟩ = some (.int .i64 x.e) ∧ W'.cell? ⟨w.heap.size, 5, none⟩ = some (.int .i64 x.f) ∧ W'.cell? ⟨w.heap.size + 1, 0, none⟩ = some (.int .i64 y.a) ∧ W'.cell? ⟨w.heap.size + 1, 1, none⟩ = some (.int .i64 y.b) ∧ W'.cell? ⟨w.heap.size + 1, 2, none⟩ = some (.int .i64 y.c) ∧ W'.cell? ⟨w.heap.size + 1, 3, none⟩ = some (.int .i64 y.d) ∧ W'.cell? ⟨w.heap.size + 1, 4, none⟩ = some (.int .i64 y.e) ∧ W'.cell? ⟨w.heap.size + 1, 5, none⟩ = some (.int .i64 y.f) ∧ Env w W' (Lnr w.heap.size i x y p0 p1 p2 q0 q1 q2) := by
  have C := h.cells
  simp [BC, CF, Lnr] at C
  simp [C, h]
end Go.Proofs.Ytkgaahmehmbfjaa
namespace Go.Proofs.Ytkgaahmehmbfjaa
open Go.ChangeShapes Go.WideShapes Go.ChangeAt Go.RowKit
set_option linter.unusedVariables false
set_option linter.unusedSimpArgs false

def manyB (n : Nat) : Bool := decide (8 < n ∧ n ≤ 40 ∨ 45 < n)
end Go.Proofs.Ytkgaahmehmbfjaa
namespace Go.Proofs.Ytkgaahmehmbfjaa
open Go.ChangeShapes Go.WideShapes Go.ChangeAt Go.RowKit
set_option linter.unusedVariables false
set_option linter.unusedSimpArgs false

def cb (x : Bx) : List Value := [.int .i64 x.a, .int .i64 x.b, .int .i64 x.c, .int .i64 x.d, .int .i64 x.e, .int .i64 x.f]
theorem bl (x : Bx) : (cb x).length = 6 := rfl
theorem cb_one (l : List Bx) : ∀ u ∈ l.flatMap cb, u.oneCell' = true := by
  intro u hu
  obtain ⟨x, -, hx⟩ := List.mem_flatMap.1 hu
  simp [cb] at hx
  rcases hx with rfl | rfl | rfl | rfl | rfl | rfl <;> rfl
theorem info25 : (Try.prog.info? 30).map (fun i => (i.zero, i.size, i.bytes)) = some (some (.agg #[.int .i64 0, .int .i64 0, .int .i64 0, .int .i64 0, .int .i64 0, .int .i64 0]), 6, 48) := by kernel_rfl
theorem add_pos (a : Addr) {j : Nat} (h : 0 < j) : (⟨a.block, a.off + j, none⟩ : Addr) = a.add j := by rw [Addr.add.eq_1 a j, if_neg (by omega)]
theorem fr_news {w : World} {a : Addr} {l : List Bx} (h : Fr6 w a l) : ∀ j u, (l.flatMap cb)[j]? = some u → w.cell? (a.add j) = some u := by
  intro j u hj
  have hl := (List.getElem?_eq_some_iff.1 hj).1
  rw [flat_len cb 6 bl] at hl
  have hi : j / 6 < l.length := by omega
  have e := flat_at cb 6 bl l (j / 6) hi (j % 6) (Nat.mod_lt _ (by omega))
  have ej : j / 6 * 6 + j % 6 = j := by omega
  rw [ej, hj] at e
  obtain ⟨h0, h1, h2, h3, h4, h5⟩ := h (j / 6) hi
  have key : ∀ r, 0 < r → a.add (j / 6 * 6 + r) = ⟨(a.add (j / 6 * 6)).block, (a.add (j / 6 * 6)).off + r, none⟩ := fun r hr => by
    rw [add_pos _ hr, Go.Deep.add_add]
  rw [← ej]
  rcases (by omega : j % 6 = 0 ∨ j % 6 = 1 ∨ j % 6 = 2 ∨ j % 6 = 3 ∨ j % 6 = 4 ∨ j % 6 = 5) with k | k | k | k | k | k
  · rw [k] at e ⊢; rw [Nat.add_zero, h0, e]; rfl
  · rw [k] at e ⊢; rw [key 1 (by omega), h1, e]; rfl
  · rw [k] at e ⊢; rw [key 2 (by omega), h2, e]; rfl
  · rw [k] at e ⊢; rw [key 3 (by omega), h3, e]; rfl
  · rw [k] at e ⊢; rw [key 4 (by omega), h4, e]; rfl
  · rw [k] at e ⊢; rw [key 5 (by omega), h5, e]; rfl
theorem own_sl {B : Nat} {w : World} {v : Value} {l : List Bx} (h : Own cb 30 6 B w v l) (hl : l.length ≤ 1000) : ∃ q c, v = .slice q l.length c ∧ Sl w q l := by
  obtain ⟨q, c, rfl, hC⟩ := Own.rd bl h
  refine ⟨q, c, rfl, ?_, ?_, by unfold maxLen; omega⟩
  · intro e
    rcases l with _ | ⟨x, l⟩
    · rfl
    · obtain ⟨g, e2, -⟩ := hC 0 (by simp); rw [e] at e2; cases e2
  · intro a e i hi
    obtain ⟨g, e2, hc⟩ := hC i hi
    rw [e] at e2
    cases e2
    have ad : (⟨g, 0, none⟩ : Addr).add (i * 6) = ⟨g, i * 6, none⟩ := by unfold Addr.add; split <;> simp_all
    rw [ad]
    exact ⟨hc 0 (by omega), hc 1 (by omega), hc 2 (by omega), hc 3 (by omega), hc 4 (by omega), hc 5 (by omega)⟩
def hasP (p q r : Int) (x : Bx) : Bool := conB x (ptB p q r)
def Sf (x : Bx) (p q r : Int) (g : Nat) (w W' : World) : Prop := Env w W' [⟨w.heap.size, 30, #[.int .i64 x.a, .int .i64 x.b, .int .i64 x.c, .int .i64 x.d, .int .i64 x.e, .int .i64 x.f]⟩] ∧ Has W' g 28 #[.int .i64 p, .int .i64 q, .int .i64 r]
theorem Sf.on {x : Bx} {p q r : Int} {g : Nat} {w W W' : World} (h : Sf x p q r g w W) (hb : Below W.heap.size W W') : Sf x p q r g w W' := ⟨h.1.on hb, h.2.on hb⟩
theorem Sf.drw {x : Bx} {p q r : Int} {g : Nat} {w W : World} (h : Sf x p q r g w W) : Sf x p q r g w W.drew := h.on (Below.drew (Below.refl _ _))
theorem cells_f {x : Bx} {p q r : Int} {g : Nat} {w W' : World} (h : Sf x p q r g w W') : W'.cell? ⟨w.heap.size, 0, none⟩ = some (.int .i64 x.a) ∧ W'.cell? ⟨w.heap.size, 1, none⟩ = some (.int .i64 x.b) ∧ W'.cell? ⟨w.heap.size, 2, none⟩ = some (.int .i64 x.c) ∧ W'.cell? ⟨w.heap.size, 3, none⟩ = some (.int .i64 x.d) ∧ W'.cell? ⟨w.heap.size, 4, none⟩ = some (.int .i64 x.e) ∧ W'.cell? ⟨w.heap.size, 5, none⟩ = some (.int .i64 x.f) ∧ W'.cell? ⟨g, 0, none⟩ = some (.int .i64 p) ∧ W'.cell? ⟨g, 1, none⟩ = some (.int .i64 q) ∧ W'.cell? ⟨g, 2, none⟩ = some (.int .i64 r) ∧ Sf x p q r g w W' := by
  have C := h.1.cells
  simp [BC, CF] at C
  have r0 : W'.cell? ⟨g, 0, none⟩ = some (.int .i64 p) := h.2.read 0
  have r1 : W'.cell? ⟨g, 1, none⟩ = some (.int .i64 q) := h.2.read 1
  have r2 : W'.cell? ⟨g, 2, none⟩ = some (.int .i64 r) := h.2.read 2
  simp [C, r0, r1, r2, h]
end Go.Proofs.Ytkgaahmehmbfjaa
namespace Go.Proofs.Ytkgaahmehmbfjaa
open Go.ChangeShapes Go.WideShapes Go.ChangeAt Go.RowKit
set_option linter.unusedVariables false
set_option linter.unusedSimpArgs false

theorem cells_fl {b : Bx} {P0 P1 P2 : Int} {w W' : World} {n g k : Nat} (h : Env w W' [⟨k, 30, #[.int .i64 P0, .int .i64 b.b, .int .i64 b.c, .int .i64 b.d, .int .i64 b.e, .int .i64 b.f]⟩, ⟨g, 30, #[.int .i64 b.a, .int .i64 b.b, .int .i64 b.c, .int .i64 P0, .int .i64 b.e, .int .i64 b.f]⟩, ⟨n, 28, #[.int .i64 P0, .int .i64 P1, .int .i64 P2]⟩, ⟨w.heap.size, 30, #[.int .i64 b.a, .int .i64 b.b, .int .i64 b.c, .int .i64 b.d, .int .i64 b.e, .int .i64 b.f]⟩]) : W'.cell? ⟨g, 0, none⟩ = some (.int .i64 b.a) ∧ W'.cell? ⟨g, 1, none⟩ = some (.int .i64 b.b) ∧ W'.cell? ⟨g, 2, none⟩ = some (.int .i64 b.c) ∧ W'.cell? ⟨g, 3, none⟩ = some (.int .i64 P0) ∧ W'.cell? ⟨g, 4, none⟩ = some (.int .i64 b.e) ∧ W'.cell? ⟨g, 5, none⟩ = some (.int .i64 b.f) ∧ W'.cell? ⟨w.heap.size, 0, none⟩ = some (.int .i64 b.a) ∧ W'.cell? ⟨w.heap.size, 1, none⟩ = some (.int .i64 b.b) ∧ W'.cell? ⟨w.heap.size, 2, none⟩ = some (.int .i64 b.c) ∧ W'.cell? ⟨w.heap.size, 3, none⟩ = some (.int .i64 b.d) ∧ W'.cell? ⟨w.heap.size, 4, none⟩ = some (.int .i64 b.e) ∧ W'.cell? ⟨w.heap.size, 5, none⟩ = some (.int .i64 b.f) ∧ Env w W' [⟨k, 30, #[.int .i64 P0, .int .i64 b.b, .int .i64 b.c, .int .i64 b.d, .int .i64 b.e, .int .i64 b.f]⟩, ⟨g, 30, #[.int .i64 b.a, .int .i64 b.b, .int .i64 b.c, .int .i64 P0, .int .i64 b.e, .int .i64 b.f]⟩, ⟨n, 28, #[.int .i64 P0, .int .i64 P1, .int .i64 P2]⟩, ⟨w.heap.size, 30, #[.int .i64 b.a, .int .i64 b.b, .int .i64 b.c, .int .i64 b.d, .int .i64 b.e, .int .i64 b.f]⟩] := by
  have C := h.cells
  simp [BC, CF] at C
  simp [C, h]
theorem fl_a {w W : World} {b : Bx} {k g n m : Nat} {P0 P1 P2 : Int} (E : Env w W [⟨k, 30, #[.int .i64 b.a, .int .i64 b.b, .int .i64 b.c, .int .i64 b.d, .int .i64 b.e, .int .i64 b.f]⟩, ⟨g, 30, #[.int .i64 b.a, .int .i64 b.b, .int .i64 b.c, .int .i64 b.d, .int .i64 b.e, .int .i64 b.f]⟩, ⟨n, 28, #[.int .i64 P0, .int .i64 P1, .int .i64 P2]⟩, ⟨m, 30, #[.int .i64 b.a, .int .i64 b.b, .int .i64 b.c, .int .i64 b.d, .int .i64 b.e, .int .i64 b.f]⟩]) : Env w ((W.setCell ⟨g, 3, none⟩ (.int .i64 P0)).setCell ⟨k, 0, none⟩ (.int .i64 P0)) [⟨k, 30, #[.int .i64 P0, .int .i64 b.b, .int .i64 b.c, .int .i64 b.d, .int .i64 b.e, .int .i64 b.f]⟩, ⟨g, 30, #[.int .i64 b.a, .int .i64 b.b, .int .i64 b.c, .int .i64 P0, .int .i64 b.e, .int .i64 b.f]⟩, ⟨n, 28, #[.int .i64 P0, .int .i64 P1, .int .i64 P2]⟩, ⟨m, 30, #[.int .i64 b.a, .int .i64 b.b, .int .i64 b.c, .int .i64 b.d, .int .i64 b.e, .int .i64 b.f]⟩] := (E.put 1 3 _ rfl).put 0 0 _ rfl
theorem fl_b {w W : World} {b : Bx} {k g n m : Nat} {P0 P1 P2 : Int} (E : Env w W [⟨k, 30, #[.int .i64 b.a, .int .i64 b.b, .int .i64 b.c, .int .i64 b.d, .int .i64 b.e, .int .i64 b.f]⟩, ⟨g, 30, #[.int .i64 b.a, .int .i64 b.b, .int .i64 b.c, .int .i64 b.d, .int .i64 b.e, .int .i64 b.f]⟩, ⟨n, 28, #[.int .i64 P0, .int .i64 P1, .int .i64 P2]⟩, ⟨m, 30, #[.int .i64 b.a, .int .i64 b.b, .int .i64 b.c, .int .i64 b.d, .int .i64 b.e, .int .i64 b.f]⟩]) : Env w ((W.setCell ⟨k, 0, none⟩ (.int .i64 P0)).setCell ⟨g, 3, none⟩ (.int .i64 P0)) [⟨k, 30, #[.int .i64 P0, .int .i64 b.b, .int .i64 b.c, .int .i64 b.d, .int .i64 b.e, .int .i64 b.f]⟩, ⟨g, 30, #[.int .i64 b.a, .int .i64 b.b, .int .i64 b.c, .int .i64 P0, .int .i64 b.e, .int .i64 b.f]⟩, ⟨n, 28, #[.int .i64 P0, .int .i64 P1, .int .i64 P2]⟩, ⟨m, 30, #[.int .i64 b.a, .int .i64 b.b, .int .i64 b.c, .int .i64 b.d, .int .i64 b.e, .int .i64 b.f]⟩] := (E.put 0 0 _ rfl).put 1 3 _ rfl
theorem envb {w0 w : World} {l : List Fb} (h : Env w0 w l) : Below w0.heap.size w0 w := h.1
theorem cells_f2 {b : Bx} {P0 P1 P2 : Int} {w W' : World} {n g k : Nat} (h : Env w W' [⟨k, 30, #[.int .i64 P0, .int .i64 b.b, .int .i64 b.c, .int .i64 b.d, .int .i64 b.e, .int .i64 b.f]⟩, ⟨g, 30, #[.int .i64 b.a, .int .i64 b.b, .int .i64 b.c, .int .i64 P0, .int .i64 b.e, .int .i64 b.f]⟩, ⟨n, 28, #[.int .i64 P0, .int .i64 P1, .int .i64 P2]⟩, ⟨w.heap.size, 30, #[.int .i64 b.a, .int .i64 b.b, .int .i64 b.c, .int .i64 b.d, .int .i64 b.e, .int .i64 b.f]⟩]) : W'.cell? ⟨g, 0, none⟩ = some (.int .i64 b.a) ∧ W'.cell? ⟨g, 1, none⟩ = some (.int .i64 b.b) ∧ W'.cell? ⟨g, 2, none⟩ = some (.int .i64 b.c) ∧ W'.cell? ⟨g, 3, none⟩ = some (.int .i64 P0) ∧ W'.cell? ⟨g, 4, none⟩ = some (.int .i64 b.e) ∧ W'.cell? ⟨g, 5, none⟩ = some (.int .i64 b.f) ∧ W'.cell? ⟨w.heap.size, 0, none⟩ = some (.int .i64 b.a) ∧ W'.cell? ⟨w.heap.size, 1, none⟩ = some (.int .i64 b.b) ∧ W'.cell? ⟨w.heap.size, 2, none⟩ = some (.int .i64 b.c) ∧ W'.cell? ⟨w.heap.size, 3, none⟩ = some (.int .i64 b.d) ∧ W'.cell? ⟨w.heap.size, 4, none⟩ = some (.int .i64 b.e) ∧ W'.cell? ⟨w.heap.size, 5, none⟩ = some (.int .i64 b.f) := by
  have C := h.cells
  simp [BC, CF] at C
  simp [C]
theorem app_sl {B : Nat} {w : World} {gg cap : Nat} {l : List Bx} {b : Bx} {P0 : Int} (h : w.ownsRow B 30 6 (.slice (some ⟨gg, 0, none⟩) (l.length + 1) cap) (l.length + 1) (l.flatMap cb ++ [.int .i64 b.a, .int .i64 b.b, .int .i64 b.c, .int .i64 P0, .int .i64 b.e, .int .i64 b.f])) (hl : l.length ≤ 8) : Sl w (some ⟨gg, 0, none⟩) (l ++ [leftB b P0]) := by
  have h' : Own cb 30 6 B w (.slice (some ⟨gg, 0, none⟩) (l.length + 1) cap) (l ++ [leftB b P0]) := by
    unfold Own
    rw [List.length_append, List.flatMap_append]
    exact h
  obtain ⟨q, c, e, hS⟩ := own_sl h' (by simp; omega)
  simp at e
  obtain ⟨rfl, -⟩ := e
  exact hS
theorem env_app {w w37 W W0 w5 : World} {l : List Fb} {e : TypeId} {s n : Nat} {v : Value} {xs : List Value} (E : Env w w37 l) (BN : Below w37.heap.size w37 W) (ho : W0.ownsRow w37.heap.size e s v n xs) (hg : W.grownBy w5 v.ownBlock) : Env w w5 l := E.on (BN.grown hg BN.size (fun k e => (World.ownsRow.lt ho k e).1))
theorem bn_a {w w1 : World} (h : Below w.drew.heap.size w.drew w1) (o : Obj) : Below w.heap.size w (w1.alloc o) := al (belows (below_dr (Below.refl _ _)) h) o
theorem bn_b {w w1 : World} {o : Obj} (h : Below (w.alloc o).drew.heap.size (w.alloc o).drew w1) : Below w.heap.size w w1 := belows (below_dr (al (Below.refl _ _) o)) h
theorem has_b {w w1 : World} {t : TypeId} {cs : Array Value} (h : Below (w.alloc (.cells cs t)).drew.heap.size (w.alloc (.cells cs t)).drew w1) : Has w1 w.heap.size t cs := (show Has (w.alloc (.cells cs t)).drew w.heap.size t cs from has_new_at (w := w) rfl).on h
theorem env_third {w W : World} {a b c : Fb} {l : List Fb} (E : Env w W (a :: b :: c :: l)) : Has W c.g c.t c.cs := E.2.2.2.2.2.2.2.2.1
end Go.Proofs.Ytkgaahmehmbfjaa
namespace Go.Proofs.Ytkgaahmehmbfjaa
open Go.ChangeShapes Go.WideShapes Go.ChangeAt Go.RowKit
set_option linter.unusedVariables false
set_option linter.unusedSimpArgs false

def Lmt (n i : Nat) (x y : Bx) (l0 l1 l2 h0 h1 h2 : Int) : List Fb := [⟨n + 1 + 1 + 1, 30, #[.int .i64 (if 0 < i then l0 else 0), .int .i64 (if 1 < i then l1 else 0), .int .i64 (if 2 < i then l2 else 0), .int .i64 (if 0 < i then h0 else 0), .int .i64 (if 1 < i then h1 else 0), .int .i64 (if 2 < i then h2 else 0)]⟩, ⟨n + 1 + 1, 30, #[.int .i64 0, .int .i64 0, .int .i64 0, .int .i64 0, .int .i64 0, .int .i64 0]⟩, ⟨n + 1, 30, #[.int .i64 y.a, .int .i64 y.b, .int .i64 y.c, .int .i64 y.d, .int .i64 y.e, .int .i64 y.f]⟩, ⟨n, 30, #[.int .i64 x.a, .int .i64 x.b, .int .i64 x.c, .int .i64 x.d, .int .i64 x.e, .int .i64 x.f]⟩]
theorem cells_mt {x y : Bx} {w W' : World} {i : Nat} {l0 l1 l2 h0 h1 h2 : Int} (h : Env w W' (Lmt w.heap.size i x y l0 l1 l2 h0 h1 h2)) : W'.cell? ⟨w.heap.size, 0, none⟩ = some (.int .i64 x.a) ∧ W'.cell? ⟨w.heap.size, 1, none⟩ = some (.int .i64 x.b) ∧ W'.cell? ⟨w.heap.size, 2, none⟩ = some (.int .i64 x.c) ∧ W'.cell? ⟨w.heap.size, 3, none⟩ = some (.int .i64 x.d) ∧ W'.cell? ⟨w.heap.size, 4, none⟩ = some (.int .i64 x.e) ∧ W'.cell? ⟨w.heap.size, 5, none⟩ = some (.int .i64 x.f) ∧ W'.cell? ⟨w.heap.size + 1, 0, none⟩ = some (.int .i64 y.a) ∧ W'.cell? ⟨w.heap.size + 1, 1, none⟩ = some (.int .i64 y.b) ∧ W'.cell? ⟨w.heap.size + 1, 2, none⟩ = some (.int .i64 y.c) ∧ W'.cell? ⟨w.heap.size + 1, 3, none⟩ = some (.int .i64 y.d) ∧ W'.cell? ⟨w.heap.size + 1, 4, none⟩ = some (.int .i64 y.e) ∧ W'.cell? ⟨w.heap.size + 1, 5, none⟩ = some (.int .i64 y.f) ∧ Env w W' (Lmt w.heap.size i x y l0 l1 l2 h0 h1 h2) := by
  have C := h.cells
  simp [BC, CF, Lmt] at C
  simp [C, h]
set_option maxHeartbeats 32000000 in
set_option maxRecDepth 100000 in
theorem rmeet_core (x y : Bx) (l0 l1 l2 h0 h1 h2 : Int) (w : World) (r : Value) (HR : Hid (r = if l0 ≤ h0 ∧ l1 ≤ h1 ∧ l2 ≤ h2 then .tuple #[.agg #[.int .i64 l0, .int .i64 l1, .int .i64 l2, .int .i64 h0, .int .i64 h1, .int .i64 h2], .bool true] else .tuple #[.agg #[.int .i64 0, .int .i64 0, .int .i64 0, .int .i64 0, .int .i64 0, .int .i64 0], .bool false])) (EL0 : Hid (max x.a y.a = l0)) (EL1 : Hid (max x.b y.b = l1)) (EL2 : Hid (max x.c y.c = l2)) (EH0 : Hid (min x.d y.d = h0)) (EH1 : Hid (min x.e y.e = h1)) (EH2 : Hid (min x.f y.f = h2)) :
    Calls Try.prog 105 #[x.val, y.val] w fun E w' => E = .returned r ∧ Below w.heap.size w w' := by
  have E := ((((Env.nil w).add w.heap.size 30 #[.int .i64 x.a, .int .i64 x.b, .int .i64 x.c, .int .i64 x.d, .int .i64 x.e, .int .i64 x.f] rfl).add (w.heap.size + 1) 30 #[.int .i64 y.a, .int .i64 y.b, .int .i64 y.c, .int .i64 y.d, .int .i64 y.e, .int .i64 y.f] (by simp)).add (w.heap.size + 1 + 1) 30 #[.int .i64 0, .int .i64 0, .int .i64 0, .int .i64 0, .int .i64 0, .int .i64 0] (by simp)).add (w.heap.size + 1 + 1 + 1) 30 #[.int .i64 0, .int .i64 0, .int .i64 0, .int .i64 0, .int .i64 0, .int .i64 0] (by simp)
  unfold Bx.val
  go_enter Try.func105, Try.ntmps105
  go_wp2_with fail
  go_loopw [7] (fun v wr => ∃ i : Nat, v = .int .i64 (i : Int) ∧ i ≤ 3 ∧ Hid ((0 < i → l0 ≤ h0) ∧ (1 < i → l1 ≤ h1) ∧ (2 < i → l2 ≤ h2)) ∧ Env w wr (Lmt w.heap.size i x y l0 l1 l2 h0 h1 h2)) (fun v _ => 3 - (intOf v).toNat)
  case atStart => exact ⟨0, rfl, by omega, Lib.hid ⟨fun h => absurd h (by omega), fun h => absurd h (by omega), fun h => absurd h (by omega)⟩, E⟩
  case round =>
    clear E
    obtain ⟨i, rfl, hi, HI, E⟩ := hrel
    rcases (by omega : i = 0 ∨ i = 1 ∨ i = 2 ∨ i = 3) with rfl | rfl | rfl | rfl
    · have C := E.cells
      simp [BC, CF, Lmt] at C
      have cxl := fun W => rcoord0 x.a x.b x.c W
      have cxh := fun W => rcoord0 x.d x.e x.f W
      have cyl := fun W => rcoord0 y.a y.b y.c W
      have cyh := fun W => rcoord0 y.d y.e y.f W
      have G1 := EL0.out
      have G2 := EH0.out
      by_cases c : l0 ≤ h0
      · have d1 : decide (h0 < l0) = false := by simp; omega
        have HC := Lib.hid c
        clear c
        go_upto_region 5 with fail
        (go_region_held3 (fun W' => W'.cell? ⟨w.heap.size, 0, none⟩ = some (.int .i64 x.a) ∧ W'.cell? ⟨w.heap.size, 1, none⟩ = some (.int .i64 x.b) ∧ W'.cell? ⟨w.heap.size, 2, none⟩ = some (.int .i64 x.c) ∧ W'.cell? ⟨w.heap.size, 3, none⟩ = some (.int .i64 x.d) ∧ W'.cell? ⟨w.heap.size, 4, none⟩ = some (.int .i64 x.e) ∧ W'.cell? ⟨w.heap.size, 5, none⟩ = some (.int .i64 x.f) ∧ W'.cell? ⟨w.heap.size + 1, 0, none⟩ = some (.int .i64 y.a) ∧ W'.cell? ⟨w.heap.size + 1, 1, none⟩ = some (.int .i64 y.b) ∧ W'.cell? ⟨w.heap.size + 1, 2, none⟩ = some (.int .i64 y.c) ∧ W'.cell? ⟨w.heap.size + 1, 3, none⟩ = some (.int .i64 y.d) ∧ W'.cell? ⟨w.heap.size + 1, 4, none⟩ = some (.int .i64 y.e) ∧ W'.cell? ⟨w.heap.size + 1, 5, none⟩ = some (.int .i64 y.f) ∧ Env w W' (Lmt w.heap.size 0 x y l0 l1 l2 h0 h1 h2)) (first | exact cells_mt (by go_split_ands; assumption) | exact cells_mt E | exact cells_mt E.drw) ((go_at_call 39; (first | with_reducible refine (cxl _).mono ?_ | with_reducible refine (cyl _).mono ?_ | with_reducible refine (cxh _).mono ?_ | with_reducible refine (cyh _).mono ?_); rintro X w1 ⟨rfl, hb⟩; (first | have E := E.drw.on hb | have E := E.on hb); clear hb)))
        all_goals (have C := E.cells; simp [BC, CF, Lmt] at C)
        all_goals (
          go_upto_region 9 with (go_at_call 40; (with_reducible refine (rwith0 _ _ _ _ _).mono ?_); rintro X w1 ⟨rfl, hb⟩; have E1 := E.on hb; clear E hb; have C := E1.cells; simp [BC, CF, Lmt] at C)
          have E := ((E1.put 0 0 (.int .i64 l0) rfl).put 0 1 (.int .i64 0) rfl).put 0 2 (.int .i64 0) rfl
          have C := E.cells; simp [BC, CF, Lmt, setB] at C
          go_wp2_with (go_at_call 40; (with_reducible refine (rwith0 _ _ _ _ _).mono ?_); rintro X w1 ⟨rfl, hb⟩; have E2 := E.on hb; clear hb; have C := E2.cells; simp [BC, CF, Lmt, setB] at C)
          exact ⟨⟨1, rfl, by omega, Lib.hid ⟨fun _ => HC.out, fun h => absurd h (by omega), fun h => absurd h (by omega)⟩, ((E2.put 0 3 (.int .i64 h0) rfl).put 0 4 (.int .i64 0) rfl).put 0 5 (.int .i64 0) rfl⟩, by simp [intOf]⟩)
      · have d1 : decide (h0 < l0) = true := by simp; omega
        have HC : Hid (¬ (l0 ≤ h0 ∧ l1 ≤ h1 ∧ l2 ≤ h2)) := Lib.hid (by omega)
        clear c
        go_upto_region 5 with fail
        (go_region_held3 (fun W' => W'.cell? ⟨w.heap.size, 0, none⟩ = some (.int .i64 x.a) ∧ W'.cell? ⟨w.heap.size, 1, none⟩ = some (.int .i64 x.b) ∧ W'.cell? ⟨w.heap.size, 2, none⟩ = some (.int .i64 x.c) ∧ W'.cell? ⟨w.heap.size, 3, none⟩ = some (.int .i64 x.d) ∧ W'.cell? ⟨w.heap.size, 4, none⟩ = some (.int .i64 x.e) ∧ W'.cell? ⟨w.heap.size, 5, none⟩ = some (.int .i64 x.f) ∧ W'.cell? ⟨w.heap.size + 1, 0, none⟩ = some (.int .i64 y.a) ∧ W'.cell? ⟨w.heap.size + 1, 1, none⟩ = some (.int .i64 y.b) ∧ W'.cell? ⟨w.heap.size + 1, 2, none⟩ = some (.int .i64 y.c) ∧ W'.cell? ⟨w.heap.size + 1, 3, none⟩ = some (.int .i64 y.d) ∧ W'.cell? ⟨w.heap.size + 1, 4, none⟩ = some (.int .i64 y.e) ∧ W'.cell? ⟨w.heap.size + 1, 5, none⟩ = some (.int .i64 y.f) ∧ Env w W' (Lmt w.heap.size 0 x y l0 l1 l2 h0 h1 h2)) (first | exact cells_mt (by go_split_ands; assumption) | exact cells_mt E | exact cells_mt E.drw) ((go_at_call 39; (first | with_reducible refine (cxl _).mono ?_ | with_reducible refine (cyl _).mono ?_ | with_reducible refine (cxh _).mono ?_ | with_reducible refine (cyh _).mono ?_); rintro X w1 ⟨rfl, hb⟩; (first | have E := E.drw.on hb | have E := E.on hb); clear hb)))
        all_goals (have C := E.cells; simp [BC, CF, Lmt] at C)
        all_goals (
          go_wp2
          refine bodyPost_ret (v := .tuple #[.agg #[.int .i64 0, .int .i64 0, .int .i64 0, .int .i64 0, .int .i64 0, .int .i64 0], .bool false]) (by simp [results, Try.results105, go_sem, C]) rfl ⟨by rw [HR.out, if_neg HC.out], ?_⟩
          exact ((((((E.1.setCell (by dsimp only; omega) _).setCell (by dsimp only; omega) _).setCell (by dsimp only; omega) _).setCell (by dsimp only; omega) _).setCell (by dsimp only; omega) _).setCell (by dsimp only; omega) _))
    · have C := E.cells
      simp [BC, CF, Lmt] at C
      have cxl := fun W => rcoord1 x.a x.b x.c W
      have cxh := fun W => rcoord1 x.d x.e x.f W
      have cyl := fun W => rcoord1 y.a y.b y.c W
      have cyh := fun W => rcoord1 y.d y.e y.f W
      have G1 := EL1.out
      have G2 := EH1.out
      by_cases c : l1 ≤ h1
      · have d1 : decide (h1 < l1) = false := by simp; omega
        have HC := Lib.hid c
        clear c
        go_upto_region 5 with fail
        (go_region_held3 (fun W' => W'.cell? ⟨w.heap.size, 0, none⟩ = some (.int .i64 x.a) ∧ W'.cell? ⟨w.heap.size, 1, none⟩ = some (.int .i64 x.b) ∧ W'.cell? ⟨w.heap.size, 2, none⟩ = some (.int .i64 x.c) ∧ W'.cell? ⟨w.heap.size, 3, none⟩ = some (.int .i64 x.d) ∧ W'.cell? ⟨w.heap.size, 4, none⟩ = some (.int .i64 x.e) ∧ W'.cell? ⟨w.heap.size, 5, none⟩ = some (.int .i64 x.f) ∧ W'.cell? ⟨w.heap.size + 1, 0, none⟩ = some (.int .i64 y.a) ∧ W'.cell? ⟨w.heap.size + 1, 1, none⟩ = some (.int .i64 y.b) ∧ W'.cell? ⟨w.heap.size + 1, 2, none⟩ = some (.int .i64 y.c) ∧ W'.cell? ⟨w.heap.size + 1, 3, none⟩ = some (.int .i64 y.d) ∧ W'.cell? ⟨w.heap.size + 1, 4, none⟩ = some (.int .i64 y.e) ∧ W'.cell? ⟨w.heap.size + 1, 5, none⟩ = some (.int .i64 y.f) ∧ Env w W' (Lmt w.heap.size 1 x y l0 l1 l2 h0 h1 h2)) (first | exact cells_mt (by go_split_ands; assumption) | exact cells_mt E | exact cells_mt E.drw) ((go_at_call 39; (first | with_reducible refine (cxl _).mono ?_ | with_reducible refine (cyl _).mono ?_ | with_reducible refine (cxh _).mono ?_ | with_reducible refine (cyh _).mono ?_); rintro X w1 ⟨rfl, hb⟩; (first | have E := E.drw.on hb | have E := E.on hb); clear hb)))
        all_goals (have C := E.cells; simp [BC, CF, Lmt] at C)
        all_goals (
          go_upto_region 9 with (go_at_call 40; (with_reducible refine (rwith1 _ _ _ _ _).mono ?_); rintro X w1 ⟨rfl, hb⟩; have E1 := E.on hb; clear E hb; have C := E1.cells; simp [BC, CF, Lmt] at C)
          have E := ((E1.put 0 0 (.int .i64 l0) rfl).put 0 1 (.int .i64 l1) rfl).put 0 2 (.int .i64 0) rfl
          have C := E.cells; simp [BC, CF, Lmt, setB] at C
          go_wp2_with (go_at_call 40; (with_reducible refine (rwith1 _ _ _ _ _).mono ?_); rintro X w1 ⟨rfl, hb⟩; have E2 := E.on hb; clear hb; have C := E2.cells; simp [BC, CF, Lmt, setB] at C)
          exact ⟨⟨2, rfl, by omega, Lib.hid ⟨fun _ => HI.out.1 (by omega), fun _ => HC.out, fun h => absurd h (by omega)⟩, ((E2.put 0 3 (.int .i64 h0) rfl).put 0 4 (.int .i64 h1) rfl).put 0 5 (.int .i64 0) rfl⟩, by simp [intOf]⟩)
      · have d1 : decide (h1 < l1) = true := by simp; omega
        have HC : Hid (¬ (l0 ≤ h0 ∧ l1 ≤ h1 ∧ l2 ≤ h2)) := Lib.hid (by omega)
        clear c
        go_upto_region 5 with fail
        (go_region_held3 (fun W' => W'.cell? ⟨w.heap.size, 0, none⟩ = some (.int .i64 x.a) ∧ W'.cell? ⟨w.heap.size, 1, none⟩ = some (.int .i64 x.b) ∧ W'.cell? ⟨w.heap.size, 2, none⟩ = some (.int .i64 x.c) ∧ W'.cell? ⟨w.heap.size, 3, none⟩ = some (.int .i64 x.d) ∧ W'.cell? ⟨w.heap.size, 4, none⟩ = some (.int .i64 x.e) ∧ W'.cell? ⟨w.heap.size, 5, none⟩ = some (.int .i64 x.f) ∧ W'.cell? ⟨w.heap.size + 1, 0, none⟩ = some (.int .i64 y.a) ∧ W'.cell? ⟨w.heap.size + 1, 1, none⟩ = some (.int .i64 y.b) ∧ W'.cell? ⟨w.heap.size + 1, 2, none⟩ = some (.int .i64 y.c) ∧ W'.cell? ⟨w.heap.size + 1, 3, none⟩ = some (.int .i64 y.d) ∧ W'.cell? ⟨w.heap.size + 1, 4, none⟩ = some (.int .i64 y.e) ∧ W'.cell? ⟨w.heap.size + 1, 5, none⟩ = some (.int .i64 y.f) ∧ Env w W' (Lmt w.heap.size 1 x y l0 l1 l2 h0 h1 h2)) (first | exact cells_mt (by go_split_ands; assumption) | exact cells_mt E | exact cells_mt E.drw) ((go_at_call 39; (first | with_reducible refine (cxl _).mono ?_ | with_reducible refine (cyl _).mono ?_ | with_reducible refine (cxh _).mono ?_ | with_reducible refine (cyh _).mono ?_); rintro X w1 ⟨rfl, hb⟩; (first | have E := E.drw.on hb | have E := E.on hb); clear hb)))
        all_goals (have C := E.cells; simp [BC, CF, Lmt] at C)
        all_goals (
          go_wp2
          refine bodyPost_ret (v := .tuple #[.agg #[.int .i64 0, .int .i64 0, .int .i64 0, .int .i64 0, .int .i64 0, .int .i64 0], .bool false]) (by simp [results, Try.results105, go_sem, C]) rfl ⟨by rw [HR.out, if_neg HC.out], ?_⟩
          exact ((((((E.1.setCell (by dsimp only; omega) _).setCell (by dsimp only; omega) _).setCell (by dsimp only; omega) _).setCell (by dsimp only; omega) _).setCell (by dsimp only; omega) _).setCell (by dsimp only; omega) _))
    · have C := E.cells
      simp [BC, CF, Lmt] at C
      have cxl := fun W => rcoord2 x.a x.b x.c W
      have cxh := fun W => rcoord2 x.d x.e x.f W
      have cyl := fun W => rcoord2 y.a y.b y.c W
      have cyh := fun W => rcoord2 y.d y.e y.f W
      have G1 := EL2.out
      have G2 := EH2.out
      by_cases c : l2 ≤ h2
      · have d1 : decide (h2 < l2) = false := by simp; omega
        have HC := Lib.hid c
        clear c
        go_upto_region 5 with fail
        (go_region_held3 (fun W' => W'.cell? ⟨w.heap.size, 0, none⟩ = some (.int .i64 x.a) ∧ W'.cell? ⟨w.heap.size, 1, none⟩ = some (.int .i64 x.b) ∧ W'.cell? ⟨w.heap.size, 2, none⟩ = some (.int .i64 x.c) ∧ W'.cell? ⟨w.heap.size, 3, none⟩ = some (.int .i64 x.d) ∧ W'.cell? ⟨w.heap.size, 4, none⟩ = some (.int .i64 x.e) ∧ W'.cell? ⟨w.heap.size, 5, none⟩ = some (.int .i64 x.f) ∧ W'.cell? ⟨w.heap.size + 1, 0, none⟩ = some (.int .i64 y.a) ∧ W'.cell? ⟨w.heap.size + 1, 1, none⟩ = some (.int .i64 y.b) ∧ W'.cell? ⟨w.heap.size + 1, 2, none⟩ = some (.int .i64 y.c) ∧ W'.cell? ⟨w.heap.size + 1, 3, none⟩ = some (.int .i64 y.d) ∧ W'.cell? ⟨w.heap.size + 1, 4, none⟩ = some (.int .i64 y.e) ∧ W'.cell? ⟨w.heap.size + 1, 5, none⟩ = some (.int .i64 y.f) ∧ Env w W' (Lmt w.heap.size 2 x y l0 l1 l2 h0 h1 h2)) (first | exact cells_mt (by go_split_ands; assumption) | exact cells_mt E | exact cells_mt E.drw) ((go_at_call 39; (first | with_reducible refine (cxl _).mono ?_ | with_reducible refine (cyl _).mono ?_ | with_reducible refine (cxh _).mono ?_ | with_reducible refine (cyh _).mono ?_); rintro X w1 ⟨rfl, hb⟩; (first | have E := E.drw.on hb | have E := E.on hb); clear hb)))
        all_goals (have C := E.cells; simp [BC, CF, Lmt] at C)
        all_goals (
          go_upto_region 9 with (go_at_call 40; (with_reducible refine (rwith2 _ _ _ _ _).mono ?_); rintro X w1 ⟨rfl, hb⟩; have E1 := E.on hb; clear E hb; have C := E1.cells; simp [BC, CF, Lmt] at C)
          have E := ((E1.put 0 0 (.int .i64 l0) rfl).put 0 1 (.int .i64 l1) rfl).put 0 2 (.int .i64 l2) rfl
          have C := E.cells; simp [BC, CF, Lmt, setB] at C
          go_wp2_with (go_at_call 40; (with_reducible refine (rwith2 _ _ _ _ _).mono ?_); rintro X w1 ⟨rfl, hb⟩; have E2 := E.on hb; clear hb; have C := E2.cells; simp [BC, CF, Lmt, setB] at C)
          exact ⟨⟨3, rfl, by omega, Lib.hid ⟨fun _ => HI.out.1 (by omega), fun _ => HI.out.2.1 (by omega), fun _ => HC.out⟩, ((E2.put 0 3 (.int .i64 h0) rfl).put 0 4 (.int .i64 h1) rfl).put 0 5 (.int .i64 h2) rfl⟩, by simp [intOf]⟩)
      · have d1 : decide (h2 < l2) = true := by simp; omega
        have HC : Hid (¬ (l0 ≤ h0 ∧ l1 ≤ h1 ∧ l2 ≤ h2)) := Lib.hid (by omega)
        clear c
        go_upto_region 5 with fail
        (go_region_held3 (fun W' => W'.cell? ⟨w.heap.size, 0, none⟩ = some (.int .i64 x.a) ∧ W'.cell? ⟨w.heap.size, 1, none⟩ = some (.int .i64 x.b) ∧ W'.cell? ⟨w.heap.size, 2, none⟩ = some (.int .i64 x.c) ∧ W'.cell? ⟨w.heap.size, 3, none⟩ = some (.int .i64 x.d) ∧ W'.cell? ⟨w.heap.size, 4, none⟩ = some (.int .i64 x.e) ∧ W'.cell? ⟨w.heap.size, 5, none⟩ = some (.int .i64 x.f) ∧ W'.cell? ⟨w.heap.size + 1, 0, none⟩ = some (.int .i64 y.a) ∧ W'.cell? ⟨w.heap.size + 1, 1, none⟩ = some (.int .i64 y.b) ∧ W'.cell? ⟨w.heap.size + 1, 2, none⟩ = some (.int .i64 y.c) ∧ W'.cell? ⟨w.heap.size + 1, 3, none⟩ = some (.int .i64 y.d) ∧ W'.cell? ⟨w.heap.size + 1, 4, none⟩ = some (.int .i64 y.e) ∧ W'.cell? ⟨w.heap.size + 1, 5, none⟩ = some (.int .i64 y.f) ∧ Env w W' (Lmt w.heap.size 2 x y l0 l1 l2 h0 h1 h2)) (first | exact cells_mt (by go_split_ands; assumption) | exact cells_mt E | exact cells_mt E.drw) ((go_at_call 39; (first | with_reducible refine (cxl _).mono ?_ | with_reducible refine (cyl _).mono ?_ | with_reducible refine (cxh _).mono ?_ | with_reducible refine (cyh _).mono ?_); rintro X w1 ⟨rfl, hb⟩; (first | have E := E.drw.on hb | have E := E.on hb); clear hb)))
        all_goals (have C := E.cells; simp [BC, CF, Lmt] at C)
        all_goals (
          go_wp2
          refine bodyPost_ret (v := .tuple #[.agg #[.int .i64 0, .int .i64 0, .int .i64 0, .int .i64 0, .int .i64 0, .int .i64 0], .bool false]) (by simp [results, Try.results105, go_sem, C]) rfl ⟨by rw [HR.out, if_neg HC.out], ?_⟩
          exact ((((((E.1.setCell (by dsimp only; omega) _).setCell (by dsimp only; omega) _).setCell (by dsimp only; omega) _).setCell (by dsimp only; omega) _).setCell (by dsimp only; omega) _).setCell (by dsimp only; omega) _))
    · have C := E.cells
      simp [BC, CF, Lmt] at C
      have HC : Hid (l0 ≤ h0 ∧ l1 ≤ h1 ∧ l2 ≤ h2) := Lib.hid ⟨HI.out.1 (by omega), HI.out.2.1 (by omega), HI.out.2.2 (by omega)⟩
      go_wp2
      refine bodyPost_ret (v := .tuple #[.agg #[.int .i64 l0, .int .i64 l1, .int .i64 l2, .int .i64 h0, .int .i64 h1, .int .i64 h2], .bool true]) (by simp [results, Try.results105, go_sem, C]) rfl ⟨by rw [HR.out, if_pos HC.out], ?_⟩
      exact ((((((E.1.setCell (by dsimp only; omega) _).setCell (by dsimp only; omega) _).setCell (by dsimp only; omega) _).setCell (by dsimp only; omega) _).setCell (by dsimp only; omega) _).setCell (by dsimp only; omega) _)
theorem meet_ok_iff {x y : Bx} (hx : x.ok = true) (hy : y.ok = true) : (meetB x y).ok = true ↔ (max x.a y.a ≤ min x.d y.d ∧ max x.b y.b ≤ min x.e y.e ∧ max x.c y.c ≤ min x.f y.f) := by
  have h1 := Bx.ok_i.1 hx
  have h2 := Bx.ok_i.1 hy
  rw [Bx.ok_i]
  simp only [meetB, mx_mx, mn_mn]
  omega
theorem rmeet_any (x y : Bx) (w : World) (hx : x.ok = true) (hy : y.ok = true) :
    Calls Try.prog 105 #[x.val, y.val] w fun E w' => E = .returned (if (meetB x y).ok = true then .tuple #[(meetB x y).val, .bool true] else .tuple #[zB.val, .bool false]) ∧ Below w.heap.size w w' := by
  refine (rmeet_core x y _ _ _ _ _ _ w _ (Lib.hid rfl) (Lib.hid rfl) (Lib.hid rfl) (Lib.hid rfl) (Lib.hid rfl) (Lib.hid rfl) (Lib.hid rfl)).mono ?_
  rintro e w' ⟨rfl, hb⟩
  refine ⟨?_, hb⟩
  by_cases h : (meetB x y).ok = true
  · rw [if_pos h, if_pos ((meet_ok_iff hx hy).1 h)]
    simp only [meetB, mx_mx, mn_mn, Bx.val]
  · rw [if_neg h, if_neg (fun k => h ((meet_ok_iff hx hy).2 k))]
    rfl
end Go.Proofs.Ytkgaahmehmbfjaa
namespace Go.Proofs.Ytkgaahmehmbfjaa
open Go.ChangeShapes Go.WideShapes Go.ChangeAt Go.RowKit
set_option linter.unusedVariables false
set_option linter.unusedSimpArgs false

theorem con_meet {x y : Bx} : conB x y = true ↔ meetB x y = y := by
  rw [con_i]
  cases y
  simp only [meetB, Bx.mk.injEq, mx_mx, mn_mn]
  omega
set_option maxHeartbeats 8000000 in
set_option maxRecDepth 100000 in
theorem rcon_none (x y : Bx) (w : World) (hm : ∀ W, Calls Try.prog 105 #[x.val, y.val] W fun E w' => E = .returned (.tuple #[zB.val, .bool false]) ∧ Below W.heap.size W w') :
    Calls Try.prog 82 #[x.val, y.val] w fun E w' => E = .returned (.bool false) ∧ Below w.heap.size w w' := by
  have E := ((Env.nil w).add w.heap.size 30 #[.int .i64 x.a, .int .i64 x.b, .int .i64 x.c, .int .i64 x.d, .int .i64 x.e, .int .i64 x.f] rfl).add (w.heap.size + 1) 30 #[.int .i64 y.a, .int .i64 y.b, .int .i64 y.c, .int .i64 y.d, .int .i64 y.e, .int .i64 y.f] (by simp)
  have C := E.cells
  simp [BC, CF] at C
  unfold Bx.val zB at *
  dsimp only at hm
  go_enter Try.func82, Try.ntmps82
  go_wp2_with (go_at_call 105; (with_reducible refine (hm _).mono ?_); rintro X w1 ⟨rfl, hb⟩; replace E := (E.on hb).add w1.heap.size 30 #[.int .i64 0, .int .i64 0, .int .i64 0, .int .i64 0, .int .i64 0, .int .i64 0] rfl; replace C := E.cells; simp [BC, CF] at C; clear hb)
  go_ret
  exact ⟨rfl, E.1⟩
set_option maxHeartbeats 8000000 in
set_option maxRecDepth 100000 in
theorem rcon_yes (x y : Bx) (w : World) (hm : ∀ W, Calls Try.prog 105 #[x.val, y.val] W fun E w' => E = .returned (.tuple #[y.val, .bool true]) ∧ Below W.heap.size W w') :
    Calls Try.prog 82 #[x.val, y.val] w fun E w' => E = .returned (.bool true) ∧ Below w.heap.size w w' := by
  have E := ((Env.nil w).add w.heap.size 30 #[.int .i64 x.a, .int .i64 x.b, .int .i64 x.c, .int .i64 x.d, .int .i64 x.e, .int .i64 x.f] rfl).add (w.heap.size + 1) 30 #[.int .i64 y.a, .int .i64 y.b, .int .i64 y.c, .int .i64 y.d, .int .i64 y.e, .int .i64 y.f] (by simp)
  have C := E.cells
  simp [BC, CF] at C
  unfold Bx.val at *
  go_enter Try.func82, Try.ntmps82
  go_wp2_with (go_at_call 105; (with_reducible refine (hm _).mono ?_); rintro X w1 ⟨rfl, hb⟩; replace E := (E.on hb).add w1.heap.size 30 #[.int .i64 y.a, .int .i64 y.b, .int .i64 y.c, .int .i64 y.d, .int .i64 y.e, .int .i64 y.f] rfl; replace C := E.cells; simp [BC, CF] at C; clear hb)
  go_ret
  exact ⟨by simp, E.1⟩
set_option maxHeartbeats 8000000 in
set_option maxRecDepth 100000 in
theorem rcon_no0 (x y m : Bx) (w : World) (hm : ∀ W, Calls Try.prog 105 #[x.val, y.val] W fun E w' => E = .returned (.tuple #[.agg #[.int .i64 m.a, .int .i64 m.b, .int .i64 m.c, .int .i64 m.d, .int .i64 m.e, .int .i64 m.f], .bool true]) ∧ Below W.heap.size W w') (hj : ¬ m.a = y.a) :
    Calls Try.prog 82 #[x.val, y.val] w fun E w' => E = .returned (.bool false) ∧ Below w.heap.size w w' := by
  have E := ((Env.nil w).add w.heap.size 30 #[.int .i64 x.a, .int .i64 x.b, .int .i64 x.c, .int .i64 x.d, .int .i64 x.e, .int .i64 x.f] rfl).add (w.heap.size + 1) 30 #[.int .i64 y.a, .int .i64 y.b, .int .i64 y.c, .int .i64 y.d, .int .i64 y.e, .int .i64 y.f] (by simp)
  have C := E.cells
  simp [BC, CF] at C
  unfold Bx.val at *
  have n1 : (m.a == y.a) = false := by simpa using hj
  have n2 : decide (m.a = y.a) = false := decide_eq_false hj
  go_enter Try.func82, Try.ntmps82
  go_wp2_with (go_at_call 105; (with_reducible refine (hm _).mono ?_); rintro X w1 ⟨rfl, hb⟩; replace E := (E.on hb).add w1.heap.size 30 #[.int .i64 m.a, .int .i64 m.b, .int .i64 m.c, .int .i64 m.d, .int .i64 m.e, .int .i64 m.f] rfl; replace C := E.cells; simp [BC, CF] at C; clear hb)
  go_ret
  exact ⟨by simp [hj], E.1⟩
set_option maxHeartbeats 8000000 in
set_option maxRecDepth 100000 in
theorem rcon_no1 (x y m : Bx) (w : World) (hm : ∀ W, Calls Try.prog 105 #[x.val, y.val] W fun E w' => E = .returned (.tuple #[.agg #[.int .i64 y.a, .int .i64 m.b, .int .i64 m.c, .int .i64 m.d, .int .i64 m.e, .int .i64 m.f], .bool true]) ∧ Below W.heap.size W w') (hj : ¬ m.b = y.b) :
    Calls Try.prog 82 #[x.val, y.val] w fun E w' => E = .returned (.bool false) ∧ Below w.heap.size w w' := by
  have E := ((Env.nil w).add w.heap.size 30 #[.int .i64 x.a, .int .i64 x.b, .int .i64 x.c, .int .i64 x.d, .int .i64 x.e, .int .i64 x.f] rfl).add (w.heap.size + 1) 30 #[.int .i64 y.a, .int .i64 y.b, .int .i64 y.c, .int .i64 y.d, .int .i64 y.e, .int .i64 y.f] (by simp)
  have C := E.cells
  simp [BC, CF] at C
  unfold Bx.val at *
  have n1 : (m.b == y.b) = false := by simpa using hj
  have n2 : decide (m.b = y.b) = false := decide_eq_false hj
  go_enter Try.func82, Try.ntmps82
  go_wp2_with (go_at_call 105; (with_reducible refine (hm _).mono ?_); rintro X w1 ⟨rfl, hb⟩; replace E := (E.on hb).add w1.heap.size 30 #[.int .i64 y.a, .int .i64 m.b, .int .i64 m.c, .int .i64 m.d, .int .i64 m.e, .int .i64 m.f] rfl; replace C := E.cells; simp [BC, CF] at C; clear hb)
  go_ret
  exact ⟨by simp [hj], E.1⟩
set_option maxHeartbeats 8000000 in
set_option maxRecDepth 100000 in
theorem rcon_no2 (x y m : Bx) (w : World) (hm : ∀ W, Calls Try.prog 105 #[x.val, y.val] W fun E w' => E = .returned (.tuple #[.agg #[.int .i64 y.a, .int .i64 y.b, .int .i64 m.c, .int .i64 m.d, .int .i64 m.e, .int .i64 m.f], .bool true]) ∧ Below W.heap.size W w') (hj : ¬ m.c = y.c) :
    Calls Try.prog 82 #[x.val, y.val] w fun E w' => E = .returned (.bool false) ∧ Below w.heap.size w w' := by
  have E := ((Env.nil w).add w.heap.size 30 #[.int .i64 x.a, .int .i64 x.b, .int .i64 x.c, .int .i64 x.d, .int .i64 x.e, .int .i64 x.f] rfl).add (w.heap.size + 1) 30 #[.int .i64 y.a, .int .i64 y.b, .int .i64 y.c, .int .i64 y.d, .int .i64 y.e, .int .i64 y.f] (by simp)
  have C := E.cells
  simp [BC, CF] at C
  unfold Bx.val at *
  have n1 : (m.c == y.c) = false := by simpa using hj
  have n2 : decide (m.c = y.c) = false := decide_eq_false hj
  go_enter Try.func82, Try.ntmps82
  go_wp2_with (go_at_call 105; (with_reducible refine (hm _).mono ?_); rintro X w1 ⟨rfl, hb⟩; replace E := (E.on hb).add w1.heap.size 30 #[.int .i64 y.a, .int .i64 y.b, .int .i64 m.c, .int .i64 m.d, .int .i64 m.e, .int .i64 m.f] rfl; replace C := E.cells; simp [BC, CF] at C; clear hb)
  go_ret
  exact ⟨by simp [hj], E.1⟩
set_option maxHeartbeats 8000000 in
set_option maxRecDepth 100000 in
theorem rcon_no3 (x y m : Bx) (w : World) (hm : ∀ W, Calls Try.prog 105 #[x.val, y.val] W fun E w' => E = .returned (.tuple #[.agg #[.int .i64 y.a, .int .i64 y.b, .int .i64 y.c, .int .i64 m.d, .int .i64 m.e, .int .i64 m.f], .bool true]) ∧ Below W.heap.size W w') (hj : ¬ m.d = y.d) :
    Calls Try.prog 82 #[x.val, y.val] w fun E w' => E = .returned (.bool false) ∧ Below w.heap.size w w' := by
  have E := ((Env.nil w).add w.heap.size 30 #[.int .i64 x.a, .int .i64 x.b, .int .i64 x.c, .int .i64 x.d, .int .i64 x.e, .int .i64 x.f] rfl).add (w.heap.size + 1) 30 #[.int .i64 y.a, .int .i64 y.b, .int .i64 y.c, .int .i64 y.d, .int .i64 y.e, .int .i64 y.f] (by simp)
  have C := E.cells
  simp [BC, CF] at C
  unfold Bx.val at *
  have n1 : (m.d == y.d) = false := by simpa using hj
  have n2 : decide (m.d = y.d) = false := decide_eq_false hj
  go_enter Try.func82, Try.ntmps82
  go_wp2_with (go_at_call 105; (with_reducible refine (hm _).mono ?_); rintro X w1 ⟨rfl, hb⟩; replace E := (E.on hb).add w1.heap.size 30 #[.int .i64 y.a, .int .i64 y.b, .int .i64 y.c, .int .i64 m.d, .int .i64 m.e, .int .i64 m.f] rfl; replace C := E.cells; simp [BC, CF] at C; clear hb)
  go_ret
  exact ⟨by simp [hj], E.1⟩
set_option maxHeartbeats 8000000 in
set_option maxRecDepth 100000 in
theorem rcon_no4 (x y m : Bx) (w : World) (hm : ∀ W, Calls Try.prog 105 #[x.val, y.val] W fun E w' => E = .returned (.tuple #[.agg #[.int .i64 y.a, .int .i64 y.b, .int .i64 y.c, .int .i64 y.d, .int .i64 m.e, .int .i64 m.f], .bool true]) ∧ Below W.heap.size W w') (hj : ¬ m.e = y.e) :
    Calls Try.prog 82 #[x.val, y.val] w fun E w' => E = .returned (.bool false) ∧ Below w.heap.size w w' := by
  have E := ((Env.nil w).add w.heap.size 30 #[.int .i64 x.a, .int .i64 x.b, .int .i64 x.c, .int .i64 x.d, .int .i64 x.e, .int .i64 x.f] rfl).add (w.heap.size + 1) 30 #[.int .i64 y.a, .int .i64 y.b, .int .i64 y.c, .int .i64 y.d, .int .i64 y.e, .int .i64 y.f] (by simp)
  have C := E.cells
  simp [BC, CF] at C
  unfold Bx.val at *
  have n1 : (m.e == y.e) = false := by simpa using hj
  have n2 : decide (m.e = y.e) = false := decide_eq_false hj
  go_enter Try.func82, Try.ntmps82
  go_wp2_with (go_at_call 105; (with_reducible refine (hm _).mono ?_); rintro X w1 ⟨rfl, hb⟩; replace E := (E.on hb).add w1.heap.size 30 #[.int .i64 y.a, .int .i64 y.b, .int .i64 y.c, .int .i64 y.d, .int .i64 m.e, .int .i64 m.f] rfl; replace C := E.cells; simp [BC, CF] at C; clear hb)
  go_ret
  exact ⟨by simp [hj], E.1⟩
set_option maxHeartbeats 8000000 in
set_option maxRecDepth 100000 in
theorem rcon_no5 (x y m : Bx) (w : World) (hm : ∀ W, Calls Try.prog 105 #[x.val, y.val] W fun E w' => E = .returned (.tuple #[.agg #[.int .i64 y.a, .int .i64 y.b, .int .i64 y.c, .int .i64 y.d, .int .i64 y.e, .int .i64 m.f], .bool true]) ∧ Below W.heap.size W w') (hj : ¬ m.f = y.f) :
    Calls Try.prog 82 #[x.val, y.val] w fun E w' => E = .returned (.bool false) ∧ Below w.heap.size w w' := by
  have E := ((Env.nil w).add w.heap.size 30 #[.int .i64 x.a, .int .i64 x.b, .int .i64 x.c, .int .i64 x.d, .int .i64 x.e, .int .i64 x.f] rfl).add (w.heap.size + 1) 30 #[.int .i64 y.a, .int .i64 y.b, .int .i64 y.c, .int .i64 y.d, .int .i64 y.e, .int .i64 y.f] (by simp)
  have C := E.cells
  simp [BC, CF] at C
  unfold Bx.val at *
  have n1 : (m.f == y.f) = false := by simpa using hj
  have n2 : decide (m.f = y.f) = false := decide_eq_false hj
  go_enter Try.func82, Try.ntmps82
  go_wp2_with (go_at_call 105; (with_reducible refine (hm _).mono ?_); rintro X w1 ⟨rfl, hb⟩; replace E := (E.on hb).add w1.heap.size 30 #[.int .i64 y.a, .int .i64 y.b, .int .i64 y.c, .int .i64 y.d, .int .i64 y.e, .int .i64 m.f] rfl; replace C := E.cells; simp [BC, CF] at C; clear hb)
  go_ret
  exact ⟨by simp [hj], E.1⟩
theorem rcon_any (x y : Bx) (w : World) (hx : x.ok = true) (hy : y.ok = true) :
    Calls Try.prog 82 #[x.val, y.val] w fun E w' => E = .returned (.bool (conB x y)) ∧ Below w.heap.size w w' := by
  have hm := fun W => rmeet_any x y W hx hy
  by_cases h : (meetB x y).ok = true
  · simp only [if_pos h] at hm
    by_cases e : meetB x y = y
    · rw [con_meet.2 e]
      rw [e] at hm
      exact rcon_yes x y w hm
    · have hc : conB x y = false := by
        cases k : conB x y
        · rfl
        · exact absurd (con_meet.1 k) e
      rw [hc]
      obtain ⟨m, em⟩ : ∃ m, m = meetB x y := ⟨_, rfl⟩
      rw [← em] at hm e
      clear em
      by_cases e0 : m.a = y.a
      case neg =>
        refine rcon_no0 x y m w ?_ e0
        simpa only [Bx.val] using hm
      by_cases e1 : m.b = y.b
      case neg =>
        refine rcon_no1 x y m w ?_ e1
        simpa only [Bx.val, e0] using hm
      by_cases e2 : m.c = y.c
      case neg =>
        refine rcon_no2 x y m w ?_ e2
        simpa only [Bx.val, e0, e1] using hm
      by_cases e3 : m.d = y.d
      case neg =>
        refine rcon_no3 x y m w ?_ e3
        simpa only [Bx.val, e0, e1, e2] using hm
      by_cases e4 : m.e = y.e
      case neg =>
        refine rcon_no4 x y m w ?_ e4
        simpa only [Bx.val, e0, e1, e2, e3] using hm
      by_cases e5 : m.f = y.f
      case neg =>
        refine rcon_no5 x y m w ?_ e5
        simpa only [Bx.val, e0, e1, e2, e3, e4] using hm
      exact absurd (by cases m; cases y; simp_all) e
  · simp only [if_neg h] at hm
    have hc : conB x y = false := by
      cases k : conB x y
      · rfl
      · exact absurd (by rw [con_meet.1 k]; exact hy) h
    rw [hc]
    exact rcon_none x y w hm
end Go.Proofs.Ytkgaahmehmbfjaa
namespace Go.Proofs.Ytkgaahmehmbfjaa
open Go.ChangeShapes Go.WideShapes Go.ChangeAt Go.RowKit
set_option linter.unusedVariables false
set_option linter.unusedSimpArgs false

def Lhu (n j : Nat) (h : Bx) (n0 n1 n2 m0 m1 m2 : Int) : List Fb := [⟨n + 1, 30, #[.int .i64 (if 0 < j then n0 else h.a), .int .i64 (if 1 < j then n1 else h.b), .int .i64 (if 2 < j then n2 else h.c), .int .i64 (if 0 < j then m0 else h.d), .int .i64 (if 1 < j then m1 else h.e), .int .i64 (if 2 < j then m2 else h.f)]⟩, ⟨n, 30, #[.int .i64 0, .int .i64 0, .int .i64 0, .int .i64 0, .int .i64 0, .int .i64 0]⟩]
theorem s_hu {w W : World} {n : Nat} {c0 c1 c2 c3 c4 c5 z0 z1 z2 z3 z4 z5 : Int}  {A0 A1 A2 : Addr} {y0 y1 y2 : Int}
    (E : Env w W [⟨n, 30, #[.int .i64 c0, .int .i64 c1, .int .i64 c2, .int .i64 c3, .int .i64 c4, .int .i64 c5]⟩, ⟨w.heap.size, 30, #[.int .i64 z0, .int .i64 z1, .int .i64 z2, .int .i64 z3, .int .i64 z4, .int .i64 z5]⟩]) (h0 : w.cell? A0 = some (.int .i64 y0)) (h1 : w.cell? A1 = some (.int .i64 y1)) (h2 : w.cell? A2 = some (.int .i64 y2)) :
    Env w W [⟨n, 30, #[.int .i64 c0, .int .i64 c1, .int .i64 c2, .int .i64 c3, .int .i64 c4, .int .i64 c5]⟩, ⟨w.heap.size, 30, #[.int .i64 z0, .int .i64 z1, .int .i64 z2, .int .i64 z3, .int .i64 z4, .int .i64 z5]⟩] ∧ (W.cell? ⟨n, 0, none⟩ = some (.int .i64 c0) ∧ W.cell? ⟨n, 1, none⟩ = some (.int .i64 c1) ∧ W.cell? ⟨n, 2, none⟩ = some (.int .i64 c2) ∧ W.cell? ⟨n, 3, none⟩ = some (.int .i64 c3) ∧ W.cell? ⟨n, 4, none⟩ = some (.int .i64 c4) ∧ W.cell? ⟨n, 5, none⟩ = some (.int .i64 c5) ∧ W.cell? A0 = some (.int .i64 y0) ∧ W.cell? A1 = some (.int .i64 y1) ∧ W.cell? A2 = some (.int .i64 y2)) := by
  have C := E.cells
  simp [BC, CF] at C
  have k0 := cell_later (envb E) h0
  have k1 := cell_later (envb E) h1
  have k2 := cell_later (envb E) h2
  simp [C, E, k0, k1, k2]
set_option maxHeartbeats 32000000 in
set_option maxRecDepth 100000 in
theorem rhull_in (a : Addr) (x : Bx) (l : List Bx) (cap : Nat) (w : World) (hS : Sl w (some a) (x :: l)) :
    Calls Try.prog 53 #[.slice (some a) (l.length + 1) cap] w fun e w' => e = .returned (l.foldl hullB x).val ∧ Below w.heap.size w w' := by
  have hm := hS.2.2
  unfold maxLen at hm
  simp only [List.length_cons] at hm
  have E0 := ((Env.nil w).add w.heap.size 30 #[.int .i64 0, .int .i64 0, .int .i64 0, .int .i64 0, .int .i64 0, .int .i64 0] rfl).add (w.heap.size + 1) 30 #[.int .i64 x.a, .int .i64 x.b, .int .i64 x.c, .int .i64 x.d, .int .i64 x.e, .int .i64 x.f] (by simp)
  obtain ⟨R, HR⟩ : ∃ R, Hid (R = (l.foldl hullB x).val) := ⟨_, Lib.hid rfl⟩
  rw [← HR.out]
  obtain ⟨a', ea, c0, c1, c2, c3, c4, c5⟩ := (hS.on (al1 w (.cells #[.int .i64 0, .int .i64 0, .int .i64 0, .int .i64 0, .int .i64 0, .int .i64 0] 30))).at (k := 0) (by simp)
  cases ea
  simp only [List.getElem_cons_zero, Nat.zero_mul] at c0 c1 c2 c3 c4 c5
  replace c0 : (w.alloc (.cells #[.int .i64 0, .int .i64 0, .int .i64 0, .int .i64 0, .int .i64 0, .int .i64 0] 30)).cell? a = _ := c0
  replace c1 : (w.alloc (.cells #[.int .i64 0, .int .i64 0, .int .i64 0, .int .i64 0, .int .i64 0, .int .i64 0] 30)).cell? ⟨a.block, a.off + 1, none⟩ = _ := c1
  replace c2 : (w.alloc (.cells #[.int .i64 0, .int .i64 0, .int .i64 0, .int .i64 0, .int .i64 0, .int .i64 0] 30)).cell? ⟨a.block, a.off + 2, none⟩ = _ := c2
  replace c3 : (w.alloc (.cells #[.int .i64 0, .int .i64 0, .int .i64 0, .int .i64 0, .int .i64 0, .int .i64 0] 30)).cell? ⟨a.block, a.off + 3, none⟩ = _ := c3
  replace c4 : (w.alloc (.cells #[.int .i64 0, .int .i64 0, .int .i64 0, .int .i64 0, .int .i64 0, .int .i64 0] 30)).cell? ⟨a.block, a.off + 4, none⟩ = _ := c4
  replace c5 : (w.alloc (.cells #[.int .i64 0, .int .i64 0, .int .i64 0, .int .i64 0, .int .i64 0, .int .i64 0] 30)).cell? ⟨a.block, a.off + 5, none⟩ = _ := c5
  have q0 : (0 : Int) < ((l.length + 1 : Nat) : Int) := by omega
  have q0' : (0 : Int) < (l.length : Int) + 1 := by omega
  go_enter Try.func53, Try.ntmps53
  go_wp2_with fail
  clear c0 c1 c2 c3 c4 c5
  go_loopw [4] (fun v wr => ∃ K : Nat, v = .int .i64 (K : Int) ∧ 1 ≤ K ∧ K ≤ l.length + 1 ∧ Env w wr [⟨w.heap.size + 1, 30, #[.int .i64 ((l.take (K - 1)).foldl hullB x).a, .int .i64 ((l.take (K - 1)).foldl hullB x).b, .int .i64 ((l.take (K - 1)).foldl hullB x).c, .int .i64 ((l.take (K - 1)).foldl hullB x).d, .int .i64 ((l.take (K - 1)).foldl hullB x).e, .int .i64 ((l.take (K - 1)).foldl hullB x).f]⟩, ⟨w.heap.size, 30, #[.int .i64 0, .int .i64 0, .int .i64 0, .int .i64 0, .int .i64 0, .int .i64 0]⟩]) (fun v _ => l.length + 1 - (intOf v).toNat)
  case atStart => exact ⟨1, rfl, by omega, by omega, E0⟩
  case round =>
    clear E0
    obtain ⟨K, rfl, hK1, hK, E⟩ := hrel
    by_cases hlt : K < l.length + 1
    · have g1 : decide ((K : Int) < (l.length : Int) + 1) = true := by simp; omega
      have g1' : decide ((K : Int) < ((l.length + 1 : Nat) : Int)) = true := by simp; omega
      have W1 : IntKind.i64.wrap ((K : Int) + 1) = ((K + 1 : Nat) : Int) := by rw [IntWalk.i64_in _ (by omega)]; omega
      have q1 : (0 : Int) ≤ (K : Int) := by omega
      have q2 : (K : Int) < (l.length : Int) + 1 := by omega
      have q3 : (K : Int) < ((l.length + 1 : Nat) : Int) := by omega
      obtain ⟨a', ea, e0, e1, e2, e3, e4, e5⟩ := hS.at (k := K) (by simpa using hlt)
      cases ea
      have HT : Hid ((l.take (K + 1 - 1)).foldl hullB x = hullB ((l.take (K - 1)).foldl hullB x) ((x :: l)[K]'(by simpa using hlt))) := Lib.hid (by
        obtain ⟨j, rfl⟩ : ∃ j, K = j + 1 := ⟨K - 1, by omega⟩
        rw [Nat.add_sub_cancel, Nat.add_sub_cancel, List.take_succ_eq_append_getElem (by omega), List.foldl_append]
        rfl)
      generalize (x :: l)[K]'(by simpa using hlt) = y at *
      generalize (l.take (K - 1)).foldl hullB x = h at *
      obtain ⟨n0, EL0⟩ : ∃ n, Hid (min h.a y.a = n) := ⟨_, Lib.hid rfl⟩
      obtain ⟨n1, EL1⟩ : ∃ n, Hid (min h.b y.b = n) := ⟨_, Lib.hid rfl⟩
      obtain ⟨n2, EL2⟩ : ∃ n, Hid (min h.c y.c = n) := ⟨_, Lib.hid rfl⟩
      obtain ⟨m0, EH0⟩ : ∃ n, Hid (max h.d y.d = n) := ⟨_, Lib.hid rfl⟩
      obtain ⟨m1, EH1⟩ : ∃ n, Hid (max h.e y.e = n) := ⟨_, Lib.hid rfl⟩
      obtain ⟨m2, EH2⟩ : ∃ n, Hid (max h.f y.f = n) := ⟨_, Lib.hid rfl⟩
      have HU : Hid (hullB h y = ⟨n0, n1, n2, m0, m1, m2⟩) := Lib.hid (by simp only [hullB, mx_mx, mn_mn, EL0.out, EL1.out, EL2.out, EH0.out, EH1.out, EH2.out])
      go_wp2_with fail
      go_loopw [5] (fun v wr' => ∃ j : Nat, v = .int .i64 (j : Int) ∧ j ≤ 3 ∧ Env w wr' (Lhu w.heap.size j h n0 n1 n2 m0 m1 m2)) (fun v _ => 3 - (intOf v).toNat)
      case atStart => exact ⟨0, rfl, by omega, E⟩
      case round =>
        clear E
        obtain ⟨j, rfl, hj, E⟩ := hrel
        rcases (by omega : j = 0 ∨ j = 1 ∨ j = 2 ∨ j = 3) with rfl | rfl | rfl | rfl
        · have C := E.cells
          simp [BC, CF, Lhu] at C
          have clx := fun W => rcoord0 (h.a) (h.b) (h.c) W
          have cly := fun W => rcoord0 y.a y.b y.c W
          have chx := fun W => rcoord0 (h.d) (h.e) (h.f) W
          have chy := fun W => rcoord0 y.d y.e y.f W
          have G1 := EL0.out
          have G2 := EH0.out
          go_upto_region 8 with fail
          go_cut [] (fun wx => Env w wx [⟨w.heap.size + 1, 30, #[.int .i64 n0, .int .i64 h.b, .int .i64 h.c, .int .i64 h.d, .int .i64 h.e, .int .i64 h.f]⟩, ⟨w.heap.size, 30, #[.int .i64 0, .int .i64 0, .int .i64 0, .int .i64 0, .int .i64 0, .int .i64 0]⟩])
          case first =>
            refine wp_region_plan 16 [(0, true), (1, true), (2, true), (3, true), (4, true), (5, true), (7, true), (8, true), (9, true), (10, true), (11, true), (12, true), (6, false), (13, false), (14, true), (15, false)] (fun W' => Env w W' [⟨w.heap.size + 1, 30, #[.int .i64 h.a, .int .i64 h.b, .int .i64 h.c, .int .i64 h.d, .int .i64 h.e, .int .i64 h.f]⟩, ⟨w.heap.size, 30, #[.int .i64 0, .int .i64 0, .int .i64 0, .int .i64 0, .int .i64 0, .int .i64 0]⟩] ∧ W'.cell? ⟨w.heap.size + 1, 0, none⟩ = some (.int .i64 (h.a)) ∧ W'.cell? ⟨w.heap.size + 1, 1, none⟩ = some (.int .i64 (h.b)) ∧ W'.cell? ⟨w.heap.size + 1, 2, none⟩ = some (.int .i64 (h.c)) ∧ W'.cell? ⟨w.heap.size + 1, 3, none⟩ = some (.int .i64 (h.d)) ∧ W'.cell? ⟨w.heap.size + 1, 4, none⟩ = some (.int .i64 (h.e)) ∧ W'.cell? ⟨w.heap.size + 1, 5, none⟩ = some (.int .i64 (h.f)) ∧ W'.cell? (a.add (K * 6)) = some (.int .i64 y.a) ∧ W'.cell? ⟨(a.add (K * 6)).block, (a.add (K * 6)).off + 1, none⟩ = some (.int .i64 y.b) ∧ W'.cell? ⟨(a.add (K * 6)).block, (a.add (K * 6)).off + 2, none⟩ = some (.int .i64 y.c)) (by kernel_rfl) (by kernel_rfl) (fun _ _ d _ _ h => by cases d <;> exact h) (s_hu E.drw e0 e1 e2) ?_
            simp only [List.filterMap_cons, List.filterMap_nil, List.getElem?_cons_zero, List.getElem?_cons_succ, Option.map_some, List.drop_succ_cons, List.drop_zero]
            replace E := E.drw
            repeat (refine wpPlan_still (v := ?_) (Or.inl ⟨by rfl, ?_⟩) ?_; rotate_left; (focus (intro W hW; (try dsimp only at hW); go_split_ands; go_simp; try with_reducible rfl)); try simp only [Act.put, List.setIfInBounds_toArray, List.set_cons_zero, List.set_cons_succ])
            refine wpPlan_only (fun K hK => ?_)
            try go_simp
            (go_at_call 39; (with_reducible refine (clx _).mono ?_); rintro X w1 ⟨rfl, hb⟩; replace E := E.on hb; clear hb)
            try go_wp2_with fail
            refine hK.out _ _ (s_hu E e0 e1 e2) ?_
            clear hK K
            try simp only [Act.put, List.setIfInBounds_toArray, List.set_cons_zero, List.set_cons_succ]
            refine wpPlan_only (fun K hK => ?_)
            try go_simp
            (go_at_call 39; (with_reducible refine (cly _).mono ?_); rintro X w1 ⟨rfl, hb⟩; replace E := E.on hb; clear hb)
            try go_wp2_with fail
            refine hK.out _ _ (s_hu E e0 e1 e2) ?_
            clear hK K
            try simp only [Act.put, List.setIfInBounds_toArray, List.set_cons_zero, List.set_cons_succ]
            (refine wpPlan_still (v := ?_) (Or.inl ⟨by rfl, ?_⟩) ?_; rotate_left; (focus (intro W hW; (try dsimp only at hW); go_split_ands; go_simp; try with_reducible rfl)); try simp only [Act.put, List.setIfInBounds_toArray, List.set_cons_zero, List.set_cons_succ])
            refine wpPlan_only (fun K hK => ?_)
            try go_simp
            (go_at_call 40; (with_reducible refine (rwith0 _ _ _ _ _).mono ?_); rintro X w1 ⟨rfl, hb⟩; replace E := E.on hb; clear hb)
            try go_wp2_with fail
            refine hK.out _ _ (s_hu E e0 e1 e2) ?_
            clear hK K
            try simp only [Act.put, List.setIfInBounds_toArray, List.set_cons_zero, List.set_cons_succ]
            refine wpPlan_end ?_
            have C := E.cells
            simp [BC, CF, Lhu] at C
            go_wp2_with fail
            all_goals go_meet
            all_goals (repeat with_reducible refine Env.drw ?_)
            all_goals exact ((E.put 0 0 (.int .i64 (n0)) rfl).put 0 1 (.int .i64 (h.b)) rfl).put 0 2 (.int .i64 (h.c)) rfl
          case rest =>
            clear E C
            have E := hcut
            have C := E.cells
            simp [BC, CF] at C
            go_wp2_with fail
            refine wp_region_plan 16 [(0, true), (1, true), (2, true), (3, true), (4, true), (5, true), (7, true), (8, true), (9, true), (10, true), (11, true), (12, true), (6, false), (13, false), (14, true), (15, false)] (fun W' => Env w W' [⟨w.heap.size + 1, 30, #[.int .i64 n0, .int .i64 h.b, .int .i64 h.c, .int .i64 h.d, .int .i64 h.e, .int .i64 h.f]⟩, ⟨w.heap.size, 30, #[.int .i64 0, .int .i64 0, .int .i64 0, .int .i64 0, .int .i64 0, .int .i64 0]⟩] ∧ W'.cell? ⟨w.heap.size + 1, 0, none⟩ = some (.int .i64 (n0)) ∧ W'.cell? ⟨w.heap.size + 1, 1, none⟩ = some (.int .i64 (h.b)) ∧ W'.cell? ⟨w.heap.size + 1, 2, none⟩ = some (.int .i64 (h.c)) ∧ W'.cell? ⟨w.heap.size + 1, 3, none⟩ = some (.int .i64 (h.d)) ∧ W'.cell? ⟨w.heap.size + 1, 4, none⟩ = some (.int .i64 (h.e)) ∧ W'.cell? ⟨w.heap.size + 1, 5, none⟩ = some (.int .i64 (h.f)) ∧ W'.cell? ⟨(a.add (K * 6)).block, (a.add (K * 6)).off + 3, none⟩ = some (.int .i64 y.d) ∧ W'.cell? ⟨(a.add (K * 6)).block, (a.add (K * 6)).off + 4, none⟩ = some (.int .i64 y.e) ∧ W'.cell? ⟨(a.add (K * 6)).block, (a.add (K * 6)).off + 5, none⟩ = some (.int .i64 y.f)) (by kernel_rfl) (by kernel_rfl) (fun _ _ d _ _ h => by cases d <;> exact h) (s_hu E.drw e3 e4 e5) ?_
            simp only [List.filterMap_cons, List.filterMap_nil, List.getElem?_cons_zero, List.getElem?_cons_succ, Option.map_some, List.drop_succ_cons, List.drop_zero]
            replace E := E.drw
            repeat (refine wpPlan_still (v := ?_) (Or.inl ⟨by rfl, ?_⟩) ?_; rotate_left; (focus (intro W hW; (try dsimp only at hW); go_split_ands; go_simp; try with_reducible rfl)); try simp only [Act.put, List.setIfInBounds_toArray, List.set_cons_zero, List.set_cons_succ])
            refine wpPlan_only (fun K hK => ?_)
            try go_simp
            (go_at_call 39; (with_reducible refine (chx _).mono ?_); rintro X w1 ⟨rfl, hb⟩; replace E := E.on hb; clear hb)
            try go_wp2_with fail
            refine hK.out _ _ (s_hu E e3 e4 e5) ?_
            clear hK K
            try simp only [Act.put, List.setIfInBounds_toArray, List.set_cons_zero, List.set_cons_succ]
            refine wpPlan_only (fun K hK => ?_)
            try go_simp
            (go_at_call 39; (with_reducible refine (chy _).mono ?_); rintro X w1 ⟨rfl, hb⟩; replace E := E.on hb; clear hb)
            try go_wp2_with fail
            refine hK.out _ _ (s_hu E e3 e4 e5) ?_
            clear hK K
            try simp only [Act.put, List.setIfInBounds_toArray, List.set_cons_zero, List.set_cons_succ]
            (refine wpPlan_still (v := ?_) (Or.inl ⟨by rfl, ?_⟩) ?_; rotate_left; (focus (intro W hW; (try dsimp only at hW); go_split_ands; go_simp; try with_reducible rfl)); try simp only [Act.put, List.setIfInBounds_toArray, List.set_cons_zero, List.set_cons_succ])
            refine wpPlan_only (fun K hK => ?_)
            try go_simp
            (go_at_call 40; (with_reducible refine (rwith0 _ _ _ _ _).mono ?_); rintro X w1 ⟨rfl, hb⟩; replace E := E.on hb; clear hb)
            try go_wp2_with fail
            refine hK.out _ _ (s_hu E e3 e4 e5) ?_
            clear hK K
            try simp only [Act.put, List.setIfInBounds_toArray, List.set_cons_zero, List.set_cons_succ]
            refine wpPlan_end ?_
            have C := E.cells
            simp [BC, CF, Lhu] at C
            go_wp2_with fail
            exact ⟨⟨1, rfl, by omega, ((E.put 0 3 (.int .i64 (m0)) rfl).put 0 4 (.int .i64 (h.e)) rfl).put 0 5 (.int .i64 (h.f)) rfl⟩, by simp [intOf]⟩
        · have C := E.cells
          simp [BC, CF, Lhu] at C
          have clx := fun W => rcoord1 (n0) (h.b) (h.c) W
          have cly := fun W => rcoord1 y.a y.b y.c W
          have chx := fun W => rcoord1 (m0) (h.e) (h.f) W
          have chy := fun W => rcoord1 y.d y.e y.f W
          have G1 := EL1.out
          have G2 := EH1.out
          go_upto_region 8 with fail
          go_cut [] (fun wx => Env w wx [⟨w.heap.size + 1, 30, #[.int .i64 n0, .int .i64 n1, .int .i64 h.c, .int .i64 m0, .int .i64 h.e, .int .i64 h.f]⟩, ⟨w.heap.size, 30, #[.int .i64 0, .int .i64 0, .int .i64 0, .int .i64 0, .int .i64 0, .int .i64 0]⟩])
          case first =>
            refine wp_region_plan 16 [(0, true), (1, true), (2, true), (3, true), (4, true), (5, true), (7, true), (8, true), (9, true), (10, true), (11, true), (12, true), (6, false), (13, false), (14, true), (15, false)] (fun W' => Env w W' [⟨w.heap.size + 1, 30, #[.int .i64 n0, .int .i64 h.b, .int .i64 h.c, .int .i64 m0, .int .i64 h.e, .int .i64 h.f]⟩, ⟨w.heap.size, 30, #[.int .i64 0, .int .i64 0, .int .i64 0, .int .i64 0, .int .i64 0, .int .i64 0]⟩] ∧ W'.cell? ⟨w.heap.size + 1, 0, none⟩ = some (.int .i64 (n0)) ∧ W'.cell? ⟨w.heap.size + 1, 1, none⟩ = some (.int .i64 (h.b)) ∧ W'.cell? ⟨w.heap.size + 1, 2, none⟩ = some (.int .i64 (h.c)) ∧ W'.cell? ⟨w.heap.size + 1, 3, none⟩ = some (.int .i64 (m0)) ∧ W'.cell? ⟨w.heap.size + 1, 4, none⟩ = some (.int .i64 (h.e)) ∧ W'.cell? ⟨w.heap.size + 1, 5, none⟩ = some (.int .i64 (h.f)) ∧ W'.cell? (a.add (K * 6)) = some (.int .i64 y.a) ∧ W'.cell? ⟨(a.add (K * 6)).block, (a.add (K * 6)).off + 1, none⟩ = some (.int .i64 y.b) ∧ W'.cell? ⟨(a.add (K * 6)).block, (a.add (K * 6)).off + 2, none⟩ = some (.int .i64 y.c)) (by kernel_rfl) (by kernel_rfl) (fun _ _ d _ _ h => by cases d <;> exact h) (s_hu E.drw e0 e1 e2) ?_
            simp only [List.filterMap_cons, List.filterMap_nil, List.getElem?_cons_zero, List.getElem?_cons_succ, Option.map_some, List.drop_succ_cons, List.drop_zero]
            replace E := E.drw
            repeat (refine wpPlan_still (v := ?_) (Or.inl ⟨by rfl, ?_⟩) ?_; rotate_left; (focus (intro W hW; (try dsimp only at hW); go_split_ands; go_simp; try with_reducible rfl)); try simp only [Act.put, List.setIfInBounds_toArray, List.set_cons_zero, List.set_cons_succ])
            refine wpPlan_only (fun K hK => ?_)
            try go_simp
            (go_at_call 39; (with_reducible refine (clx _).mono ?_); rintro X w1 ⟨rfl, hb⟩; replace E := E.on hb; clear hb)
            try go_wp2_with fail
            refine hK.out _ _ (s_hu E e0 e1 e2) ?_
            clear hK K
            try simp only [Act.put, List.setIfInBounds_toArray, List.set_cons_zero, List.set_cons_succ]
            refine wpPlan_only (fun K hK => ?_)
            try go_simp
            (go_at_call 39; (with_reducible refine (cly _).mono ?_); rintro X w1 ⟨rfl, hb⟩; replace E := E.on hb; clear hb)
            try go_wp2_with fail
            refine hK.out _ _ (s_hu E e0 e1 e2) ?_
            clear hK K
            try simp only [Act.put, List.setIfInBounds_toArray, List.set_cons_zero, List.set_cons_succ]
            (refine wpPlan_still (v := ?_) (Or.inl ⟨by rfl, ?_⟩) ?_; rotate_left; (focus (intro W hW; (try dsimp only at hW); go_split_ands; go_simp; try with_reducible rfl)); try simp only [Act.put, List.setIfInBounds_toArray, List.set_cons_zero, List.set_cons_succ])
            refine wpPlan_only (fun K hK => ?_)
            try go_simp
            (go_at_call 40; (with_reducible refine (rwith1 _ _ _ _ _).mono ?_); rintro X w1 ⟨rfl, hb⟩; replace E := E.on hb; clear hb)
            try go_wp2_with fail
            refine hK.out _ _ (s_hu E e0 e1 e2) ?_
            clear hK K
            try simp only [Act.put, List.setIfInBounds_toArray, List.set_cons_zero, List.set_cons_succ]
            refine wpPlan_end ?_
            have C := E.cells
            simp [BC, CF, Lhu] at C
            go_wp2_with fail
            all_goals go_meet
            all_goals (repeat with_reducible refine Env.drw ?_)
            all_goals exact ((E.put 0 0 (.int .i64 (n0)) rfl).put 0 1 (.int .i64 (n1)) rfl).put 0 2 (.int .i64 (h.c)) rfl
          case rest =>
            clear E C
            have E := hcut
            have C := E.cells
            simp [BC, CF] at C
            go_wp2_with fail
            refine wp_region_plan 16 [(0, true), (1, true), (2, true), (3, true), (4, true), (5, true), (7, true), (8, true), (9, true), (10, true), (11, true), (12, true), (6, false), (13, false), (14, true), (15, false)] (fun W' => Env w W' [⟨w.heap.size + 1, 30, #[.int .i64 n0, .int .i64 n1, .int .i64 h.c, .int .i64 m0, .int .i64 h.e, .int .i64 h.f]⟩, ⟨w.heap.size, 30, #[.int .i64 0, .int .i64 0, .int .i64 0, .int .i64 0, .int .i64 0, .int .i64 0]⟩] ∧ W'.cell? ⟨w.heap.size + 1, 0, none⟩ = some (.int .i64 (n0)) ∧ W'.cell? ⟨w.heap.size + 1, 1, none⟩ = some (.int .i64 (n1)) ∧ W'.cell? ⟨w.heap.size + 1, 2, none⟩ = some (.int .i64 (h.c)) ∧ W'.cell? ⟨w.heap.size + 1, 3, none⟩ = some (.int .i64 (m0)) ∧ W'.cell? ⟨w.heap.size + 1, 4, none⟩ = some (.int .i64 (h.e)) ∧ W'.cell? ⟨w.heap.size + 1, 5, none⟩ = some (.int .i64 (h.f)) ∧ W'.cell? ⟨(a.add (K * 6)).block, (a.add (K * 6)).off + 3, none⟩ = some (.int .i64 y.d) ∧ W'.cell? ⟨(a.add (K * 6)).block, (a.add (K * 6)).off + 4, none⟩ = some (.int .i64 y.e) ∧ W'.cell? ⟨(a.add (K * 6)).block, (a.add (K * 6)).off + 5, none⟩ = some (.int .i64 y.f)) (by kernel_rfl) (by kernel_rfl) (fun _ _ d _ _ h => by cases d <;> exact h) (s_hu E.drw e3 e4 e5) ?_
            simp only [List.filterMap_cons, List.filterMap_nil, List.getElem?_cons_zero, List.getElem?_cons_succ, Option.map_some, List.drop_succ_cons, List.drop_zero]
            replace E := E.drw
            repeat (refine wpPlan_still (v := ?_) (Or.inl ⟨by rfl, ?_⟩) ?_; rotate_left; (focus (intro W hW; (try dsimp only at hW); go_split_ands; go_simp; try with_reducible rfl)); try simp only [Act.put, List.setIfInBounds_toArray, List.set_cons_zero, List.set_cons_succ])
            refine wpPlan_only (fun K hK => ?_)
            try go_simp
            (go_at_call 39; (with_reducible refine (chx _).mono ?_); rintro X w1 ⟨rfl, hb⟩; replace E := E.on hb; clear hb)
            try go_wp2_with fail
            refine hK.out _ _ (s_hu E e3 e4 e5) ?_
            clear hK K
            try simp only [Act.put, List.setIfInBounds_toArray, List.set_cons_zero, List.set_cons_succ]
            refine wpPlan_only (fun K hK => ?_)
            try go_simp
            (go_at_call 39; (with_reducible refine (chy _).mono ?_); rintro X w1 ⟨rfl, hb⟩; replace E := E.on hb; clear hb)
            try go_wp2_with fail
            refine hK.out _ _ (s_hu E e3 e4 e5) ?_
            clear hK K
            try simp only [Act.put, List.setIfInBounds_toArray, List.set_cons_zero, List.set_cons_succ]
            (refine wpPlan_still (v := ?_) (Or.inl ⟨by rfl, ?_⟩) ?_; rotate_left; (focus (intro W hW; (try dsimp only at hW); go_split_ands; go_simp; try with_reducible rfl)); try simp only [Act.put, List.setIfInBounds_toArray, List.set_cons_zero, List.set_cons_succ])
            refine wpPlan_only (fun K hK => ?_)
            try go_simp
            (go_at_call 40; (with_reducible refine (rwith1 _ _ _ _ _).mono ?_); rintro X w1 ⟨rfl, hb⟩; replace E := E.on hb; clear hb)
            try go_wp2_with fail
            refine hK.out _ _ (s_hu E e3 e4 e5) ?_
            clear hK K
            try simp only [Act.put, List.setIfInBounds_toArray, List.set_cons_zero, List.set_cons_succ]
            refine wpPlan_end ?_
            have C := E.cells
            simp [BC, CF, Lhu] at C
            go_wp2_with fail
            exact ⟨⟨2, rfl, by omega, ((E.put 0 3 (.int .i64 (m0)) rfl).put 0 4 (.int .i64 (m1)) rfl).put 0 5 (.int .i64 (h.f)) rfl⟩, by simp [intOf]⟩
        · have C := E.cells
          simp [BC, CF, Lhu] at C
          have clx := fun W => rcoord2 (n0) (n1) (h.c) W
          have cly := fun W => rcoord2 y.a y.b y.c W
          have chx := fun W => rcoord2 (m0) (m1) (h.f) W
          have chy := fun W => rcoord2 y.d y.e y.f W
          have G1 := EL2.out
          have G2 := EH2.out
          go_upto_region 8 with fail
          go_cut [] (fun wx => Env w wx [⟨w.heap.size + 1, 30, #[.int .i64 n0, .int .i64 n1, .int .i64 n2, .int .i64 m0, .int .i64 m1, .int .i64 h.f]⟩, ⟨w.heap.size, 30, #[.int .i64 0, .int .i64 0, .int .i64 0, .int .i64 0, .int .i64 0, .int .i64 0]⟩])
          case first =>
            refine wp_region_plan 16 [(0, true), (1, true), (2, true), (3, true), (4, true), (5, true), (7, true), (8, true), (9, true), (10, true), (11, true), (12, true), (6, false), (13, false), (14, true), (15, false)] (fun W' => Env w W' [⟨w.heap.size + 1, 30, #[.int .i64 n0, .int .i64 n1, .int .i64 h.c, .int .i64 m0, .int .i64 m1, .int .i64 h.f]⟩, ⟨w.heap.size, 30, #[.int .i64 0, .int .i64 0, .int .i64 0, .int .i64 0, .int .i64 0, .int .i64 0]⟩] ∧ W'.cell? ⟨w.heap.size + 1, 0, none⟩ = some (.int .i64 (n0)) ∧ W'.cell? ⟨w.heap.size + 1, 1, none⟩ = some (.int .i64 (n1)) ∧ W'.cell? ⟨w.heap.size + 1, 2, none⟩ = some (.int .i64 (h.c)) ∧ W'.cell? ⟨w.heap.size + 1, 3, none⟩ = some (.int .i64 (m0)) ∧ W'.cell? ⟨w.heap.size + 1, 4, none⟩ = some (.int .i64 (m1)) ∧ W'.cell? ⟨w.heap.size + 1, 5, none⟩ = some (.int .i64 (h.f)) ∧ W'.cell? (a.add (K * 6)) = some (.int .i64 y.a) ∧ W'.cell? ⟨(a.add (K * 6)).block, (a.add (K * 6)).off + 1, none⟩ = some (.int .i64 y.b) ∧ W'.cell? ⟨(a.add (K * 6)).block, (a.add (K * 6)).off + 2, none⟩ = some (.int .i64 y.c)) (by kernel_rfl) (by kernel_rfl) (fun _ _ d _ _ h => by cases d <;> exact h) (s_hu E.drw e0 e1 e2) ?_
            simp only [List.filterMap_cons, List.filterMap_nil, List.getElem?_cons_zero, List.getElem?_cons_succ, Option.map_some, List.drop_succ_cons, List.drop_zero]
            replace E := E.drw
            repeat (refine wpPlan_still (v := ?_) (Or.inl ⟨by rfl, ?_⟩) ?_; rotate_left; (focus (intro W hW; (try dsimp only at hW); go_split_ands; go_simp; try with_reducible rfl)); try simp only [Act.put, List.setIfInBounds_toArray, List.set_cons_zero, List.set_cons_succ])
            refine wpPlan_only (fun K hK => ?_)
            try go_simp
            (go_at_call 39; (with_reducible refine (clx _).mono ?_); rintro X w1 ⟨rfl, hb⟩; replace E := E.on hb; clear hb)
            try go_wp2_with fail
            refine hK.out _ _ (s_hu E e0 e1 e2) ?_
            clear hK K
            try simp only [Act.put, List.setIfInBounds_toArray, List.set_cons_zero, List.set_cons_succ]
            refine wpPlan_only (fun K hK => ?_)
            try go_simp
            (go_at_call 39; (with_reducible refine (cly _).mono ?_); rintro X w1 ⟨rfl, hb⟩; replace E := E.on hb; clear hb)
            try go_wp2_with fail
            refine hK.out _ _ (s_hu E e0 e1 e2) ?_
            clear hK K
            try simp only [Act.put, List.setIfInBounds_toArray, List.set_cons_zero, List.set_cons_succ]
            (refine wpPlan_still (v := ?_) (Or.inl ⟨by rfl, ?_⟩) ?_; rotate_left; (focus (intro W hW; (try dsimp only at hW); go_split_ands; go_simp; try with_reducible rfl)); try simp only [Act.put, List.setIfInBounds_toArray, List.set_cons_zero, List.set_cons_succ])
            refine wpPlan_only (fun K hK => ?_)
            try go_simp
            (go_at_call 40; (with_reducible refine (rwith2 _ _ _ _ _).mono ?_); rintro X w1 ⟨rfl, hb⟩; replace E := E.on hb; clear hb)
            try go_wp2_with fail
            refine hK.out _ _ (s_hu E e0 e1 e2) ?_
            clear hK K
            try simp only [Act.put, List.setIfInBounds_toArray, List.set_cons_zero, List.set_cons_succ]
            refine wpPlan_end ?_
            have C := E.cells
            simp [BC, CF, Lhu] at C
            go_wp2_with fail
            all_goals go_meet
            all_goals (repeat with_reducible refine Env.drw ?_)
            all_goals exact ((E.put 0 0 (.int .i64 (n0)) rfl).put 0 1 (.int .i64 (n1)) rfl).put 0 2 (.int .i64 (n2)) rfl
          case rest =>
            clear E C
            have E := hcut
            have C := E.cells
            simp [BC, CF] at C
            go_wp2_with fail
            refine wp_region_plan 16 [(0, true), (1, true), (2, true), (3, true), (4, true), (5, true), (7, true), (8, true), (9, true), (10, true), (11, true), (12, true), (6, false), (13, false), (14, true), (15, false)] (fun W' => Env w W' [⟨w.heap.size + 1, 30, #[.int .i64 n0, .int .i64 n1, .int .i64 n2, .int .i64 m0, .int .i64 m1, .int .i64 h.f]⟩, ⟨w.heap.size, 30, #[.int .i64 0, .int .i64 0, .int .i64 0, .int .i64 0, .int .i64 0, .int .i64 0]⟩] ∧ W'.cell? ⟨w.heap.size + 1, 0, none⟩ = some (.int .i64 (n0)) ∧ W'.cell? ⟨w.heap.size + 1, 1, none⟩ = some (.int .i64 (n1)) ∧ W'.cell? ⟨w.heap.size + 1, 2, none⟩ = some (.int .i64 (n2)) ∧ W'.cell? ⟨w.heap.size + 1, 3, none⟩ = some (.int .i64 (m0)) ∧ W'.cell? ⟨w.heap.size + 1, 4, none⟩ = some (.int .i64 (m1)) ∧ W'.cell? ⟨w.heap.size + 1, 5, none⟩ = some (.int .i64 (h.f)) ∧ W'.cell? ⟨(a.add (K * 6)).block, (a.add (K * 6)).off + 3, none⟩ = some (.int .i64 y.d) ∧ W'.cell? ⟨(a.add (K * 6)).block, (a.add (K * 6)).off + 4, none⟩ = some (.int .i64 y.e) ∧ W'.cell? ⟨(a.add (K * 6)).block, (a.add (K * 6)).off + 5, none⟩ = some (.int .i64 y.f)) (by kernel_rfl) (by kernel_rfl) (fun _ _ d _ _ h => by cases d <;> exact h) (s_hu E.drw e3 e4 e5) ?_
            simp only [List.filterMap_cons, List.filterMap_nil, List.getElem?_cons_zero, List.getElem?_cons_succ, Option.map_some, List.drop_succ_cons, List.drop_zero]
            replace E := E.drw
            repeat (refine wpPlan_still (v := ?_) (Or.inl ⟨by rfl, ?_⟩) ?_; rotate_left; (focus (intro W hW; (try dsimp only at hW); go_split_ands; go_simp; try with_reducible rfl)); try simp only [Act.put, List.setIfInBounds_toArray, List.set_cons_zero, List.set_cons_succ])
            refine wpPlan_only (fun K hK => ?_)
            try go_simp
            (go_at_call 39; (with_reducible refine (chx _).mono ?_); rintro X w1 ⟨rfl, hb⟩; replace E := E.on hb; clear hb)
            try go_wp2_with fail
            refine hK.out _ _ (s_hu E e3 e4 e5) ?_
            clear hK K
            try simp only [Act.put, List.setIfInBounds_toArray, List.set_cons_zero, List.set_cons_succ]
            refine wpPlan_only (fun K hK => ?_)
            try go_simp
            (go_at_call 39; (with_reducible refine (chy _).mono ?_); rintro X w1 ⟨rfl, hb⟩; replace E := E.on hb; clear hb)
            try go_wp2_with fail
            refine hK.out _ _ (s_hu E e3 e4 e5) ?_
            clear hK K
            try simp only [Act.put, List.setIfInBounds_toArray, List.set_cons_zero, List.set_cons_succ]
            (refine wpPlan_still (v := ?_) (Or.inl ⟨by rfl, ?_⟩) ?_; rotate_left; (focus (intro W hW; (try dsimp only at hW); go_split_ands; go_simp; try with_reducible rfl)); try simp only [Act.put, List.setIfInBounds_toArray, List.set_cons_zero, List.set_cons_succ])
            refine wpPlan_only (fun K hK => ?_)
            try go_simp
            (go_at_call 40; (with_reducible refine (rwith2 _ _ _ _ _).mono ?_); rintro X w1 ⟨rfl, hb⟩; replace E := E.on hb; clear hb)
            try go_wp2_with fail
            refine hK.out _ _ (s_hu E e3 e4 e5) ?_
            clear hK K
            try simp only [Act.put, List.setIfInBounds_toArray, List.set_cons_zero, List.set_cons_succ]
            refine wpPlan_end ?_
            have C := E.cells
            simp [BC, CF, Lhu] at C
            go_wp2_with fail
            exact ⟨⟨3, rfl, by omega, ((E.put 0 3 (.int .i64 (m0)) rfl).put 0 4 (.int .i64 (m1)) rfl).put 0 5 (.int .i64 (m2)) rfl⟩, by simp [intOf]⟩
        · have C := E.cells
          simp [BC, CF, Lhu] at C
          go_wp2_with fail
          exact ⟨⟨K + 1, rfl, by omega, by omega, by rw [HT.out, HU.out]; exact E⟩, by simp [intOf]; omega⟩
    · have g1 : decide ((K : Int) < (l.length : Int) + 1) = false := by simp; omega
      have g1' : decide ((K : Int) < ((l.length + 1 : Nat) : Int)) = false := by simp; omega
      have eK : l.take (K - 1) = l := List.take_of_length_le (by omega)
      rw [eK] at E
      have C := E.cells
      simp [BC, CF] at C
      have HE : Hid (R = Value.agg #[.int .i64 (l.foldl hullB x).a, .int .i64 (l.foldl hullB x).b, .int .i64 (l.foldl hullB x).c, .int .i64 (l.foldl hullB x).d, .int .i64 (l.foldl hullB x).e, .int .i64 (l.foldl hullB x).f]) := Lib.hid HR.out
      generalize l.foldl hullB x = h at *
      go_wp2_with fail
      refine bodyPost_ret (v := .agg #[.int .i64 h.a, .int .i64 h.b, .int .i64 h.c, .int .i64 h.d, .int .i64 h.e, .int .i64 h.f]) (by simp [results, Try.results53, go_sem, C]) rfl ⟨by rw [HE.out], ?_⟩
      exact ((((((E.1.setCell (by dsimp only; omega) _).setCell (by dsimp only; omega) _).setCell (by dsimp only; omega) _).setCell (by dsimp only; omega) _).setCell (by dsimp only; omega) _).setCell (by dsimp only; omega) _)
end Go.Proofs.Ytkgaahmehmbfjaa
