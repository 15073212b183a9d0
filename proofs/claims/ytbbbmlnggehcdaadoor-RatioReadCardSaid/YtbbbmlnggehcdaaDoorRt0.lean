/- The reference's Div: the walk of its 128 rounds. -/
import Derived.Test.YtbbbmlnggehcdaaDoorRs
namespace Go.Proofs.YtbbbmlnggehcdaaDoor
open Go.ChangeShapes Go.WideShapes Go.ChangeAt Go.RowKit
set_option linter.unusedVariables false
set_option linter.unusedSimpArgs false

theorem Qua.setA {w0 w : World} {a b q r : Int} (h : Qua w0 w a b q r) (z : Int) : Qua w0 ((w.setCell ⟨w0.heap.size, 0, none⟩ (.int .u64 (uH z))).setCell ⟨w0.heap.size, 1, none⟩ (.int .u64 (uL z))) z b q r :=
  ⟨(h.1.put_ 0 _).put_ 1 _, (h.2.1.apart_ (by first | (simp; done) | (simp; omega)) _).apart_ (by first | (simp; done) | (simp; omega)) _, (h.2.2.1.apart_ (by first | (simp; done) | (simp; omega)) _).apart_ (by first | (simp; done) | (simp; omega)) _, (h.2.2.2.1.apart_ (by first | (simp; done) | (simp; omega)) _).apart_ (by first | (simp; done) | (simp; omega)) _, (h.2.2.2.2.1.apart_ (by first | (simp; done) | (simp; omega)) _).apart_ (by first | (simp; done) | (simp; omega)) _, (h.2.2.2.2.2.1.apart_ (by first | (simp; done) | (simp; omega)) _).apart_ (by first | (simp; done) | (simp; omega)) _, (h.2.2.2.2.2.2.setCell (by first | exact Nat.le_refl _ | (simp; done) | (simp; omega)) _).setCell (by first | exact Nat.le_refl _ | (simp; done) | (simp; omega)) _⟩
theorem Qua.setQ {w0 w : World} {a b q r : Int} (h : Qua w0 w a b q r) (z : Int) : Qua w0 ((w.setCell ⟨w0.heap.size + 1 + 1 + 1 + 1, 0, none⟩ (.int .u64 (uH z))).setCell ⟨w0.heap.size + 1 + 1 + 1 + 1, 1, none⟩ (.int .u64 (uL z))) a b z r :=
  ⟨(h.1.apart_ (by first | (simp; done) | (simp; omega)) _).apart_ (by first | (simp; done) | (simp; omega)) _, (h.2.1.apart_ (by first | (simp; done) | (simp; omega)) _).apart_ (by first | (simp; done) | (simp; omega)) _, (h.2.2.1.apart_ (by first | (simp; done) | (simp; omega)) _).apart_ (by first | (simp; done) | (simp; omega)) _, (h.2.2.2.1.apart_ (by first | (simp; done) | (simp; omega)) _).apart_ (by first | (simp; done) | (simp; omega)) _, (h.2.2.2.2.1.put_ 0 _).put_ 1 _, (h.2.2.2.2.2.1.apart_ (by first | (simp; done) | (simp; omega)) _).apart_ (by first | (simp; done) | (simp; omega)) _, (h.2.2.2.2.2.2.setCell (by first | exact Nat.le_refl _ | (simp; done) | (simp; omega)) _).setCell (by first | exact Nat.le_refl _ | (simp; done) | (simp; omega)) _⟩
theorem Qua.setR {w0 w : World} {a b q r : Int} (h : Qua w0 w a b q r) (z : Int) : Qua w0 ((w.setCell ⟨w0.heap.size + 1 + 1 + 1 + 1 + 1, 0, none⟩ (.int .u64 (uH z))).setCell ⟨w0.heap.size + 1 + 1 + 1 + 1 + 1, 1, none⟩ (.int .u64 (uL z))) a b q z :=
  ⟨(h.1.apart_ (by first | (simp; done) | (simp; omega)) _).apart_ (by first | (simp; done) | (simp; omega)) _, (h.2.1.apart_ (by first | (simp; done) | (simp; omega)) _).apart_ (by first | (simp; done) | (simp; omega)) _, (h.2.2.1.apart_ (by first | (simp; done) | (simp; omega)) _).apart_ (by first | (simp; done) | (simp; omega)) _, (h.2.2.2.1.apart_ (by first | (simp; done) | (simp; omega)) _).apart_ (by first | (simp; done) | (simp; omega)) _, (h.2.2.2.2.1.apart_ (by first | (simp; done) | (simp; omega)) _).apart_ (by first | (simp; done) | (simp; omega)) _, (h.2.2.2.2.2.1.put_ 0 _).put_ 1 _, (h.2.2.2.2.2.2.setCell (by first | exact Nat.le_refl _ | (simp; done) | (simp; omega)) _).setCell (by first | exact Nat.le_refl _ | (simp; done) | (simp; omega)) _⟩
theorem Qua.incQ {w0 w : World} {a b q r : Int} (h : Qua w0 w a b (q * 2) r) : Qua w0 (w.setCell ⟨w0.heap.size + 1 + 1 + 1 + 1, 1, none⟩ (.int .u64 (uL (q * 2 + 1)))) a b (q * 2 + 1) r := by
  have h' := h
  unfold Qua at h' ⊢
  rw [(inc_w (q := q)).2]
  exact ⟨h.1.apart_ (by first | (simp; done) | (simp; omega)) _, h.2.1.apart_ (by first | (simp; done) | (simp; omega)) _, h.2.2.1.apart_ (by first | (simp; done) | (simp; omega)) _, h.2.2.2.1.apart_ (by first | (simp; done) | (simp; omega)) _, h.2.2.2.2.1.put_ 1 _, h.2.2.2.2.2.1.apart_ (by first | (simp; done) | (simp; omega)) _, h.2.2.2.2.2.2.setCell (by first | exact Nat.le_refl _ | (simp; done) | (simp; omega)) _⟩
theorem Qua.cells {w0 w : World} {a b q r : Int} (h : Qua w0 w a b q r) :
    (w.cell? ⟨w0.heap.size, 0, none⟩ = some (.int .u64 (uH a)) ∧ w.cell? ⟨w0.heap.size, 1, none⟩ = some (.int .u64 (uL a)) ∧ w.frozen? ⟨w0.heap.size, 0, none⟩ = false ∧ w.frozen? ⟨w0.heap.size, 1, none⟩ = false) ∧
    (w.cell? ⟨w0.heap.size + 1, 0, none⟩ = some (.int .u64 (uH b)) ∧ w.cell? ⟨w0.heap.size + 1, 1, none⟩ = some (.int .u64 (uL b)) ∧ w.frozen? ⟨w0.heap.size + 1, 0, none⟩ = false ∧ w.frozen? ⟨w0.heap.size + 1, 1, none⟩ = false) ∧
    (w.cell? ⟨w0.heap.size + 1 + 1 + 1 + 1, 0, none⟩ = some (.int .u64 (uH q)) ∧ w.cell? ⟨w0.heap.size + 1 + 1 + 1 + 1, 1, none⟩ = some (.int .u64 (uL q)) ∧ w.frozen? ⟨w0.heap.size + 1 + 1 + 1 + 1, 0, none⟩ = false ∧ w.frozen? ⟨w0.heap.size + 1 + 1 + 1 + 1, 1, none⟩ = false) ∧
    (w.cell? ⟨w0.heap.size + 1 + 1 + 1 + 1 + 1, 0, none⟩ = some (.int .u64 (uH r)) ∧ w.cell? ⟨w0.heap.size + 1 + 1 + 1 + 1 + 1, 1, none⟩ = some (.int .u64 (uL r)) ∧ w.frozen? ⟨w0.heap.size + 1 + 1 + 1 + 1 + 1, 0, none⟩ = false ∧ w.frozen? ⟨w0.heap.size + 1 + 1 + 1 + 1 + 1, 1, none⟩ = false) ∧
    (w.cell? ⟨w0.heap.size + 1 + 1, 0, none⟩ = some (.int .u64 0) ∧ w.cell? ⟨w0.heap.size + 1 + 1, 1, none⟩ = some (.int .u64 0) ∧ w.frozen? ⟨w0.heap.size + 1 + 1, 0, none⟩ = false ∧ w.frozen? ⟨w0.heap.size + 1 + 1, 1, none⟩ = false) ∧
    (w.cell? ⟨w0.heap.size + 1 + 1 + 1, 0, none⟩ = some (.int .u64 0) ∧ w.cell? ⟨w0.heap.size + 1 + 1 + 1, 1, none⟩ = some (.int .u64 0) ∧ w.frozen? ⟨w0.heap.size + 1 + 1 + 1, 0, none⟩ = false ∧ w.frozen? ⟨w0.heap.size + 1 + 1 + 1, 1, none⟩ = false) :=
  ⟨⟨h.1.read 0, h.1.read 1, h.1.open_ 0, h.1.open_ 1⟩, ⟨h.2.1.read 0, h.2.1.read 1, h.2.1.open_ 0, h.2.1.open_ 1⟩, ⟨h.2.2.2.2.1.read 0, h.2.2.2.2.1.read 1, h.2.2.2.2.1.open_ 0, h.2.2.2.2.1.open_ 1⟩, ⟨h.2.2.2.2.2.1.read 0, h.2.2.2.2.2.1.read 1, h.2.2.2.2.2.1.open_ 0, h.2.2.2.2.2.1.open_ 1⟩, ⟨h.2.2.1.read 0, h.2.2.1.read 1, h.2.2.1.open_ 0, h.2.2.1.open_ 1⟩, ⟨h.2.2.2.1.read 0, h.2.2.2.1.read 1, h.2.2.2.1.open_ 0, h.2.2.2.1.open_ 1⟩⟩
theorem qua_start (w : World) (x y : Int) : Qua w ((((((w.alloc (.cells #[.int .u64 (uH x), .int .u64 (uL x)] 62)).alloc (.cells #[.int .u64 (uH y), .int .u64 (uL y)] 62)).alloc (.cells #[.int .u64 0, .int .u64 0] 62)).alloc (.cells #[.int .u64 0, .int .u64 0] 62)).alloc (.cells #[.int .u64 0, .int .u64 0] 62)).alloc (.cells #[.int .u64 0, .int .u64 0] 62)) x y 0 0 := by
  have s1 : (w.alloc (.cells #[.int .u64 (uH x), .int .u64 (uL x)] 62)).heap.size = w.heap.size + 1 := by simp
  have s2 : ((w.alloc (.cells #[.int .u64 (uH x), .int .u64 (uL x)] 62)).alloc (.cells #[.int .u64 (uH y), .int .u64 (uL y)] 62)).heap.size = w.heap.size + 1 + 1 := by simp
  have s3 : (((w.alloc (.cells #[.int .u64 (uH x), .int .u64 (uL x)] 62)).alloc (.cells #[.int .u64 (uH y), .int .u64 (uL y)] 62)).alloc (.cells #[.int .u64 0, .int .u64 0] 62)).heap.size = w.heap.size + 1 + 1 + 1 := by simp
  have s4 : ((((w.alloc (.cells #[.int .u64 (uH x), .int .u64 (uL x)] 62)).alloc (.cells #[.int .u64 (uH y), .int .u64 (uL y)] 62)).alloc (.cells #[.int .u64 0, .int .u64 0] 62)).alloc (.cells #[.int .u64 0, .int .u64 0] 62)).heap.size = w.heap.size + 1 + 1 + 1 + 1 := by simp
  have s5 : (((((w.alloc (.cells #[.int .u64 (uH x), .int .u64 (uL x)] 62)).alloc (.cells #[.int .u64 (uH y), .int .u64 (uL y)] 62)).alloc (.cells #[.int .u64 0, .int .u64 0] 62)).alloc (.cells #[.int .u64 0, .int .u64 0] 62)).alloc (.cells #[.int .u64 0, .int .u64 0] 62)).heap.size = w.heap.size + 1 + 1 + 1 + 1 + 1 := by simp
  have h0 := ((((((Has.new_ w 62 #[.int .u64 (uH x), .int .u64 (uL x)]).alloc_ (.cells #[.int .u64 (uH y), .int .u64 (uL y)] 62)).alloc_ (.cells #[.int .u64 0, .int .u64 0] 62)).alloc_ (.cells #[.int .u64 0, .int .u64 0] 62)).alloc_ (.cells #[.int .u64 0, .int .u64 0] 62)).alloc_ (.cells #[.int .u64 0, .int .u64 0] 62))
  have h1 := (((((Has.new_ (w.alloc (.cells #[.int .u64 (uH x), .int .u64 (uL x)] 62)) 62 #[.int .u64 (uH y), .int .u64 (uL y)]).alloc_ (.cells #[.int .u64 0, .int .u64 0] 62)).alloc_ (.cells #[.int .u64 0, .int .u64 0] 62)).alloc_ (.cells #[.int .u64 0, .int .u64 0] 62)).alloc_ (.cells #[.int .u64 0, .int .u64 0] 62))
  rw [s1] at h1
  have h2 := ((((Has.new_ ((w.alloc (.cells #[.int .u64 (uH x), .int .u64 (uL x)] 62)).alloc (.cells #[.int .u64 (uH y), .int .u64 (uL y)] 62)) 62 #[.int .u64 0, .int .u64 0]).alloc_ (.cells #[.int .u64 0, .int .u64 0] 62)).alloc_ (.cells #[.int .u64 0, .int .u64 0] 62)).alloc_ (.cells #[.int .u64 0, .int .u64 0] 62))
  rw [s2] at h2
  have h3 := (((Has.new_ (((w.alloc (.cells #[.int .u64 (uH x), .int .u64 (uL x)] 62)).alloc (.cells #[.int .u64 (uH y), .int .u64 (uL y)] 62)).alloc (.cells #[.int .u64 0, .int .u64 0] 62)) 62 #[.int .u64 0, .int .u64 0]).alloc_ (.cells #[.int .u64 0, .int .u64 0] 62)).alloc_ (.cells #[.int .u64 0, .int .u64 0] 62))
  rw [s3] at h3
  have h4 := ((Has.new_ ((((w.alloc (.cells #[.int .u64 (uH x), .int .u64 (uL x)] 62)).alloc (.cells #[.int .u64 (uH y), .int .u64 (uL y)] 62)).alloc (.cells #[.int .u64 0, .int .u64 0] 62)).alloc (.cells #[.int .u64 0, .int .u64 0] 62)) 62 #[.int .u64 0, .int .u64 0]).alloc_ (.cells #[.int .u64 0, .int .u64 0] 62))
  rw [s4] at h4
  have h5 := (Has.new_ (((((w.alloc (.cells #[.int .u64 (uH x), .int .u64 (uL x)] 62)).alloc (.cells #[.int .u64 (uH y), .int .u64 (uL y)] 62)).alloc (.cells #[.int .u64 0, .int .u64 0] 62)).alloc (.cells #[.int .u64 0, .int .u64 0] 62)).alloc (.cells #[.int .u64 0, .int .u64 0] 62)) 62 #[.int .u64 0, .int .u64 0])
  rw [s5] at h5
  exact ⟨h0, h1, h2, h3, h4, h5, al (al (al (al (al2 _ _ _) _) _) _) _⟩

def divq (x y : Int) : Int := x / y
def divr (x y : Int) : Int := x % y


end Go.Proofs.YtbbbmlnggehcdaaDoor
