/- holders: for each axis and each part which boxes contain it. -/
import Derived.Test.YtffigpkkdljaiaaHd
import Derived.Test.YtffigpkkdljaiaaCt
namespace Go.Proofs.Ytffigpkkdljaiaa
open Go.ChangeShapes Go.WideShapes Go.ChangeAt Go.RowKit
set_option linter.unusedVariables false
set_option linter.unusedSimpArgs false

def Bx.side (x : Bx) : Nat → S2
  | 0 => (x.a, x.d)
  | 1 => (x.b, x.e)
  | _ => (x.c, x.f)
def sds (l : List Bx) (i : Nat) : List S2 := l.map fun x => x.side i
def hold (l : List Bx) (b : Bx) (i : Nat) : List Nat := (cutS (b.side i).1 (b.side i).2 (sds l i)).map fun p => hmk (sds l i) p (sds l i).length
/-- All blocks below B but A are as they were. -/
def Far (B A : Nat) (w w' : World) : Prop := ∀ k, k < B → k ≠ A → w'.heap[k]? = w.heap[k]?
theorem Far.refl (B A : Nat) (w : World) : Far B A w w := fun _ _ _ => rfl
theorem Far.trans {B A : Nat} {a b c : World} (h : Far B A a b) (k : Far B A b c) : Far B A a c := fun j h1 h2 => (k j h1 h2).trans (h j h1 h2)
theorem Far.below {B A C : Nat} {a b : World} (h : Below C a b) (hB : B ≤ C) : Far B A a b := fun j h1 h2 => h.block j (by omega)
theorem Far.set {B A i : Nat} {u : Value} (a : World) : Far B A a (a.setCell ⟨A, i, none⟩ u) := fun j h1 h2 => Below.heap_setCell _ _ _ _ h2
theorem Far.has {B A g : Nat} {a b : World} {t : TypeId} {cs : Array Value} (h : Has a g t cs) (k : Far B A a b) (h1 : g < B) (h2 : g ≠ A) : Has b g t cs := by
  unfold Has; rw [k g h1 h2]; exact h
/-- A row apart from block A. -/
def Apt (B A : Nat) (v : Value) : Prop := ∀ g, v.ownBlock = some g → g < B ∧ g ≠ A
theorem Far.rd {α : Type} {f : α → List Value} {s : Nat} (hf : ∀ x, (f x).length = s) {B A : Nat} {a b : World} {v : Value} {l : List α} (h : Rd f s a v l) (k : Far B A a b) (hv : Apt B A v) : Rd f s b v l := by
  obtain ⟨q, c, rfl, hC⟩ := h
  refine ⟨q, c, rfl, fun i hi => ?_⟩
  obtain ⟨g, rfl, hc⟩ := hC i hi
  have hg := hv g rfl
  exact ⟨g, rfl, fun j hj => by rw [← hc j hj]; exact World.cell?_of_block (k g hg.1 hg.2)⟩
theorem Apt.mono {B B' A : Nat} {v : Value} (h : Apt B A v) (hB : B ≤ B') : Apt B' A v := fun g e => ⟨Nat.lt_of_lt_of_le (h g e).1 hB, (h g e).2⟩
theorem Own.apt {α : Type} {f : α → List Value} {t : TypeId} {s B : Nat} {w : World} {v : Value} {l : List α} (h : Own f t s B w v l) {A : Nat} (hA : A < B) : Apt w.heap.size A v := fun g e => by
  have := World.ownsRow.lt h g e
  exact ⟨this.2, by omega⟩
/-- A row above block A. -/
def UB (A : Nat) (w : World) (v : Value) : Prop := ∀ g, v.ownBlock = some g → g < w.heap.size ∧ A < g
theorem UB.apt {A : Nat} {w : World} {v : Value} (h : UB A w v) : Apt w.heap.size A v := fun g e => ⟨(h g e).1, by have := (h g e).2; omega⟩
theorem UB.up {A : Nat} {w w' : World} {v : Value} (h : UB A w v) (hs : w.heap.size ≤ w'.heap.size) : UB A w' v := fun g e => ⟨Nat.lt_of_lt_of_le (h g e).1 hs, (h g e).2⟩
theorem Own.ub {α : Type} {f : α → List Value} {t : TypeId} {s B : Nat} {w : World} {v : Value} {l : List α} (h : Own f t s B w v l) {A : Nat} (hA : A < B) : UB A w v := fun g e => by
  have := World.ownsRow.lt h g e
  exact ⟨this.2, by omega⟩
theorem Has.cells6 {w : World} {g : Nat} {t : TypeId} {a b c d e f : Value} (h : Has w g t #[a, b, c, d, e, f]) : w.cell? ⟨g, 0, none⟩ = some a ∧ w.cell? ⟨g, 1, none⟩ = some b ∧ w.cell? ⟨g, 2, none⟩ = some c ∧ w.cell? ⟨g, 3, none⟩ = some d ∧ w.cell? ⟨g, 4, none⟩ = some e ∧ w.cell? ⟨g, 5, none⟩ = some f :=
  ⟨h.read 0, h.read 1, h.read 2, h.read 3, h.read 4, h.read 5⟩
theorem cutS_len (lo hi : Int) (os : List S2) : (cutS lo hi os).length ≤ 2 + 2 * os.length := by
  unfold cutS
  split
  · simp; omega
  · have h1 := ends_len lo hi os
    have h2 := compact_len ((ends lo hi os).mergeSort fun x y => decide (x ≤ y))
    rw [List.length_mergeSort] at h2
    simp [prs, srt]
    omega
theorem info68 : (Try.prog.info? 68).map (fun i => (i.zero, i.size, i.bytes)) = some (some (.agg #[.int .i64 0, .int .i64 0, .int .i64 0, .int .i64 0, .int .i64 0, .int .i64 0]), 6, 48) := by kernel_rfl
theorem info94 : (Try.prog.info? 94).map (fun i => (i.zero, i.size, i.bytes)) = some (some (.int .u64 0), 1, 8) := by kernel_rfl
end Go.Proofs.Ytffigpkkdljaiaa
