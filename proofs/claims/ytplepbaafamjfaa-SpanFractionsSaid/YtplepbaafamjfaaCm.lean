/- Blocks that a call has begun with; the contract of Cmp. -/
import Derived.Test.YtplepbaafamjfaaMk
namespace Go.Proofs.Ytplepbaafamjfaa
open Go.ChangeShapes Go.WideShapes Go.ChangeAt Go.RowKit Go.Shelf
set_option linter.unusedVariables false

/-- The arguments of a call, in their two blocks. -/
def Two (w0 w : World) (an ad bn bd : Int) : Prop :=
  Has w w0.heap.size 35 #[.int .i64 an, .int .i64 ad] ∧ Has w (w0.heap.size + 1) 35 #[.int .i64 bn, .int .i64 bd] ∧ Below w0.heap.size w0 w ∧ w0.heap.size + 2 ≤ w.heap.size
theorem two_start (w : World) (an ad bn bd : Int) : Two w ((w.alloc (.cells #[.int .i64 an, .int .i64 ad] 35)).alloc (.cells #[.int .i64 bn, .int .i64 bd] 35)) an ad bn bd := by
  have s1 : (w.alloc (.cells #[.int .i64 an, .int .i64 ad] 35)).heap.size = w.heap.size + 1 := by simp
  have h1 := ((Has.new_ w 35 #[.int .i64 an, .int .i64 ad]).alloc_ (.cells #[.int .i64 bn, .int .i64 bd] 35))
  have h2 := Has.new_ (w.alloc (.cells #[.int .i64 an, .int .i64 ad] 35)) 35 #[.int .i64 bn, .int .i64 bd]
  rw [s1] at h2
  exact ⟨h1, h2, al2 _ _ _, by simp⟩
theorem Two.next {w0 w w1 : World} {an ad bn bd : Int} (h : Two w0 w an ad bn bd) (hb : Below w.heap.size w w1) : Two w0 w1 an ad bn bd :=
  ⟨h.1.below_ hb (by have := h.2.2.2; omega), h.2.1.below_ hb (by have := h.2.2.2; omega), h.2.2.1.trans (hb.mono (by have := h.2.2.2; omega)), Nat.le_trans h.2.2.2 hb.size⟩
theorem Two.alloc {w0 w : World} {an ad bn bd : Int} (h : Two w0 w an ad bn bd) (o : Obj) : Two w0 (w.alloc o) an ad bn bd := h.next (al1 _ _)
theorem Two.dr {w0 w w1 : World} {an ad bn bd : Int} (h : Two w0 w an ad bn bd) (hb : Dr w w1) : Two w0 w1 an ad bn bd := h.next (Dr.below' hb)
theorem Two.drewN {w0 w : World} {an ad bn bd : Int} (h : Two w0 w an ad bn bd) (n : Nat) : Two w0 (w.drewN n) an ad bn bd := h.dr ⟨n, rfl⟩
theorem Two.drew {w0 w : World} {an ad bn bd : Int} (h : Two w0 w an ad bn bd) : Two w0 w.drew an ad bn bd := ⟨h.1, h.2.1, h.2.2.1.drew, h.2.2.2⟩
theorem Two.cells {w0 w : World} {an ad bn bd : Int} (h : Two w0 w an ad bn bd) :
    w.cell? ⟨w0.heap.size, 0, none⟩ = some (.int .i64 an) ∧ w.cell? ⟨w0.heap.size, 1, none⟩ = some (.int .i64 ad) ∧ w.cell? ⟨w0.heap.size + 1, 0, none⟩ = some (.int .i64 bn) ∧ w.cell? ⟨w0.heap.size + 1, 1, none⟩ = some (.int .i64 bd) :=
  ⟨h.1.read 0, h.1.read 1, h.2.1.read 0, h.2.1.read 1⟩
theorem Two.kept' {w0 w : World} {an ad bn bd : Int} (h : Two w0 w an ad bn bd) :
    w.cell? ⟨w0.heap.size, 0, none⟩ = some (.int .i64 an) ∧ w.cell? ⟨w0.heap.size, 1, none⟩ = some (.int .i64 ad) ∧ w.cell? ⟨w0.heap.size + 1, 0, none⟩ = some (.int .i64 bn) ∧ w.cell? ⟨w0.heap.size + 1, 1, none⟩ = some (.int .i64 bd) ∧ Two w0 w an ad bn bd :=
  ⟨h.cells.1, h.cells.2.1, h.cells.2.2.1, h.cells.2.2.2, h⟩

theorem Sm_mul {a b : Int} (h1 : -1152921504606846976 ≤ a) (h2 : a ≤ 1152921504606846976) (h3 : 0 < b) (h4 : b ≤ 1152921504606846976) : Sm (mI a b) := by
  unfold Sm mI ab
  rw [Int.natAbs_mul, Int.natCast_mul]
  have : (a.natAbs : Int) * (b.natAbs : Int) ≤ 1152921504606846976 * 1152921504606846976 := Int.mul_le_mul (by omega) (by omega) (by omega) (by omega)
  omega

end Go.Proofs.Ytplepbaafamjfaa
