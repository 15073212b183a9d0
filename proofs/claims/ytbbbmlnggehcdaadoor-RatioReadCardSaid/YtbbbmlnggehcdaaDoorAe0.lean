/- The contract of Add. -/
import Derived.Test.YtbbbmlnggehcdaaDoorAd
namespace Go.Proofs.YtbbbmlnggehcdaaDoor
open Go.ChangeShapes Go.WideShapes Go.ChangeAt Go.RowKit Go.Shelf
set_option linter.unusedVariables false

theorem add_bad (an ad bn bd : Int) (w : World) (x1 : -9223372036854775808 ≤ an) (x2 : an ≤ 9223372036854775807) (x3 : -9223372036854775808 ≤ ad) (x4 : ad ≤ 9223372036854775807)
    (y1 : -9223372036854775808 ≤ bn) (y2 : bn ≤ 9223372036854775807) (y3 : -9223372036854775808 ≤ bd) (y4 : bd ≤ 9223372036854775807) (hv : vB an ad = true → vB bn bd = false) :
    Calls Tryd.prog 21 #[.agg #[.int .i64 an, .int .i64 ad], .agg #[.int .i64 bn, .int .i64 bd]] w fun e w' => e = .returned (.tuple #[.agg #[.int .i64 0, .int .i64 0], .int .i64 1]) ∧ Below w.heap.size w w' := by
  cases hA : vB an ad
  · clear hv
    go_enter Tryd.func21, Tryd.ntmps21
    go_wp2_with (first | (go_at_call 17; refine (valid_any _ _ _ (by omega) (by omega) (by omega) (by omega)).mono ?_; rw [hA]; rintro e w1 ⟨rfl, hb⟩; have B1 := (three_start w an ad bn bd).next hb; clear hb; obtain ⟨r0, r1, k0, k1⟩ := Has.two B1.2))
    refine bodyPost_ret (v := .tuple #[.agg #[.int .i64 0, .int .i64 0], .int .i64 1]) (by simp [results, Tryd.results21, go_sem, r0, r1]) rfl ⟨rfl, ?_⟩
    repeat (refine Below.setCell ?_ (by first | (simp; done) | (simp; omega)) _)
    exact B1.1.2.2.1
  · have hB := hv hA
    clear hv
    go_enter Tryd.func21, Tryd.ntmps21
    go_wp2_with (first | (go_at_call 17; refine (valid_any _ _ _ (by omega) (by omega) (by omega) (by omega)).mono ?_; (first | (rw [hA]; rintro e w1 ⟨rfl, hb⟩; have B1 := (three_start w an ad bn bd).next hb; clear hb; obtain ⟨c0, c1, d0, d1⟩ := B1.1.cells; obtain ⟨r0, r1, k0, k1⟩ := Has.two B1.2) | (rw [hB]; rintro e w2 ⟨rfl, hb⟩; have B2 := B1.next hb; clear hb c0 c1 d0 d1 r0 r1 k0 k1; obtain ⟨c0, c1, d0, d1⟩ := B2.1.cells; obtain ⟨r0, r1, k0, k1⟩ := Has.two B2.2))))
    refine bodyPost_ret (v := .tuple #[.agg #[.int .i64 0, .int .i64 0], .int .i64 1]) (by simp [results, Tryd.results21, go_sem, r0, r1]) rfl ⟨rfl, ?_⟩
    repeat (refine Below.setCell ?_ (by first | (simp; done) | (simp; omega)) _)
    exact B2.1.2.2.1

theorem Three.kept {w0 w : World} {an ad bn bd : Int} (h : Three w0 w an ad bn bd) :
    w.cell? ⟨w0.heap.size, 0, none⟩ = some (.int .i64 an) ∧ w.cell? ⟨w0.heap.size, 1, none⟩ = some (.int .i64 ad) ∧ w.cell? ⟨w0.heap.size + 1, 0, none⟩ = some (.int .i64 bn) ∧ w.cell? ⟨w0.heap.size + 1, 1, none⟩ = some (.int .i64 bd) ∧ Three w0 w an ad bn bd :=
  ⟨h.1.cells.1, h.1.cells.2.1, h.1.cells.2.2.1, h.1.cells.2.2.2, h⟩
/-- The three blocks, and that of a number of two words. -/
def Four (w0 w : World) (N : Nat) (X an ad bn bd : Int) : Prop := Three w0 w an ad bn bd ∧ Has w N 66 #[.bool (wS X), .int .u64 (wH X), .int .u64 (wL X)]
theorem Four.next {w0 w w1 : World} {N : Nat} {X an ad bn bd : Int} (h : Four w0 w N X an ad bn bd) (hb : Below w.heap.size w w1) : Four w0 w1 N X an ad bn bd := ⟨h.1.next hb, h.2.below_ hb h.2.size_⟩
theorem Four.all {w0 w : World} {N : Nat} {X an ad bn bd : Int} (h : Four w0 w N X an ad bn bd) :
    (w.cell? ⟨w0.heap.size, 0, none⟩ = some (.int .i64 an) ∧ w.cell? ⟨w0.heap.size, 1, none⟩ = some (.int .i64 ad) ∧ w.cell? ⟨w0.heap.size + 1, 0, none⟩ = some (.int .i64 bn) ∧ w.cell? ⟨w0.heap.size + 1, 1, none⟩ = some (.int .i64 bd)) ∧
    (w.cell? ⟨w0.heap.size + 1 + 1, 0, none⟩ = some (.int .i64 0) ∧ w.cell? ⟨w0.heap.size + 1 + 1, 1, none⟩ = some (.int .i64 0) ∧ w.frozen? ⟨w0.heap.size + 1 + 1, 0, none⟩ = false ∧ w.frozen? ⟨w0.heap.size + 1 + 1, 1, none⟩ = false) ∧
    (w.cell? ⟨N, 0, none⟩ = some (.bool (wS X)) ∧ w.cell? ⟨N, 1, none⟩ = some (.int .u64 (wH X)) ∧ w.cell? ⟨N, 2, none⟩ = some (.int .u64 (wL X))) :=
  ⟨h.1.1.cells, Has.two h.1.2, h.2.read 0, h.2.read 1, h.2.read 2⟩

theorem product_eq (a b : Int) (w : World) (ha : 0 ≤ a) (ha2 : a ≤ 18446744073709551615) (hb : 0 ≤ b) (hb2 : b ≤ 18446744073709551615) :
    Calls Tryd.prog 51 #[.int .u64 a, .int .u64 b] w fun e w' => e = .returned (.tuple #[.int .u64 (pL a b), .bool (pB a b)]) ∧ w = w' := product_any a b w ha ha2 hb hb2

/-- The new block of a number of two words, before it is written. -/
def Mid (w0 w : World) (N : Nat) : Prop := Has w N 66 #[.bool false, .int .u64 0, .int .u64 0] ∧ w0.heap.size ≤ N
theorem Mid.start {w0 W w1 : World} {an ad bn bd : Int} (h : Three w0 (W.alloc (.cells #[.bool false, .int .u64 0, .int .u64 0] 66)) an ad bn bd)
    (hb : Below (W.alloc (.cells #[.bool false, .int .u64 0, .int .u64 0] 66)).heap.size (W.alloc (.cells #[.bool false, .int .u64 0, .int .u64 0] 66)) w1) : Mid w0 w1 W.heap.size := by
  have s : (W.alloc (.cells #[.bool false, .int .u64 0, .int .u64 0] 66)).heap.size = W.heap.size + 1 := by simp
  have := h.1.2.2.2
  rw [s] at this
  exact ⟨(Has.new_ _ _ _).below_ hb (by rw [s]; omega), by omega⟩
theorem Mid.startd {w0 W w1 : World} {an ad bn bd : Int} (h : Three w0 (W.alloc (.cells #[.bool false, .int .u64 0, .int .u64 0] 66)).drew an ad bn bd)
    (hb : Below (W.alloc (.cells #[.bool false, .int .u64 0, .int .u64 0] 66)).drew.heap.size (W.alloc (.cells #[.bool false, .int .u64 0, .int .u64 0] 66)).drew w1) : Mid w0 w1 W.heap.size := by
  have s : (W.alloc (.cells #[.bool false, .int .u64 0, .int .u64 0] 66)).drew.heap.size = W.heap.size + 1 := by simp
  have := h.1.2.2.2
  rw [s] at this
  exact ⟨Has.below_ (Has.drew_ (Has.new_ _ _ _)) hb (by rw [s]; omega), by omega⟩
theorem Mid.next {w0 w w1 : World} {N : Nat} (h : Mid w0 w N) (hb : Below w.heap.size w w1) : Mid w0 w1 N := ⟨h.1.below_ hb h.1.size_, h.2⟩
theorem Has.ne_ {w : World} {g N : Nat} {t u : TypeId} {a b : Array Value} (h : Has w g t a) (k : Has w N u b) (hn : t ≠ u) : g ≠ N := by
  rintro rfl
  unfold Has at h k
  rw [h] at k
  simp only [Option.some.injEq, Obj.cells.injEq] at k
  exact hn k.2.1
theorem Three.store {w0 w : World} {N : Nat} {an ad bn bd : Int} (h : Three w0 w an ad bn bd) (m : Mid w0 w N) (a b c : Value) :
    Three w0 (((w.setCell ⟨N, 0, none⟩ a).setCell ⟨N, 1, none⟩ b).setCell ⟨N, 2, none⟩ c) an ad bn bd := by
  have n0 := h.1.1.ne_ m.1 (by decide)
  have n1 := h.1.2.1.ne_ m.1 (by decide)
  have n2 := h.2.ne_ m.1 (by decide)
  refine ⟨⟨((h.1.1.apart_ n0 _).apart_ n0 _).apart_ n0 _, ((h.1.2.1.apart_ n1 _).apart_ n1 _).apart_ n1 _, ((h.1.2.2.1.setCell m.2 _).setCell m.2 _).setCell m.2 _, ?_⟩, ((h.2.apart_ n2 _).apart_ n2 _).apart_ n2 _⟩
  have := h.1.2.2.2
  simpa using this
theorem Four.store {w0 w : World} {N : Nat} {X an ad bn bd : Int} (h : Three w0 w an ad bn bd) (m : Mid w0 w N) :
    Four w0 (((w.setCell ⟨N, 0, none⟩ (.bool (wS X))).setCell ⟨N, 1, none⟩ (.int .u64 (wH X))).setCell ⟨N, 2, none⟩ (.int .u64 (wL X))) N X an ad bn bd :=
  ⟨h.store m _ _ _, ((m.1.put_ 0 _).put_ 1 _).put_ 2 _⟩

end Go.Proofs.YtbbbmlnggehcdaaDoor
