/- The reference's Same; LaidMoves. -/
import Derived.Test.YtfkcogocaecodaaRm
import Derived.Laws.StructEq
import Derived.Deep.CutBlock
namespace Go.Proofs.Ytfkcogocaecodaa
open Go.ChangeShapes Go.WideShapes Go.ChangeAt Go.RowKit
set_option linter.unusedVariables false
set_option linter.unusedSimpArgs false

theorem ne30_same (x : Rn) (W : World) : (binOp .neq 30 (.agg (rc x).toArray) (.agg (rc x).toArray)).run Try.prog W = .ok (.bool false) W := by
  unfold rc
  rw [run_neq_struct, run_equalIn_agg (ht := by kernel_rfl) (hp := by kernel_rfl)]
  simp [go_sem, Program.fieldsOf, Try.underlying30, Try.underlying28, Try.underlying24]
set_option maxHeartbeats 8000000 in
set_option maxRecDepth 100000 in
theorem rSame_13 (v v' : Value) (xs : List Rn) (w : World) (h1 : Rd rc 10 w v xs) (h2 : Rd rc 10 w v' xs) (hx : xs.length ≤ 100000) :
    Calls Try.prog 13 #[v, v'] w fun e w' => e = .returned (.bool true) ∧ Below w.heap.size w w' := by
  obtain ⟨q, c, rfl, k1⟩ := h1
  obtain ⟨q', c', rfl, k2⟩ := h2
  have K1 := Lib.hid k1
  have K2 := Lib.hid k2
  clear k1 k2
  go_enter Try.func13, Try.ntmps13
  go_wp2
  go_loopw [5] (fun v wr => ∃ k : Nat, v = .int .i64 k ∧ k ≤ xs.length ∧ ∃ n, wr = w.drewN n) (fun v _ => xs.length - (intOf v).toNat)
  case atStart => exact ⟨0, rfl, Nat.zero_le _, 0, rfl⟩
  case round =>
    obtain ⟨k, rfl, hk, nd, rfl⟩ := hrel
    by_cases hlt : k < xs.length
    · have g1 : decide ((k : Int) < (xs.length : Int)) = true := by simp [hlt]
      have W1 : IntKind.i64.wrap ((k : Int) + 1) = ((k + 1 : Nat) : Int) := by rw [IntWalk.i64_in _ (by omega)]; omega
      obtain ⟨g, rfl, c1⟩ := K1.out k hlt
      obtain ⟨g', rfl, c2⟩ := K2.out k hlt
      have a0 := c1 0 (by omega)
      have a1 := c1 1 (by omega)
      have a2 := c1 2 (by omega)
      have a3 := c1 3 (by omega)
      have a4 := c1 4 (by omega)
      have a5 := c1 5 (by omega)
      have a6 := c1 6 (by omega)
      have a7 := c1 7 (by omega)
      have a8 := c1 8 (by omega)
      have a9 := c1 9 (by omega)
      have b0 := c2 0 (by omega)
      have b1 := c2 1 (by omega)
      have b2 := c2 2 (by omega)
      have b3 := c2 3 (by omega)
      have b4 := c2 4 (by omega)
      have b5 := c2 5 (by omega)
      have b6 := c2 6 (by omega)
      have b7 := c2 7 (by omega)
      have b8 := c2 8 (by omega)
      have b9 := c2 9 (by omega)
      have HQ := fun W => ne30_same xs[k] W
      clear c1 c2
      generalize xs[k] = x at *
      obtain ⟨p1a, ⟨p1b, p1c⟩, ⟨p1d, p1e, p1f⟩, ⟨p1g, p1h, p1i⟩, p1j⟩ := x
      replace a0 : w.cell? ⟨g, k * 10, none⟩ = some (.string p1a) := a0
      replace b0 : w.cell? ⟨g', k * 10, none⟩ = some (.string p1a) := b0
      replace a1 : w.cell? ⟨g, k * 10 + 1, none⟩ = some (.int .i64 p1b) := a1
      replace b1 : w.cell? ⟨g', k * 10 + 1, none⟩ = some (.int .i64 p1b) := b1
      replace a2 : w.cell? ⟨g, k * 10 + 2, none⟩ = some (.int .i64 p1c) := a2
      replace b2 : w.cell? ⟨g', k * 10 + 2, none⟩ = some (.int .i64 p1c) := b2
      replace a3 : w.cell? ⟨g, k * 10 + 3, none⟩ = some (.int .i64 p1d) := a3
      replace b3 : w.cell? ⟨g', k * 10 + 3, none⟩ = some (.int .i64 p1d) := b3
      replace a4 : w.cell? ⟨g, k * 10 + 4, none⟩ = some (.int .i64 p1e) := a4
      replace b4 : w.cell? ⟨g', k * 10 + 4, none⟩ = some (.int .i64 p1e) := b4
      replace a5 : w.cell? ⟨g, k * 10 + 5, none⟩ = some (.int .i64 p1f) := a5
      replace b5 : w.cell? ⟨g', k * 10 + 5, none⟩ = some (.int .i64 p1f) := b5
      replace a6 : w.cell? ⟨g, k * 10 + 6, none⟩ = some (.int .i64 p1g) := a6
      replace b6 : w.cell? ⟨g', k * 10 + 6, none⟩ = some (.int .i64 p1g) := b6
      replace a7 : w.cell? ⟨g, k * 10 + 7, none⟩ = some (.int .i64 p1h) := a7
      replace b7 : w.cell? ⟨g', k * 10 + 7, none⟩ = some (.int .i64 p1h) := b7
      replace a8 : w.cell? ⟨g, k * 10 + 8, none⟩ = some (.int .i64 p1i) := a8
      replace b8 : w.cell? ⟨g', k * 10 + 8, none⟩ = some (.int .i64 p1i) := b8
      replace a9 : w.cell? ⟨g, k * 10 + 9, none⟩ = some (.int .i64 p1j) := a9
      replace b9 : w.cell? ⟨g', k * 10 + 9, none⟩ = some (.int .i64 p1j) := b9
      have hne : ∀ W, (binOp .neq 30 (.agg #[.string p1a, .int .i64 p1b, .int .i64 p1c, .int .i64 p1d, .int .i64 p1e, .int .i64 p1f, .int .i64 p1g, .int .i64 p1h, .int .i64 p1i, .int .i64 p1j]) (.agg #[.string p1a, .int .i64 p1b, .int .i64 p1c, .int .i64 p1d, .int .i64 p1e, .int .i64 p1f, .int .i64 p1g, .int .i64 p1h, .int .i64 p1i, .int .i64 p1j])).run Try.prog W = .ok (.bool false) W := HQ
      clear HQ
      have q1 : (0 : Int) ≤ (k : Int) := by omega
      have q2 : (k : Int) < (xs.length : Int) := by omega
      go_wp2_with fail
      go_quiet (fail)
      go_wp2
      exact ⟨⟨k + 1, rfl, hlt, _, rfl⟩, by simp [intOf]; omega⟩
    · have g1 : decide ((k : Int) < (xs.length : Int)) = false := by simp; omega
      go_wp2
      go_ret
      exact ⟨rfl, below_drewN (Below.refl _ _) _⟩
end Go.Proofs.Ytfkcogocaecodaa
