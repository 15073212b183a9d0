/- What boxes have in common: pure; the hull of two. -/
import Derived.Test.YtffigpkkdljaiaaHu
namespace Go.Proofs.Ytffigpkkdljaiaa
open Go.ChangeShapes Go.WideShapes Go.ChangeAt Go.RowKit
set_option linter.unusedVariables false
set_option linter.unusedSimpArgs false

theorem mx_mx (a b : Int) : mx a b = max a b := by unfold mx; split <;> omega
theorem mn_mn (a b : Int) : mn a b = min a b := by unfold mn; split <;> omega
theorem Bx.ok_i {x : Bx} : x.ok = true ↔ (-1048576 ≤ x.a ∧ x.a ≤ x.d ∧ x.d ≤ 1048576) ∧ (-1048576 ≤ x.b ∧ x.b ≤ x.e ∧ x.e ≤ 1048576) ∧ (-1048576 ≤ x.c ∧ x.c ≤ x.f ∧ x.f ≤ 1048576) := vB_t
theorem con_i {x y : Bx} : conB x y = true ↔ (x.a ≤ y.a ∧ y.d ≤ x.d) ∧ (x.b ≤ y.b ∧ y.e ≤ x.e) ∧ (x.c ≤ y.c ∧ y.f ≤ x.f) := by
  unfold conB conS
  simp only [Bool.and_eq_true, decide_eq_true_eq, and_assoc]
theorem gapB_max (x y : Bx) : gapB x y = max (max (max (y.a - x.d) (x.a - y.d)) (max (y.b - x.e) (x.b - y.e))) (max (y.c - x.f) (x.c - y.f)) := by
  simp only [gapB, gp, gapS, Bx.side, mx_mx]
theorem meet_gap {x y : Bx} (hx : x.ok = true) (hy : y.ok = true) : (meetB x y).ok = true ↔ gapB x y ≤ 0 := by
  rw [Bx.ok_i] at *
  rw [gapB_max]
  simp only [meetB, mx_mx, mn_mn]
  omega
theorem pq_pos {x : Int} : pq x = 0 ↔ x ≤ 0 := by
  unfold pq
  split
  · rename_i h
    have := Int.mul_pos h h
    omega
  · omega
theorem sq_gap {x y : Bx} (hx : x.ok = true) (hy : y.ok = true) : sqB x y = 0 ↔ gapB x y ≤ 0 := by
  have p0 := pq_b (gp_b hx hy 0)
  have p1 := pq_b (gp_b hx hy 1)
  have p2 := pq_b (gp_b hx hy 2)
  have k0 := @pq_pos (gp x y 0)
  have k1 := @pq_pos (gp x y 1)
  have k2 := @pq_pos (gp x y 2)
  unfold sqB gapB
  rw [mx_mx, mx_mx]
  omega
theorem hull_ok2 {x y : Bx} (hx : x.ok = true) (hy : y.ok = true) : (hullB x y).ok = true := by
  rw [Bx.ok_i] at *
  simp only [hullB, mx_mx, mn_mn]
  omega
theorem hull_l (x y : Bx) : conB (hullB x y) x = true := by
  rw [con_i]; simp only [hullB, mx_mx, mn_mn]; omega
theorem hull_r (x y : Bx) : conB (hullB x y) y = true := by
  rw [con_i]; simp only [hullB, mx_mx, mn_mn]; omega
theorem meet_l (x y : Bx) : conB x (meetB x y) = true := by
  rw [con_i]; simp only [meetB, mx_mx, mn_mn]; omega
theorem meet_r (x y : Bx) : conB y (meetB x y) = true := by
  rw [con_i]; simp only [meetB, mx_mx, mn_mn]; omega
theorem lit2_sl {w : World} {g : Nat} {x y : Bx} (h : Has w g 25 #[.int .i64 x.a, .int .i64 x.b, .int .i64 x.c, .int .i64 x.d, .int .i64 x.e, .int .i64 x.f, .int .i64 y.a, .int .i64 y.b, .int .i64 y.c, .int .i64 y.d, .int .i64 y.e, .int .i64 y.f]) : Sl w (some ⟨g, 0, none⟩) [x, y] := by
  refine ⟨by simp, fun a e => ?_, by unfold maxLen; simp⟩
  cases e
  intro i hi
  have r := fun j => h.read j
  rcases (by simp at hi; omega : i = 0 ∨ i = 1) with rfl | rfl
  · exact ⟨r 0, r 1, r 2, r 3, r 4, r 5⟩
  · exact ⟨r 6, r 7, r 8, r 9, r 10, r 11⟩
theorem has_new_at {w : World} {n : Nat} {t : TypeId} {cs : Array Value} (h : w.heap.size = n) : Has (w.alloc (.cells cs t)) n t cs := by subst h; exact Has.new_ _ _ _
theorem hull_lit (g : Nat) (x y : Bx) (w : World) (hx : x.ok = true) (hy : y.ok = true) (h : Has w g 25 #[.int .i64 x.a, .int .i64 x.b, .int .i64 x.c, .int .i64 x.d, .int .i64 x.e, .int .i64 x.f, .int .i64 y.a, .int .i64 y.b, .int .i64 y.c, .int .i64 y.d, .int .i64 y.e, .int .i64 y.f]) : Calls Try.prog 19 #[.slice (some ⟨g, 0, none⟩) 2 2] w fun e w' => e = .returned (.tuple #[(hullB x y).val, .int .i64 0]) ∧ Below w.heap.size w w' :=
  Hull_ok ⟨g, 0, none⟩ x [y] 2 w (lit2_sl h) (by simp [hx, hy]) (by simp)
end Go.Proofs.Ytffigpkkdljaiaa
