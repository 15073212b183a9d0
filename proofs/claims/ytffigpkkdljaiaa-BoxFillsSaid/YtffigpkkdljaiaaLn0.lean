/- The nearest points of two boxes: pure. -/
import Derived.Test.YtffigpkkdljaiaaWi0
import Derived.Test.YtffigpkkdljaiaaWi1
import Derived.Test.YtffigpkkdljaiaaRb
namespace Go.Proofs.Ytffigpkkdljaiaa
open Go.ChangeShapes Go.WideShapes Go.ChangeAt Go.RowKit
set_option linter.unusedVariables false
set_option linter.unusedSimpArgs false

/-- Of one axis: nearest numbers, and what no other two can be nearer than. -/
theorem near_axis {p1 p2 q1 q2 : Int} (h1 : p1 ≤ p2) (h2 : q1 ≤ q2) :
    (p1 ≤ (nearS p1 p2 q1 q2).1 ∧ (nearS p1 p2 q1 q2).1 ≤ p2) ∧ (q1 ≤ (nearS p1 p2 q1 q2).2 ∧ (nearS p1 p2 q1 q2).2 ≤ q2) ∧
    ((nearS p1 p2 q1 q2).1 - (nearS p1 p2 q1 q2).2 = - max 0 (gapS p1 p2 q1 q2) ∨ (nearS p1 p2 q1 q2).1 - (nearS p1 p2 q1 q2).2 = max 0 (gapS p1 p2 q1 q2)) := by
  unfold nearS gapS
  rw [mx_mx, mx_mx]
  split
  · simp only; omega
  · split
    · simp only; omega
    · simp only; omega
theorem near_sym {p1 p2 q1 q2 : Int} (h1 : p1 ≤ p2) (h2 : q1 ≤ q2) : nearS q1 q2 p1 p2 = ((nearS p1 p2 q1 q2).2, (nearS p1 p2 q1 q2).1) := by
  unfold nearS
  rw [mx_mx, mx_mx]
  split
  · split
    · omega
    · rfl
  · split
    · rfl
    · simp only [Prod.mk.injEq]; omega
theorem gap_sym (p1 p2 q1 q2 : Int) : gapS q1 q2 p1 p2 = gapS p1 p2 q1 q2 := by unfold gapS; rw [mx_mx, mx_mx]; omega
theorem sq_of {d m : Int} (h : d = - max 0 m ∨ d = max 0 m) : d * d = pq m := by
  rw [← pq_max]
  rcases h with rfl | rfl
  · rw [Int.neg_mul_neg]
  · rfl
theorem sq_le {d m : Int} (h : m ≤ d ∨ m ≤ -d) : pq m ≤ d * d := by
  unfold pq
  have hn : 0 ≤ d * d := by
    rcases Int.le_total 0 d with h | h
    · exact Int.mul_nonneg h h
    · have := Int.mul_nonneg (show 0 ≤ -d by omega) (show 0 ≤ -d by omega); rwa [Int.neg_mul_neg] at this
  split
  · rename_i hp
    rcases h with h | h
    · exact Int.mul_le_mul h h (by omega) (by omega)
    · have := Int.mul_le_mul h h (by omega) (by omega); rwa [Int.neg_mul_neg] at this
  · exact hn
theorem far_axis {p1 p2 q1 q2 s t : Int} (hs : p1 ≤ s ∧ s ≤ p2) (ht : q1 ≤ t ∧ t ≤ q2) : pq (gapS p1 p2 q1 q2) ≤ (s - t) * (s - t) := by
  apply sq_le
  unfold gapS; rw [mx_mx]; omega
/-- The point lies in the box. -/
def Pin (x : Bx) (a b c : Int) : Prop := (x.a ≤ a ∧ a ≤ x.d) ∧ (x.b ≤ b ∧ b ≤ x.e) ∧ (x.c ≤ c ∧ c ≤ x.f)
theorem far_pts {x y : Bx} {a b c a' b' c' : Int} (h : Pin x a b c) (k : Pin y a' b' c') : sqB x y ≤ sqP a b c a' b' c' := by
  have h0 := far_axis h.1 k.1
  have h1 := far_axis h.2.1 k.2.1
  have h2 := far_axis h.2.2 k.2.2
  unfold sqB sqP gp
  simp only [Bx.side]
  omega
theorem near_pin {x y : Bx} (hx : x.ok = true) (hy : y.ok = true) : Pin x (nr x y 0).1 (nr x y 1).1 (nr x y 2).1 ∧ Pin y (nr x y 0).2 (nr x y 1).2 (nr x y 2).2 := by
  have h1 := Bx.ok_t hx
  have h2 := Bx.ok_t hy
  have n0 := near_axis h1.1.2.1 h2.1.2.1
  have n1 := near_axis h1.2.1.2.1 h2.2.1.2.1
  have n2 := near_axis h1.2.2.2.1 h2.2.2.2.1
  exact ⟨⟨n0.1, n1.1, n2.1⟩, ⟨n0.2.1, n1.2.1, n2.2.1⟩⟩
theorem near_sq {x y : Bx} (hx : x.ok = true) (hy : y.ok = true) : sqP (nr x y 0).1 (nr x y 1).1 (nr x y 2).1 (nr x y 0).2 (nr x y 1).2 (nr x y 2).2 = sqB x y := by
  have h1 := Bx.ok_t hx
  have h2 := Bx.ok_t hy
  have n0 := sq_of (near_axis h1.1.2.1 h2.1.2.1).2.2
  have n1 := sq_of (near_axis h1.2.1.2.1 h2.2.1.2.1).2.2
  have n2 := sq_of (near_axis h1.2.2.2.1 h2.2.2.2.1).2.2
  unfold sqP sqB gp nr
  simp only [Bx.side]
  rw [n0, n1, n2]
theorem near_rev {x y : Bx} (hx : x.ok = true) (hy : y.ok = true) (i : Nat) : nr y x i = ((nr x y i).2, (nr x y i).1) := by
  have h1 := Bx.ok_t hx
  have h2 := Bx.ok_t hy
  unfold nr
  rcases i with _ | _ | i
  all_goals (simp only [Bx.side]; exact near_sym (by omega) (by omega))
theorem sq_rev (x y : Bx) : sqB y x = sqB x y := by
  have g := fun i => gap_sym (x.side i).1 (x.side i).2 (y.side i).1 (y.side i).2
  unfold sqB gp
  rw [g 0, g 1, g 2]
theorem pin_con {x : Bx} {a b c : Int} (h : Pin x a b c) : conB x ⟨a, b, c, a, b, c⟩ = true := by
  rw [con_i]; unfold Pin at h; simp only; omega
theorem pin_ok {x : Bx} {a b c : Int} (hx : x.ok = true) (h : Pin x a b c) : Bx.ok ⟨a, b, c, a, b, c⟩ = true ∧ In6 a ∧ In6 b ∧ In6 c := by
  rw [Bx.ok_i] at *; unfold Pin at h; unfold In6; simp only; omega
theorem within_pin {x : Bx} {a b c : Int} (hx : x.ok = true) (ha : 0 ≤ a ∧ a ≤ 65535) (hb : 0 ≤ b ∧ b ≤ 65535) (hc : 0 ≤ c ∧ c ≤ 65535) : Pin x (atI x.a x.d a) (atI x.b x.e b) (atI x.c x.f c) := by
  have h := Bx.ok_t hx
  exact ⟨at_in h.1.2.1 ha.1 ha.2, at_in h.2.1.2.1 hb.1 hb.2, at_in h.2.2.2.1 hc.1 hc.2⟩
end Go.Proofs.Ytffigpkkdljaiaa
