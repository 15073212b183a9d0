/- Valid turns, axes, units, and reckoning with points, of the program. -/
import Derived.Test.YtmfclelnaceonaaBas
import Derived.Test.YtmfclelnaceonaaEn
import Derived.Test.YtmfclelnaceonaaPl
import Derived.Test.YtmfclelnaceonaaP0
import Derived.Laws.StructEq
import Derived.Deep.CutBlock
namespace Go.Proofs.Ytmfclelnaceonaa
open Go.ChangeShapes Go.WideShapes Go.ChangeAt Go.RowKit
set_option linter.unusedVariables false
set_option linter.unusedSimpArgs false

def Pt.val (p : Pt) : Value := .agg #[.int .i64 p.x, .int .i64 p.y, .int .i64 p.z]
def Pt.cs (p : Pt) : Array Value := #[.int .i64 p.x, .int .i64 p.y, .int .i64 p.z]
def Tn.val (t : Tn) : Value := .agg #[.int .i64 t.x, .int .i64 t.y]
def Tn.cs (t : Tn) : Array Value := #[.int .i64 t.x, .int .i64 t.y]
def tv (a b : Int) : Value := .agg #[.int .i64 a, .int .i64 b]
def pv (a b c : Int) : Value := .agg #[.int .i64 a, .int .i64 b, .int .i64 c]
def Tn.ok (t : Tn) : Prop := I64 t.x ∧ I64 t.y
def Pt.ok (p : Pt) : Prop := I64 p.x ∧ I64 p.y ∧ I64 p.z
theorem envb {w0 w : World} {l : List Fb} (h : Env w0 w l) : Below w0.heap.size w0 w := h.1
theorem i64w {n : Int} (h : I64 n) : IntKind.i64.wrap n = n := IntWalk.i64_in _ (by unfold I64 at h; omega)
theorem mulb {a b A B : Int} (ha : -A ≤ a ∧ a ≤ A) (hb : -B ≤ b ∧ b ≤ B) : -(A * B) ≤ a * b ∧ a * b ≤ A * B := by
  have h1 : a.natAbs ≤ A.natAbs := by omega
  have h2 : b.natAbs ≤ B.natAbs := by omega
  have h3 : (a * b).natAbs ≤ (A * B).natAbs := by rw [Int.natAbs_mul, Int.natAbs_mul]; exact Nat.mul_le_mul h1 h2
  have h4 : 0 ≤ A * B := Int.mul_nonneg (by omega) (by omega)
  omega
theorem setB_num (k : Nat) (l : List Fb) (i : Nat) (u : Value) : numB k (setB i u k l) = numB k l := by
  induction l generalizing k with
  | nil => cases k <;> rfl
  | cons x l ih => cases k with
    | zero => rfl
    | succ k => exact ih k
theorem setB_len (k : Nat) (l : List Fb) (i : Nat) (u : Value) : (setB i u k l).length = l.length := by
  have := congrArg List.length (setB_g i u k l); simpa using this
theorem Env.two {w0 w : World} {l : List Fb} (u0 u1 : Value) (h : Env w0 w l) (k : Nat) (hb : Nat.blt k l.length = true) :
    Env w0 ((w.setCell ⟨numB k l, 0, none⟩ u0).setCell ⟨numB k l, 1, none⟩ u1) (setB 1 u1 k (setB 0 u0 k l)) := by
  have h0 := h.put k 0 u0 hb
  have h1 := h0.put k 1 u1 (by rw [setB_len]; exact hb)
  simp only [setB_num] at h1
  exact h1
theorem Env.three {w0 w : World} {l : List Fb} (u0 u1 u2 : Value) (h : Env w0 w l) (k : Nat) (hb : Nat.blt k l.length = true) :
    Env w0 (((w.setCell ⟨numB k l, 0, none⟩ u0).setCell ⟨numB k l, 1, none⟩ u1).setCell ⟨numB k l, 2, none⟩ u2) (setB 2 u2 k (setB 1 u1 k (setB 0 u0 k l))) := by
  have h0 := h.put k 0 u0 hb
  have h1 := h0.put k 1 u1 (by rw [setB_len]; exact hb)
  have h2 := h1.put k 2 u2 (by rw [setB_len, setB_len]; exact hb)
  simp only [setB_num] at h2
  exact h2
theorem eq23 (a b c d : Int) (W : World) : (binOp .eql 23 (.agg #[.int .i64 a, .int .i64 b]) (.agg #[.int .i64 c, .int .i64 d])).run Try.prog W = .ok (.bool (decide (a = c ∧ b = d))) W := by
  rw [run_eql_struct, run_equalIn_agg (ht := by kernel_rfl) (hp := by kernel_rfl)]
  simp [go_sem, Program.fieldsOf, Try.underlying23]
  by_cases h1 : a = c <;> by_cases h2 : b = d <;> simp [h1, h2]
theorem axis_35 (n : Int) (w : World) : Calls Try.prog 35 #[.int .i64 n] w fun e w' => e = .returned (.bool (axB n)) ∧ w = w' := by
  unfold axB
  go_enter Try.func35, Try.ntmps35
  by_cases h1 : -3 ≤ n
  · by_cases h2 : n ≤ 3
    · by_cases h3 : n = 0
      · subst h3
        go_wp2
        go_ret
        exact ⟨rfl, rfl⟩
      · have e1 : decide (-3 ≤ n) = true := by simp [h1]
        have e2 : decide (n ≤ 3) = true := by simp [h2]
        have e3 : decide (n = 0) = false := by simp [h3]
        have e5 : (n == 0) = false := by simp [h3]
        have e4 : decide (n ≥ -3) = true := by simp; omega
        go_wp2
        go_ret
        exact ⟨by simp [h1, h2, h3], rfl⟩
    · have e1 : decide (-3 ≤ n) = true := by simp [h1]
      have e4 : decide (n ≥ -3) = true := by simp; omega
      have e2 : decide (n ≤ 3) = false := by simp [h2]
      go_wp2
      go_ret
      exact ⟨by simp [e1, e2], rfl⟩
  · have e1 : decide (-3 ≤ n) = false := by simp [h1]
    have e4 : decide (n ≥ -3) = false := by simp; omega
    go_wp2
    go_ret
    exact ⟨by simp [e1], rfl⟩
theorem axis_36 (n : Int) (w : World) : Calls Try.prog 36 #[.int .i64 n] w fun e w' => e = .returned (.bool (axB n)) ∧ w = w' := by
  unfold axB
  go_enter Try.func36, Try.ntmps36
  by_cases h1 : -3 ≤ n
  · by_cases h2 : n ≤ 3
    · by_cases h3 : n = 0
      · subst h3
        go_wp2
        go_ret
        exact ⟨rfl, rfl⟩
      · have e1 : decide (-3 ≤ n) = true := by simp [h1]
        have e2 : decide (n ≤ 3) = true := by simp [h2]
        have e3 : decide (n = 0) = false := by simp [h3]
        have e5 : (n == 0) = false := by simp [h3]
        have e4 : decide (n ≥ -3) = true := by simp; omega
        go_wp2
        go_ret
        exact ⟨by simp [h1, h2, h3], rfl⟩
    · have e1 : decide (-3 ≤ n) = true := by simp [h1]
      have e4 : decide (n ≥ -3) = true := by simp; omega
      have e2 : decide (n ≤ 3) = false := by simp [h2]
      go_wp2
      go_ret
      exact ⟨by simp [e1, e2], rfl⟩
  · have e1 : decide (-3 ≤ n) = false := by simp [h1]
    have e4 : decide (n ≥ -3) = false := by simp; omega
    go_wp2
    go_ret
    exact ⟨by simp [e1], rfl⟩
set_option maxRecDepth 100000 in
theorem valid_11 (t : Tn) (w : World) : Calls Try.prog 11 #[t.val] w fun e w' => e = .returned (.bool (vT t)) ∧ Below w.heap.size w w' := by
  obtain ⟨x, y⟩ := t
  have hx := fun W => axis_35 x W
  have hy := fun W => axis_35 y W
  have E := (Env.nil w).add w.heap.size 23 #[.int .i64 x, .int .i64 y] rfl
  have C := E.cells
  simp [BC, CF] at C
  unfold Tn.val vT
  dsimp only
  cases h1 : axB x
  · rw [h1] at hx
    clear h1 hy
    go_enter Try.func11, Try.ntmps11
    go_wp2_with (first
      | (go_at_call 35; (with_reducible refine (hx _).mono ?_); rintro e1 w1 ⟨rfl, rfl⟩))
    go_ret
    exact ⟨by simp, envb E⟩
  · rw [h1] at hx
    cases h2 : axB y
    · rw [h2] at hy
      clear h1 h2
      go_enter Try.func11, Try.ntmps11
      go_wp2_with (first
        | (go_at_call 35; (with_reducible refine (hx _).mono ?_); rintro e1 w1 ⟨rfl, rfl⟩)
        | (go_at_call 35; (with_reducible refine (hy _).mono ?_); rintro e1 w1 ⟨rfl, rfl⟩))
      go_ret
      exact ⟨by simp, envb E⟩
    · rw [h2] at hy
      have W1 : IntKind.i64.wrap (-y) = -y := by
        simp only [axB, Bool.and_eq_true, decide_eq_true_eq] at h2
        exact IntWalk.i64_in _ (by omega)
      by_cases h3 : x = y
      · subst h3
        go_enter Try.func11, Try.ntmps11
        go_wp2_with (first
          | (go_at_call 35; (with_reducible refine (hx _).mono ?_); rintro e1 w1 ⟨rfl, rfl⟩)
          | (go_at_call 35; (with_reducible refine (hy _).mono ?_); rintro e1 w1 ⟨rfl, rfl⟩))
        go_ret
        exact ⟨by simp, envb E⟩
      · have b3 : decide (x = y) = false := by simp [h3]
        have b4 : (x == y) = false := by simp [h3]
        have W2 : wrap64 (-y) = -y := by
          simp only [axB, Bool.and_eq_true, decide_eq_true_eq] at h2
          unfold wrap64; omega
        have W3 : IntKind.i64.wrap (-y) = -y := by
          simp only [axB, Bool.and_eq_true, decide_eq_true_eq] at h2
          exact IntWalk.i64_in _ (by omega)
        by_cases h5 : x = -y
        · have e7 : x = -y := by omega
          have b8 : decide (x = -y) = true := by simp [e7]
          have b9 : (x == -y) = true := by simp [e7]
          clear h5 h1 h2 e7
          go_enter Try.func11, Try.ntmps11
          go_wp2_with (first
            | (go_at_call 35; (with_reducible refine (hx _).mono ?_); rintro e1 w1 ⟨rfl, rfl⟩)
            | (go_at_call 35; (with_reducible refine (hy _).mono ?_); rintro e1 w1 ⟨rfl, rfl⟩))
          go_ret
          exact ⟨by simp only [W2, bne, b3, b4, b8, b9]; try rfl, envb E⟩
        · have e7 : ¬ x = -y := by omega
          have b8 : decide (x = -y) = false := by simp [e7]
          have b9 : (x == -y) = false := by simp [e7]
          clear h5 h1 h2
          go_enter Try.func11, Try.ntmps11
          go_wp2_with (first
            | (go_at_call 35; (with_reducible refine (hx _).mono ?_); rintro e1 w1 ⟨rfl, rfl⟩)
            | (go_at_call 35; (with_reducible refine (hy _).mono ?_); rintro e1 w1 ⟨rfl, rfl⟩))
          go_ret
          exact ⟨by simp [W2, e7, h3]; try omega, envb E⟩
set_option maxRecDepth 100000 in
theorem valid_12 (t : Tn) (w : World) : Calls Try.prog 12 #[t.val] w fun e w' => e = .returned (.bool (vT t)) ∧ Below w.heap.size w w' := by
  obtain ⟨x, y⟩ := t
  have hx := fun W => axis_36 x W
  have hy := fun W => axis_36 y W
  have E := (Env.nil w).add w.heap.size 23 #[.int .i64 x, .int .i64 y] rfl
  have C := E.cells
  simp [BC, CF] at C
  unfold Tn.val vT
  dsimp only
  cases h1 : axB x
  · rw [h1] at hx
    clear h1 hy
    go_enter Try.func12, Try.ntmps12
    go_wp2_with (first
      | (go_at_call 36; (with_reducible refine (hx _).mono ?_); rintro e1 w1 ⟨rfl, rfl⟩))
    go_ret
    exact ⟨by simp, envb E⟩
  · rw [h1] at hx
    cases h2 : axB y
    · rw [h2] at hy
      clear h1 h2
      go_enter Try.func12, Try.ntmps12
      go_wp2_with (first
        | (go_at_call 36; (with_reducible refine (hx _).mono ?_); rintro e1 w1 ⟨rfl, rfl⟩)
        | (go_at_call 36; (with_reducible refine (hy _).mono ?_); rintro e1 w1 ⟨rfl, rfl⟩))
      go_ret
      exact ⟨by simp, envb E⟩
    · rw [h2] at hy
      have W1 : IntKind.i64.wrap (0 - y) = 0 - y := by
        simp only [axB, Bool.and_eq_true, decide_eq_true_eq] at h2
        exact IntWalk.i64_in _ (by omega)
      by_cases h3 : x = y
      · subst h3
        go_enter Try.func12, Try.ntmps12
        go_wp2_with (first
          | (go_at_call 36; (with_reducible refine (hx _).mono ?_); rintro e1 w1 ⟨rfl, rfl⟩)
          | (go_at_call 36; (with_reducible refine (hy _).mono ?_); rintro e1 w1 ⟨rfl, rfl⟩))
        go_ret
        exact ⟨by simp, envb E⟩
      · have b3 : decide (x = y) = false := by simp [h3]
        have b4 : (x == y) = false := by simp [h3]
        have W2 : wrap64 (-y) = -y := by
          simp only [axB, Bool.and_eq_true, decide_eq_true_eq] at h2
          unfold wrap64; omega
        have W3 : IntKind.i64.wrap (-y) = -y := by
          simp only [axB, Bool.and_eq_true, decide_eq_true_eq] at h2
          exact IntWalk.i64_in _ (by omega)
        by_cases h5 : x = 0 - y
        · have e7 : x = -y := by omega
          have b8 : decide (x = -y) = true := by simp [e7]
          have b9 : (x == -y) = true := by simp [e7]
          clear h5 h1 h2 e7
          go_enter Try.func12, Try.ntmps12
          go_wp2_with (first
            | (go_at_call 36; (with_reducible refine (hx _).mono ?_); rintro e1 w1 ⟨rfl, rfl⟩)
            | (go_at_call 36; (with_reducible refine (hy _).mono ?_); rintro e1 w1 ⟨rfl, rfl⟩))
          go_ret
          exact ⟨by simp only [W2, bne, b3, b4, b8, b9]; try rfl, envb E⟩
        · have e7 : ¬ x = -y := by omega
          have b8 : decide (x = -y) = false := by simp [e7]
          have b9 : (x == -y) = false := by simp [e7]
          clear h5 h1 h2
          go_enter Try.func12, Try.ntmps12
          go_wp2_with (first
            | (go_at_call 36; (with_reducible refine (hx _).mono ?_); rintro e1 w1 ⟨rfl, rfl⟩)
            | (go_at_call 36; (with_reducible refine (hy _).mono ?_); rintro e1 w1 ⟨rfl, rfl⟩))
          go_ret
          exact ⟨by simp [W2, e7, h3]; try omega, envb E⟩
end Go.Proofs.Ytmfclelnaceonaa
