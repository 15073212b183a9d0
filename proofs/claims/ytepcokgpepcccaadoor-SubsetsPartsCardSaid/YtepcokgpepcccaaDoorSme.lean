/- What SubsetsFinds compares. -/
import Derived.Test.YtepcokgpepcccaaDoorRfs
namespace Go.Proofs.YtepcokgpepcccaaDoor
open Go.ChangeShapes Go.WideShapes Go.ChangeAt Go.RowKit
set_option linter.unusedVariables false
set_option linter.unusedSimpArgs false

theorem sums_getD (zs : List Int) (s : Nat) (h : s < 2 ^ zs.length) : (sums zs).getD s 0 = sm zs s zs.length := by
  have hs : s < (sums zs).length := by rw [sums_len]; exact h
  rw [← sums_at zs s hs]
  simp [List.getD, hs]
theorem fst_sum (zs : List Int) (sum : Int) : fst (bySum zs sum) (2 ^ zs.length) = fst (rby zs sum 0) (2 ^ zs.length) :=
  fst_cong _ fun s hs => by rw [bySum, rby, sums_getD zs s hs]; simp
theorem ixs_zero (n s : Nat) (hs : s < 2 ^ n) : decide (1 ≤ (ixs n s).length) = (s != 0) := by
  by_cases h : s = 0
  · subst h
    have : ixs n 0 = [] := by unfold ixs; simp
    rw [this]; rfl
  · have : ixs n s ≠ [] := fun e => h (by
      apply Nat.eq_of_testBit_eq
      intro i
      rw [Nat.zero_testBit]
      by_cases hi : i < n
      · cases hb : s.testBit i
        · rfl
        · have : i ∈ ixs n s := List.mem_filter.2 ⟨List.mem_range.2 hi, hb⟩
          rw [e] at this; cases this
      · exact Nat.testBit_lt_two_pow (Nat.lt_of_lt_of_le hs (Nat.pow_le_pow_right (by omega) (by omega))))
    have hp := List.length_pos_iff.2 this
    rw [decide_eq_true (by omega : 1 ≤ (ixs n s).length)]
    simp [h]
theorem fst_zero (zs : List Int) : fst (byZero zs) (2 ^ zs.length) = fst (rby zs 0 1) (2 ^ zs.length) :=
  fst_cong _ fun s hs => by rw [byZero, rby, sums_getD zs s hs, ixs_zero _ _ hs]
theorem same_none (bl : Nat) (w : World) :
    Calls Tryd.prog 21 #[.slice none 0 0, .int .i64 12, .int .i64 (-1), .pointer (some ⟨bl, 0, none⟩)] w fun e w' => e = .returned (.bool true) ∧ w' = w := by
  go_enter Tryd.func21, Tryd.ntmps21
  go_wp2
  go_ret
  exact ⟨rfl, rfl⟩
set_option maxRecDepth 100000 in
theorem same_some (bl b : Nat) (x u : Value) (zs : List Int) (w : World) (hb : b < 2 ^ zs.length) (hl : zs.length ≤ 10) (hx : Rdz w x (toZ (ixs 10 b))) (hR : Rdz w u zs) (hc : w.cell? ⟨bl, 0, none⟩ = some u) :
    Calls Tryd.prog 21 #[x, .int .i64 0, .int .i64 b, .pointer (some ⟨bl, 0, none⟩)] w fun e w' => e = .returned (.bool true) ∧ Below w.heap.size w w' := by
  have h10 : 2 ^ zs.length ≤ 1024 := Nat.pow_le_pow_right (n := 2) (by omega) hl
  rw [ixs_more zs.length 10 b hb hl] at hx
  obtain ⟨X, hX⟩ : ∃ X, X = toZ (ixs zs.length b) := ⟨_, rfl⟩
  have hI := rind_rd u zs b X w hX hR hl (by omega)
  rw [← hX] at hx
  have hXl : X.length ≤ 100 := by rw [hX, toZ_len]; exact Nat.le_trans (ixs_len _ _) (by omega)
  have hE := fun v w a c => equal_any x v X X w a c (by omega)
  rw [decide_eq_true (rfl : X = X)] at hE
  have g : decide ((b : Int) < 0) = false := by simp
  clear hX
  go_enter Tryd.func21, Tryd.ntmps21
  go_wp2_with (first
    | (go_at_call 17; (with_reducible refine hI.mono ?_); rintro e1 w1 ⟨q, c, rfl, h1, hb1⟩)
    | (go_at_call 14; (with_reducible refine (hE _ _ (hx.on hb1) h1).mono ?_); rintro e2 w2 ⟨rfl, n, rfl⟩))
  go_ret
  exact ⟨rfl, below_drewN hb1 _⟩
end Go.Proofs.YtepcokgpepcccaaDoor
