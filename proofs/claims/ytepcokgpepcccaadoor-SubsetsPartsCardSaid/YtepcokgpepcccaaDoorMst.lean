/- The program's table of most parts. -/
import Derived.Test.YtepcokgpepcccaaDoorSam
namespace Go.Proofs.YtepcokgpepcccaaDoor
open Go.ChangeShapes Go.WideShapes Go.ChangeAt Go.RowKit
set_option linter.unusedVariables false
set_option linter.unusedSimpArgs false

/-- The most of a set's cell while its indices below i are seen. -/
def mx (f : Nat → Nat) (s : Nat) : Nat → Nat
  | 0 => 0
  | i + 1 => if s.testBit i then max (mx f s i) (f (s - 2 ^ i)) else mx f s i
/-- The table when the sets below n are done. -/
def mtab (S : List Int) : Nat → Nat → Nat
  | 0 => fun _ => 0
  | n + 1 => upd (mtab S n) n (mx (mtab S n) n 10 + if n != 0 && S.getD n 0 == 0 then 1 else 0)
theorem bit_facts : ∀ s : Nat, s < 1024 → ∀ i : Nat, i < 11 → (bits BinOp.and IntKind.u64 ((s : Int) / 2 ^ i) 1 == 1) = s.testBit i ∧ ((((s : Int) / 2 ^ i) != 0) = decide (2 ^ i ≤ s)) ∧ (s.testBit i = true → bits BinOp.andNot IntKind.u64 (s : Int) (2 ^ i) = ((s - 2 ^ i : Nat) : Int) ∧ i < 10) := by
  have h : chk (fun s => (List.range 11).all fun i => decide ((bits BinOp.and IntKind.u64 ((s : Int) / 2 ^ i) 1 == 1) = s.testBit i ∧ ((((s : Int) / 2 ^ i) != 0) = decide (2 ^ i ≤ s)) ∧ (s.testBit i = true → bits BinOp.andNot IntKind.u64 (s : Int) (2 ^ i) = ((s - 2 ^ i : Nat) : Int) ∧ i < 10))) 10 0 = true := by decide +kernel
  intro s hs i hi
  have k := chk_all _ 10 0 h s (Nat.zero_le _) (by omega)
  exact of_decide_eq_true (List.all_eq_true.1 k i (List.mem_range.2 hi))
theorem mx_more (f : Nat → Nat) (s i j : Nat) (hs : s < 2 ^ i) (h : i ≤ j) : mx f s j = mx f s i := by
  induction j with
  | zero => have : i = 0 := by omega
            subst this; rfl
  | succ j ih =>
    by_cases k : i = j + 1
    · subst k; rfl
    · rw [mx, ih (by omega), Nat.testBit_lt_two_pow (Nat.lt_of_lt_of_le hs (Nat.pow_le_pow_right (by omega) (by omega)))]
      simp
theorem mx_le (f : Nat → Nat) (s m : Nat) (hf : ∀ i, f i ≤ m) : ∀ i, mx f s i ≤ m
  | 0 => Nat.zero_le _
  | i + 1 => by
    have h1 := mx_le f s m hf i
    have h2 := hf (s - 2 ^ i)
    rw [mx]; split <;> omega
theorem mtab_le (S : List Int) : ∀ n i, mtab S n i ≤ n
  | 0, _ => Nat.zero_le _
  | n + 1, i => by
    have ih := mtab_le S n
    have h := mx_le (mtab S n) n n ih 10
    rw [mtab]; unfold upd
    by_cases e : i = n
    · rw [if_pos e]; split <;> omega
    · rw [if_neg e]; have := ih i; omega
end Go.Proofs.YtepcokgpepcccaaDoor
