/- Sets of indices as numbers: their bits, the least one, their size. -/
import Derived.Test.YtepcokgpepcccaaDoorLst
import Derived.Laws.Bits64
import Derived.Laws.Bits64b
namespace Go.Proofs.YtepcokgpepcccaaDoor
open Go.ChangeShapes Go.WideShapes Go.ChangeAt Go.RowKit
set_option linter.unusedVariables false
set_option linter.unusedSimpArgs false

/-- All numbers from b on, 2 ^ d of them, have p. -/
def chk (p : Nat → Bool) : Nat → Nat → Bool
  | 0, b => p b
  | d + 1, b => chk p d b && chk p d (b + 2 ^ d)
theorem chk_all (p : Nat → Bool) : ∀ (d b : Nat), chk p d b = true → ∀ n, b ≤ n → n < b + 2 ^ d → p n = true
  | 0, b, h, n, h1, h2 => by
    have : n = b := by simp at h2; omega
    subst this; exact h
  | d + 1, b, h, n, h1, h2 => by
    simp only [chk, Bool.and_eq_true] at h
    rw [Nat.pow_succ] at h2
    by_cases k : n < b + 2 ^ d
    · exact chk_all p d b h.1 n h1 k
    · exact chk_all p d _ h.2 n (by omega) (by omega)

/-- The number of indices of a set. -/
def cntF : Nat → Nat → Nat
  | 0, _ => 0
  | f + 1, s => s % 2 + cntF f (s / 2)
def pop (s : Nat) : Nat := cntF 10 s
/-- The least index of a set, as a set. -/
def low (s : Nat) : Nat := s &&& (18446744073709551616 - s)
def p1 (s : Int) : Int := IntKind.u64.wrap (bits BinOp.and IntKind.u64 (s / 2) 6148914691236517205 + bits BinOp.and IntKind.u64 s 6148914691236517205)
def p2 (s : Int) : Int := IntKind.u64.wrap (bits BinOp.and IntKind.u64 (s / 4) 3689348814741910323 + bits BinOp.and IntKind.u64 s 3689348814741910323)
def p3 (s : Int) : Int := bits BinOp.and IntKind.u64 (IntKind.u64.wrap (s / 16 + s)) 1085102592571150095
def p4 (s : Int) : Int := IntKind.u64.wrap (s + s / 256)
def p5 (s : Int) : Int := IntKind.u64.wrap (s + s / 65536)
def p6 (s : Int) : Int := IntKind.u64.wrap (s + s / 4294967296)
def p7 (s : Int) : Int := bits BinOp.and IntKind.i64 (wrap64 s) 127
theorem pops : ∀ s : Nat, s < 1024 → p7 (p6 (p5 (p4 (p3 (p2 (p1 s)))))) = pop s := by
  have h : chk (fun s => decide (p7 (p6 (p5 (p4 (p3 (p2 (p1 (s : Nat))))))) = pop s)) 10 0 = true := by decide +kernel
  intro s hs
  exact of_decide_eq_true (chk_all _ 10 0 h s (Nat.zero_le _) (by omega))
theorem tries (s : Nat) (hs : s < 1024) (w : World) : Calls Tryd.prog 91 #[.int .u64 s] w fun e w' => e = .returned (.int .i64 (pop s)) ∧ w' = w := by
  have H := pops s hs
  obtain ⟨a1, k1⟩ : ∃ a, p1 s = a := ⟨_, rfl⟩
  obtain ⟨a2, k2⟩ : ∃ a, p2 a1 = a := ⟨_, rfl⟩
  obtain ⟨a3, k3⟩ : ∃ a, p3 a2 = a := ⟨_, rfl⟩
  obtain ⟨a4, k4⟩ : ∃ a, p4 a3 = a := ⟨_, rfl⟩
  obtain ⟨a5, k5⟩ : ∃ a, p5 a4 = a := ⟨_, rfl⟩
  obtain ⟨a6, k6⟩ : ∃ a, p6 a5 = a := ⟨_, rfl⟩
  rw [k1, k2, k3, k4, k5, k6] at H
  have HH := Lib.hid H
  clear H
  unfold p1 at k1; unfold p2 at k2; unfold p3 at k3; unfold p4 at k4; unfold p5 at k5; unfold p6 at k6
  go_enter Tryd.func91, Tryd.ntmps91
  go_wp2
  go_ret
  exact ⟨ret_one HH.out, rfl⟩
theorem pop_any (s : Nat) (hs : s < 1024) (w : World) : Calls Tryd.prog 82 #[.int .u64 s] w fun e w' => e = .returned (.int .i64 (pop s)) ∧ w' = w := by
  go_enter Tryd.func82, Tryd.ntmps82
  go_wp2_with (go_at_call 91; (with_reducible refine (tries s hs _).mono ?_); rintro e1 w1 ⟨rfl, rfl⟩)
  go_ret
  exact ⟨rfl, rfl⟩
theorem lows : ∀ s : Nat, s < 1024 → bits BinOp.and IntKind.u64 (s : Int) (IntKind.u64.wrap (-(s : Int))) = low s := by
  have h : chk (fun s => decide (bits BinOp.and IntKind.u64 (s : Int) (IntKind.u64.wrap (-(s : Int))) = low s)) 10 0 = true := by decide +kernel
  intro s hs
  exact of_decide_eq_true (chk_all _ 10 0 h s (Nat.zero_le _) (by omega))
theorem low_any (s : Nat) (hs : s < 1024) (w : World) : Calls Tryd.prog 59 #[.int .u64 s] w fun e w' => e = .returned (.int .u64 (low s)) ∧ w' = w := by
  have H := lows s hs
  go_enter Tryd.func59, Tryd.ntmps59
  go_wp2
  go_ret
  exact ⟨rfl, rfl⟩
theorem hass : ∀ s : Nat, s < 1024 → ∀ i, i < 10 → (bits BinOp.and IntKind.i64 ((s : Int) / 2 ^ i) 1 == 1) = s.testBit i := by
  have h : chk (fun s => (List.range 10).all fun i => decide ((bits BinOp.and IntKind.i64 ((s : Int) / 2 ^ i) 1 == 1) = s.testBit i)) 10 0 = true := by decide +kernel
  intro s hs i hi
  have k := chk_all _ 10 0 h s (Nat.zero_le _) (by omega)
  exact of_decide_eq_true (List.all_eq_true.1 k i (List.mem_range.2 hi))
theorem has_any (s i : Nat) (hs : s < 1024) (hi : i < 10) (w : World) : Calls Tryd.prog 50 #[.int .i64 s, .int .i64 i] w fun e w' => e = .returned (.bool (s.testBit i)) ∧ w' = w := by
  have H := hass s hs i hi
  go_enter Tryd.func50, Tryd.ntmps50
  go_wp2
  go_ret
  exact ⟨rfl, rfl⟩
def prec (s t : Nat) : Bool := (s &&& low (s ^^^ t)) != 0
theorem low_lt : ∀ s, s < 1024 → low s < 1024 := by
  have h : chk (fun s => decide (low s < 1024)) 10 0 = true := by decide +kernel
  intro s hs
  exact of_decide_eq_true (chk_all _ 10 0 h s (Nat.zero_le _) (by omega))
theorem prec_any (s t : Nat) (hs : s < 1024) (ht : t < 1024) (w : World) : Calls Tryd.prog 70 #[.int .u64 s, .int .u64 t] w fun e w' => e = .returned (.bool (prec s t)) ∧ w' = w := by
  have hx : s ^^^ t < 1024 := Nat.xor_lt_two_pow (n := 10) hs ht
  have hl : low (s ^^^ t) < 1024 := low_lt _ hx
  have H1 := bits_xor_u64_nat s t (by omega) (by omega)
  have H2 := bits_and_u64_nat s (low (s ^^^ t)) (by omega) (by omega)
  obtain ⟨x, ex⟩ : ∃ x, x = s ^^^ t := ⟨_, rfl⟩
  obtain ⟨y, ey⟩ : ∃ y, y = low x := ⟨_, rfl⟩
  obtain ⟨z, ez⟩ : ∃ z, z = s &&& y := ⟨_, rfl⟩
  have hc := low_any x (by rw [ex]; exact hx)
  rw [← ey] at hc
  rw [← ex, ← ey, ← ez] at H2
  rw [← ex] at H1
  have e : prec s t = (z != 0) := by unfold prec; rw [← ex, ← ey, ← ez]
  rw [e]
  clear e ex ey ez
  go_enter Tryd.func70, Tryd.ntmps70
  go_wp2_with (go_at_call 59; (with_reducible refine (hc _).mono ?_); rintro e1 w1 ⟨rfl, rfl⟩)
  go_ret
  have k : ((z : Int) != 0) = (z != 0) := by
    rw [Bool.eq_iff_iff, bne_iff_ne, bne_iff_ne]
    omega
  exact ⟨congrArg (fun b => Ending.returned (Value.bool b)) k, rfl⟩
def bef (s t : Nat) : Bool := decide (pop s < pop t) || decide (pop s = pop t) && prec s t
theorem bef_any (s t : Nat) (hs : s < 1024) (ht : t < 1024) (w : World) : Calls Tryd.prog 69 #[.int .u64 s, .int .u64 t] w fun e w' => e = .returned (.bool (bef s t)) ∧ w' = w := by
  have h1 := pop_any s hs
  have h2 := pop_any t ht
  have h3 := prec_any s t hs ht
  have e : bef s t = (decide (pop s < pop t) || decide (pop s = pop t) && prec s t) := rfl
  rw [e]
  obtain ⟨a, ea⟩ : ∃ a, pop s = a := ⟨_, rfl⟩
  obtain ⟨b, eb⟩ : ∃ b, pop t = b := ⟨_, rfl⟩
  obtain ⟨c, ec⟩ : ∃ c, prec s t = c := ⟨_, rfl⟩
  rw [ea] at h1; rw [eb] at h2; rw [ec] at h3; rw [ea, eb, ec]
  clear e ea eb ec
  go_enter Tryd.func69, Tryd.ntmps69
  by_cases k1 : a < b
  · have g1 : decide ((a : Int) < (b : Int)) = true := by simp; omega
    go_wp2_with (first | (go_at_call 82; (with_reducible refine (h1 _).mono ?_); rintro e1 w1 ⟨rfl, rfl⟩) | (go_at_call 82; (with_reducible refine (h2 _).mono ?_); rintro e1 w1 ⟨rfl, rfl⟩) | (go_at_call 70; (with_reducible refine (h3 _).mono ?_); rintro e1 w1 ⟨rfl, rfl⟩))
    go_ret
    exact ⟨by simp [k1], rfl⟩
  · have g1 : decide ((a : Int) < (b : Int)) = false := by simp; omega
    by_cases k2 : a = b
    · have g2 : ((a : Int) == (b : Int)) = true := by simp; omega
      go_wp2_with (first | (go_at_call 82; (with_reducible refine (h1 _).mono ?_); rintro e1 w1 ⟨rfl, rfl⟩) | (go_at_call 82; (with_reducible refine (h2 _).mono ?_); rintro e1 w1 ⟨rfl, rfl⟩) | (go_at_call 70; (with_reducible refine (h3 _).mono ?_); rintro e1 w1 ⟨rfl, rfl⟩))
      go_ret
      exact ⟨by simp [k2], rfl⟩
    · have g2 : ((a : Int) == (b : Int)) = false := by simp; omega
      go_wp2_with (first | (go_at_call 82; (with_reducible refine (h1 _).mono ?_); rintro e1 w1 ⟨rfl, rfl⟩) | (go_at_call 82; (with_reducible refine (h2 _).mono ?_); rintro e1 w1 ⟨rfl, rfl⟩) | (go_at_call 70; (with_reducible refine (h3 _).mono ?_); rintro e1 w1 ⟨rfl, rfl⟩))
      go_ret
      exact ⟨by simp [k1, k2], rfl⟩
end Go.Proofs.YtepcokgpepcccaaDoor
