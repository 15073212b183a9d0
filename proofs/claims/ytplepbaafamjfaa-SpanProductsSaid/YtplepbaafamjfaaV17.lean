/- The reference's Part, case by case. -/
import Derived.Test.YtplepbaafamjfaaV16
import Derived.Test.YtplepbaafamjfaaRd
namespace Go.Proofs.Ytplepbaafamjfaa
open Go.ChangeShapes Go.WideShapes Go.ChangeAt Go.RowKit
set_option linter.unusedVariables false
set_option linter.unusedSimpArgs false

/-- The magnitude that Part ends with, and what Part returns. -/
def ptQ (n num den : Int) (up : Bool) : Int := if ¬ sR n num den = 0 ∧ sM n num den ≠ up then sQ n num den + 1 else sQ n num den
def partR (n num den : Int) (up : Bool) : Int × Bool := if 1152921504606846976 < ptQ n num den up then (0, false) else (if sM n num den then -(ptQ n num den up) else ptQ n num den up, true)
theorem ptQ_b {n num den : Int} {up : Bool} (n1 : -1152921504606846976 ≤ n) (n2 : n ≤ 1152921504606846976) (m1 : -1152921504606846976 ≤ num) (m2 : num ≤ 1152921504606846976) (d0 : den ≠ 0) :
    0 ≤ sQ n num den ∧ sQ n num den ≤ 1329227995784915872903807060280344576 ∧ 0 ≤ sR n num den := by
  have A0 : 0 ≤ ab n * ab num := Int.mul_nonneg (ab_nn _) (ab_nn _)
  have A1 : ab n * ab num ≤ 1152921504606846976 * 1152921504606846976 := Int.mul_le_mul (by unfold ab; omega) (by unfold ab; omega) (ab_nn _) (by omega)
  have k := sQ_nn n num den
  have : sQ n num den ≤ ab n * ab num := by unfold sQ; exact Int.ediv_le_self _ A0
  omega
theorem refSize_p (n s : Int) (w : World) (h1 : -1152921504606846976 ≤ n) (h2 : n ≤ 1152921504606846976) (e : ab n = s) : Calls Try.prog 58 #[.int .i64 n] w fun e w' => e = .returned (.int .u64 s) ∧ w = w' := by
  subst e; exact refSize_any n w (by omega) (by omega)

structure Wb where
  g : Nat
  a : Int
  b : Int
def BlkW (w : World) : List Wb → Prop
  | [] => True
  | x :: l => Has w x.g 69 #[.int .u64 x.a, .int .u64 x.b] ∧ BlkW w l
def BW (w : World) : List Wb → Prop
  | [] => True
  | x :: l => (w.cell? ⟨x.g, 0, none⟩ = some (.int .u64 x.a) ∧ w.cell? ⟨x.g, 1, none⟩ = some (.int .u64 x.b) ∧ x.g < w.heap.size ∧ w.frozen? ⟨x.g, 0, none⟩ = false ∧ w.frozen? ⟨x.g, 1, none⟩ = false) ∧ BW w l
theorem BlkW.cells {w : World} : ∀ {l : List Wb}, BlkW w l → BW w l
  | [], _ => trivial
  | _ :: _, h => ⟨⟨h.1.read 0, h.1.read 1, h.1.size_, h.1.open_ 0, h.1.open_ 1⟩, BlkW.cells h.2⟩
theorem BlkW.on {w w1 : World} (hb : Below w.heap.size w w1) : ∀ {l : List Wb}, BlkW w l → BlkW w1 l
  | [], _ => trivial
  | _ :: _, h => ⟨h.1.on hb, BlkW.on hb h.2⟩
def EnvW (w0 w : World) (l : List Wb) : Prop := Below w0.heap.size w0 w ∧ BlkW w l
theorem EnvW.on {w0 w w1 : World} {l : List Wb} (h : EnvW w0 w l) (hb : Below w.heap.size w w1) : EnvW w0 w1 l := ⟨belows h.1 hb, h.2.on hb⟩
theorem EnvW.cells {w0 w : World} {l : List Wb} (h : EnvW w0 w l) : BW w l := h.2.cells
theorem envW_nil (w : World) : EnvW w w [] := ⟨Below.refl _ _, trivial⟩
theorem EnvW.add {w0 w : World} {l : List Wb} (h : EnvW w0 w l) (a b : Int) : EnvW w0 (w.alloc (.cells #[.int .u64 a, .int .u64 b] 69)) (⟨w.heap.size, a, b⟩ :: l) :=
  ⟨belows h.1 (al1 _ _), Has.new_ _ _ _, h.2.on (al1 _ _)⟩
theorem EnvW.add2 {w0 w : World} {l : List Wb} (h : EnvW w0 w l) (a b c d : Int) : EnvW w0 ((w.alloc (.cells #[.int .u64 a, .int .u64 b] 69)).alloc (.cells #[.int .u64 c, .int .u64 d] 69)) (⟨w.heap.size + 1, c, d⟩ :: ⟨w.heap.size, a, b⟩ :: l) := by
  have k := (h.add a b).add c d
  have s1 : (w.alloc (.cells #[.int .u64 a, .int .u64 b] 69)).heap.size = w.heap.size + 1 := by simp
  rw [s1] at k; exact k


set_option maxRecDepth 100000 in
set_option maxHeartbeats 4000000 in
theorem part_ntrh (n num den z1 z2 z3 ah al' qh ql r : Int) (up : Bool) (w : World) (hd0 : den < 0) (hm0 : (decide (n < 0) == decide (num < 0)) = true) (hr : r = 0) (c : 0 < qh) (b0 : 0 ≤ qh) (b1 : 0 ≤ ql) (b2 : ql ≤ 18446744073709551615)
    (s1 : ∀ W, Calls Try.prog 58 #[.int .i64 n] W fun e w' => e = .returned (.int .u64 z1) ∧ W = w') (s2 : ∀ W, Calls Try.prog 58 #[.int .i64 num] W fun e w' => e = .returned (.int .u64 z2) ∧ W = w') (s3 : ∀ W, Calls Try.prog 58 #[.int .i64 den] W fun e w' => e = .returned (.int .u64 z3) ∧ W = w')
    (hm : ∀ W, Calls Try.prog 60 #[.int .u64 z1, .int .u64 z2] W fun e w' => e = .returned (.agg #[.int .u64 ah, .int .u64 al']) ∧ Below W.heap.size W w')
    (hd : ∀ W, Calls Try.prog 59 #[.agg #[.int .u64 ah, .int .u64 al'], .agg #[.int .u64 0, .int .u64 z3]] W fun e w' => e = .returned (.tuple #[.agg #[.int .u64 qh, .int .u64 ql], .agg #[.int .u64 0, .int .u64 r]]) ∧ Below W.heap.size W w') :
    Calls Try.prog 36 #[.int .i64 n, .int .i64 num, .int .i64 den, .bool up] w fun e w' => e = .returned (.tuple #[.int .i64 (0), .bool false]) ∧ Below w.heap.size w w' := by
  subst hr
  go_enter Try.func36, Try.ntmps36
  go_wp2_with (first | (go_at_call 58; first | ((with_reducible refine (s1 _).mono ?_); rintro e w1 ⟨rfl, rfl⟩) | ((with_reducible refine (s2 _).mono ?_); rintro e w1 ⟨rfl, rfl⟩) | ((with_reducible refine (s3 _).mono ?_); rintro e w1 ⟨rfl, rfl⟩)) | (go_at_call 60; (with_reducible refine (hm _).mono ?_); rintro e w1 ⟨rfl, hb⟩; have E := (envW_nil w).on hb; clear hb) | (go_at_call 59; (with_reducible refine (hd _).mono ?_); rintro e w2 ⟨rfl, hb⟩; have sz := (E.on hb).1.size; replace E := (E.on hb).add2 qh ql 0 0; clear hb; have C := E.cells; simp only [BW] at C))
  go_ret2
  exact ⟨rfl, by first | exact E.1 | exact (E.1.setCell (by simp; omega) _).setCell (by simp; omega) _⟩

set_option maxRecDepth 100000 in
set_option maxHeartbeats 4000000 in
theorem part_ntrl (n num den z1 z2 z3 ah al' qh ql r : Int) (up : Bool) (w : World) (hd0 : den < 0) (hm0 : (decide (n < 0) == decide (num < 0)) = true) (hr : r = 0) (c : qh ≤ 0) (c' : 1152921504606846976 < ql) (b0 : 0 ≤ qh) (b1 : 0 ≤ ql) (b2 : ql ≤ 18446744073709551615)
    (s1 : ∀ W, Calls Try.prog 58 #[.int .i64 n] W fun e w' => e = .returned (.int .u64 z1) ∧ W = w') (s2 : ∀ W, Calls Try.prog 58 #[.int .i64 num] W fun e w' => e = .returned (.int .u64 z2) ∧ W = w') (s3 : ∀ W, Calls Try.prog 58 #[.int .i64 den] W fun e w' => e = .returned (.int .u64 z3) ∧ W = w')
    (hm : ∀ W, Calls Try.prog 60 #[.int .u64 z1, .int .u64 z2] W fun e w' => e = .returned (.agg #[.int .u64 ah, .int .u64 al']) ∧ Below W.heap.size W w')
    (hd : ∀ W, Calls Try.prog 59 #[.agg #[.int .u64 ah, .int .u64 al'], .agg #[.int .u64 0, .int .u64 z3]] W fun e w' => e = .returned (.tuple #[.agg #[.int .u64 qh, .int .u64 ql], .agg #[.int .u64 0, .int .u64 r]]) ∧ Below W.heap.size W w') :
    Calls Try.prog 36 #[.int .i64 n, .int .i64 num, .int .i64 den, .bool up] w fun e w' => e = .returned (.tuple #[.int .i64 (0), .bool false]) ∧ Below w.heap.size w w' := by
  subst hr
  go_enter Try.func36, Try.ntmps36
  go_wp2_with (first | (go_at_call 58; first | ((with_reducible refine (s1 _).mono ?_); rintro e w1 ⟨rfl, rfl⟩) | ((with_reducible refine (s2 _).mono ?_); rintro e w1 ⟨rfl, rfl⟩) | ((with_reducible refine (s3 _).mono ?_); rintro e w1 ⟨rfl, rfl⟩)) | (go_at_call 60; (with_reducible refine (hm _).mono ?_); rintro e w1 ⟨rfl, hb⟩; have E := (envW_nil w).on hb; clear hb) | (go_at_call 59; (with_reducible refine (hd _).mono ?_); rintro e w2 ⟨rfl, hb⟩; have sz := (E.on hb).1.size; replace E := (E.on hb).add2 qh ql 0 0; clear hb; have C := E.cells; simp only [BW] at C))
  go_ret2
  exact ⟨rfl, by first | exact E.1 | exact (E.1.setCell (by simp; omega) _).setCell (by simp; omega) _⟩

set_option maxRecDepth 100000 in
set_option maxHeartbeats 4000000 in
theorem part_ntrf (n num den z1 z2 z3 ah al' qh ql r : Int) (up : Bool) (w : World) (hd0 : den < 0) (hm0 : (decide (n < 0) == decide (num < 0)) = true) (hr : r = 0) (c : qh ≤ 0) (c' : ql ≤ 1152921504606846976) (b0 : 0 ≤ qh) (b1 : 0 ≤ ql) (b2 : ql ≤ 18446744073709551615)
    (s1 : ∀ W, Calls Try.prog 58 #[.int .i64 n] W fun e w' => e = .returned (.int .u64 z1) ∧ W = w') (s2 : ∀ W, Calls Try.prog 58 #[.int .i64 num] W fun e w' => e = .returned (.int .u64 z2) ∧ W = w') (s3 : ∀ W, Calls Try.prog 58 #[.int .i64 den] W fun e w' => e = .returned (.int .u64 z3) ∧ W = w')
    (hm : ∀ W, Calls Try.prog 60 #[.int .u64 z1, .int .u64 z2] W fun e w' => e = .returned (.agg #[.int .u64 ah, .int .u64 al']) ∧ Below W.heap.size W w')
    (hd : ∀ W, Calls Try.prog 59 #[.agg #[.int .u64 ah, .int .u64 al'], .agg #[.int .u64 0, .int .u64 z3]] W fun e w' => e = .returned (.tuple #[.agg #[.int .u64 qh, .int .u64 ql], .agg #[.int .u64 0, .int .u64 r]]) ∧ Below W.heap.size W w') :
    Calls Try.prog 36 #[.int .i64 n, .int .i64 num, .int .i64 den, .bool up] w fun e w' => e = .returned (.tuple #[.int .i64 (-ql), .bool true]) ∧ Below w.heap.size w w' := by
  subst hr
  have W1 : IntKind.i64.wrap (0 - ql) = -ql := by rw [IntWalk.i64_in (0 - ql) (by omega)]; omega
  go_enter Try.func36, Try.ntmps36
  go_wp2_with (first | (go_at_call 58; first | ((with_reducible refine (s1 _).mono ?_); rintro e w1 ⟨rfl, rfl⟩) | ((with_reducible refine (s2 _).mono ?_); rintro e w1 ⟨rfl, rfl⟩) | ((with_reducible refine (s3 _).mono ?_); rintro e w1 ⟨rfl, rfl⟩)) | (go_at_call 60; (with_reducible refine (hm _).mono ?_); rintro e w1 ⟨rfl, hb⟩; have E := (envW_nil w).on hb; clear hb) | (go_at_call 59; (with_reducible refine (hd _).mono ?_); rintro e w2 ⟨rfl, hb⟩; have sz := (E.on hb).1.size; replace E := (E.on hb).add2 qh ql 0 0; clear hb; have C := E.cells; simp only [BW] at C))
  go_ret2
  exact ⟨rfl, by first | exact E.1 | exact (E.1.setCell (by simp; omega) _).setCell (by simp; omega) _⟩

set_option maxRecDepth 100000 in
set_option maxHeartbeats 4000000 in
theorem part_nteh (n num den z1 z2 z3 ah al' qh ql r : Int) (w : World) (hd0 : den < 0) (hm0 : (decide (n < 0) == decide (num < 0)) = true) (hr : ¬ r = 0) (c : 0 < qh) (b0 : 0 ≤ qh) (b1 : 0 ≤ ql) (b2 : ql ≤ 18446744073709551615)
    (s1 : ∀ W, Calls Try.prog 58 #[.int .i64 n] W fun e w' => e = .returned (.int .u64 z1) ∧ W = w') (s2 : ∀ W, Calls Try.prog 58 #[.int .i64 num] W fun e w' => e = .returned (.int .u64 z2) ∧ W = w') (s3 : ∀ W, Calls Try.prog 58 #[.int .i64 den] W fun e w' => e = .returned (.int .u64 z3) ∧ W = w')
    (hm : ∀ W, Calls Try.prog 60 #[.int .u64 z1, .int .u64 z2] W fun e w' => e = .returned (.agg #[.int .u64 ah, .int .u64 al']) ∧ Below W.heap.size W w')
    (hd : ∀ W, Calls Try.prog 59 #[.agg #[.int .u64 ah, .int .u64 al'], .agg #[.int .u64 0, .int .u64 z3]] W fun e w' => e = .returned (.tuple #[.agg #[.int .u64 qh, .int .u64 ql], .agg #[.int .u64 0, .int .u64 r]]) ∧ Below W.heap.size W w') :
    Calls Try.prog 36 #[.int .i64 n, .int .i64 num, .int .i64 den, .bool true] w fun e w' => e = .returned (.tuple #[.int .i64 (0), .bool false]) ∧ Below w.heap.size w w' := by
  have hr' : (r == 0) = false := by simp [hr]
  go_enter Try.func36, Try.ntmps36
  go_wp2_with (first | (go_at_call 58; first | ((with_reducible refine (s1 _).mono ?_); rintro e w1 ⟨rfl, rfl⟩) | ((with_reducible refine (s2 _).mono ?_); rintro e w1 ⟨rfl, rfl⟩) | ((with_reducible refine (s3 _).mono ?_); rintro e w1 ⟨rfl, rfl⟩)) | (go_at_call 60; (with_reducible refine (hm _).mono ?_); rintro e w1 ⟨rfl, hb⟩; have E := (envW_nil w).on hb; clear hb) | (go_at_call 59; (with_reducible refine (hd _).mono ?_); rintro e w2 ⟨rfl, hb⟩; have sz := (E.on hb).1.size; replace E := (E.on hb).add2 qh ql 0 r; clear hb; have C := E.cells; simp only [BW] at C))
  go_ret2
  exact ⟨rfl, by first | exact E.1 | exact (E.1.setCell (by simp; omega) _).setCell (by simp; omega) _⟩

set_option maxRecDepth 100000 in
set_option maxHeartbeats 4000000 in
theorem part_ntel (n num den z1 z2 z3 ah al' qh ql r : Int) (w : World) (hd0 : den < 0) (hm0 : (decide (n < 0) == decide (num < 0)) = true) (hr : ¬ r = 0) (c : qh ≤ 0) (c' : 1152921504606846976 < ql) (b0 : 0 ≤ qh) (b1 : 0 ≤ ql) (b2 : ql ≤ 18446744073709551615)
    (s1 : ∀ W, Calls Try.prog 58 #[.int .i64 n] W fun e w' => e = .returned (.int .u64 z1) ∧ W = w') (s2 : ∀ W, Calls Try.prog 58 #[.int .i64 num] W fun e w' => e = .returned (.int .u64 z2) ∧ W = w') (s3 : ∀ W, Calls Try.prog 58 #[.int .i64 den] W fun e w' => e = .returned (.int .u64 z3) ∧ W = w')
    (hm : ∀ W, Calls Try.prog 60 #[.int .u64 z1, .int .u64 z2] W fun e w' => e = .returned (.agg #[.int .u64 ah, .int .u64 al']) ∧ Below W.heap.size W w')
    (hd : ∀ W, Calls Try.prog 59 #[.agg #[.int .u64 ah, .int .u64 al'], .agg #[.int .u64 0, .int .u64 z3]] W fun e w' => e = .returned (.tuple #[.agg #[.int .u64 qh, .int .u64 ql], .agg #[.int .u64 0, .int .u64 r]]) ∧ Below W.heap.size W w') :
    Calls Try.prog 36 #[.int .i64 n, .int .i64 num, .int .i64 den, .bool true] w fun e w' => e = .returned (.tuple #[.int .i64 (0), .bool false]) ∧ Below w.heap.size w w' := by
  have hr' : (r == 0) = false := by simp [hr]
  go_enter Try.func36, Try.ntmps36
  go_wp2_with (first | (go_at_call 58; first | ((with_reducible refine (s1 _).mono ?_); rintro e w1 ⟨rfl, rfl⟩) | ((with_reducible refine (s2 _).mono ?_); rintro e w1 ⟨rfl, rfl⟩) | ((with_reducible refine (s3 _).mono ?_); rintro e w1 ⟨rfl, rfl⟩)) | (go_at_call 60; (with_reducible refine (hm _).mono ?_); rintro e w1 ⟨rfl, hb⟩; have E := (envW_nil w).on hb; clear hb) | (go_at_call 59; (with_reducible refine (hd _).mono ?_); rintro e w2 ⟨rfl, hb⟩; have sz := (E.on hb).1.size; replace E := (E.on hb).add2 qh ql 0 r; clear hb; have C := E.cells; simp only [BW] at C))
  go_ret2
  exact ⟨rfl, by first | exact E.1 | exact (E.1.setCell (by simp; omega) _).setCell (by simp; omega) _⟩

set_option maxRecDepth 100000 in
set_option maxHeartbeats 4000000 in
theorem part_ntef (n num den z1 z2 z3 ah al' qh ql r : Int) (w : World) (hd0 : den < 0) (hm0 : (decide (n < 0) == decide (num < 0)) = true) (hr : ¬ r = 0) (c : qh ≤ 0) (c' : ql ≤ 1152921504606846976) (b0 : 0 ≤ qh) (b1 : 0 ≤ ql) (b2 : ql ≤ 18446744073709551615)
    (s1 : ∀ W, Calls Try.prog 58 #[.int .i64 n] W fun e w' => e = .returned (.int .u64 z1) ∧ W = w') (s2 : ∀ W, Calls Try.prog 58 #[.int .i64 num] W fun e w' => e = .returned (.int .u64 z2) ∧ W = w') (s3 : ∀ W, Calls Try.prog 58 #[.int .i64 den] W fun e w' => e = .returned (.int .u64 z3) ∧ W = w')
    (hm : ∀ W, Calls Try.prog 60 #[.int .u64 z1, .int .u64 z2] W fun e w' => e = .returned (.agg #[.int .u64 ah, .int .u64 al']) ∧ Below W.heap.size W w')
    (hd : ∀ W, Calls Try.prog 59 #[.agg #[.int .u64 ah, .int .u64 al'], .agg #[.int .u64 0, .int .u64 z3]] W fun e w' => e = .returned (.tuple #[.agg #[.int .u64 qh, .int .u64 ql], .agg #[.int .u64 0, .int .u64 r]]) ∧ Below W.heap.size W w') :
    Calls Try.prog 36 #[.int .i64 n, .int .i64 num, .int .i64 den, .bool true] w fun e w' => e = .returned (.tuple #[.int .i64 (-ql), .bool true]) ∧ Below w.heap.size w w' := by
  have hr' : (r == 0) = false := by simp [hr]
  have W1 : IntKind.i64.wrap (0 - ql) = -ql := by rw [IntWalk.i64_in (0 - ql) (by omega)]; omega
  go_enter Try.func36, Try.ntmps36
  go_wp2_with (first | (go_at_call 58; first | ((with_reducible refine (s1 _).mono ?_); rintro e w1 ⟨rfl, rfl⟩) | ((with_reducible refine (s2 _).mono ?_); rintro e w1 ⟨rfl, rfl⟩) | ((with_reducible refine (s3 _).mono ?_); rintro e w1 ⟨rfl, rfl⟩)) | (go_at_call 60; (with_reducible refine (hm _).mono ?_); rintro e w1 ⟨rfl, hb⟩; have E := (envW_nil w).on hb; clear hb) | (go_at_call 59; (with_reducible refine (hd _).mono ?_); rintro e w2 ⟨rfl, hb⟩; have sz := (E.on hb).1.size; replace E := (E.on hb).add2 qh ql 0 r; clear hb; have C := E.cells; simp only [BW] at C))
  go_ret2
  exact ⟨rfl, by first | exact E.1 | exact (E.1.setCell (by simp; omega) _).setCell (by simp; omega) _⟩

set_option maxRecDepth 100000 in
set_option maxHeartbeats 4000000 in
theorem part_ntsh (n num den z1 z2 z3 ah al' qh ql r fh fl : Int) (w : World) (hd0 : den < 0) (hm0 : (decide (n < 0) == decide (num < 0)) = true) (hr : ¬ r = 0) (c : 0 < fh) (b0 : 0 ≤ fh) (b1 : 0 ≤ fl) (b2 : fl ≤ 18446744073709551615)
    (s1 : ∀ W, Calls Try.prog 58 #[.int .i64 n] W fun e w' => e = .returned (.int .u64 z1) ∧ W = w') (s2 : ∀ W, Calls Try.prog 58 #[.int .i64 num] W fun e w' => e = .returned (.int .u64 z2) ∧ W = w') (s3 : ∀ W, Calls Try.prog 58 #[.int .i64 den] W fun e w' => e = .returned (.int .u64 z3) ∧ W = w')
    (hm : ∀ W, Calls Try.prog 60 #[.int .u64 z1, .int .u64 z2] W fun e w' => e = .returned (.agg #[.int .u64 ah, .int .u64 al']) ∧ Below W.heap.size W w')
    (hd : ∀ W, Calls Try.prog 59 #[.agg #[.int .u64 ah, .int .u64 al'], .agg #[.int .u64 0, .int .u64 z3]] W fun e w' => e = .returned (.tuple #[.agg #[.int .u64 qh, .int .u64 ql], .agg #[.int .u64 0, .int .u64 r]]) ∧ Below W.heap.size W w')
    (hp : ∀ W, Calls Try.prog 61 #[.agg #[.int .u64 qh, .int .u64 ql], .agg #[.int .u64 0, .int .u64 1]] W fun e w' => e = .returned (.agg #[.int .u64 fh, .int .u64 fl]) ∧ Below W.heap.size W w') :
    Calls Try.prog 36 #[.int .i64 n, .int .i64 num, .int .i64 den, .bool false] w fun e w' => e = .returned (.tuple #[.int .i64 (0), .bool false]) ∧ Below w.heap.size w w' := by
  have hr' : (r == 0) = false := by simp [hr]
  go_enter Try.func36, Try.ntmps36
  go_wp2_with (first | (go_at_call 58; first | ((with_reducible refine (s1 _).mono ?_); rintro e w1 ⟨rfl, rfl⟩) | ((with_reducible refine (s2 _).mono ?_); rintro e w1 ⟨rfl, rfl⟩) | ((with_reducible refine (s3 _).mono ?_); rintro e w1 ⟨rfl, rfl⟩)) | (go_at_call 60; (with_reducible refine (hm _).mono ?_); rintro e w1 ⟨rfl, hb⟩; have E := (envW_nil w).on hb; clear hb) | (go_at_call 59; (with_reducible refine (hd _).mono ?_); rintro e w2 ⟨rfl, hb⟩; have sz := (E.on hb).1.size; replace E := (E.on hb).add2 qh ql 0 r; clear hb; have C := E.cells; simp only [BW] at C) | (go_at_call 61; (with_reducible refine (hp _).mono ?_); rintro e w3 ⟨rfl, hb⟩; replace E := E.on hb; clear hb; replace C := E.cells; simp only [BW] at C))
  go_ret2
  exact ⟨rfl, by first | exact E.1 | exact (E.1.setCell (by simp; omega) _).setCell (by simp; omega) _⟩

set_option maxRecDepth 100000 in
set_option maxHeartbeats 4000000 in
theorem part_ntsl (n num den z1 z2 z3 ah al' qh ql r fh fl : Int) (w : World) (hd0 : den < 0) (hm0 : (decide (n < 0) == decide (num < 0)) = true) (hr : ¬ r = 0) (c : fh ≤ 0) (c' : 1152921504606846976 < fl) (b0 : 0 ≤ fh) (b1 : 0 ≤ fl) (b2 : fl ≤ 18446744073709551615)
    (s1 : ∀ W, Calls Try.prog 58 #[.int .i64 n] W fun e w' => e = .returned (.int .u64 z1) ∧ W = w') (s2 : ∀ W, Calls Try.prog 58 #[.int .i64 num] W fun e w' => e = .returned (.int .u64 z2) ∧ W = w') (s3 : ∀ W, Calls Try.prog 58 #[.int .i64 den] W fun e w' => e = .returned (.int .u64 z3) ∧ W = w')
    (hm : ∀ W, Calls Try.prog 60 #[.int .u64 z1, .int .u64 z2] W fun e w' => e = .returned (.agg #[.int .u64 ah, .int .u64 al']) ∧ Below W.heap.size W w')
    (hd : ∀ W, Calls Try.prog 59 #[.agg #[.int .u64 ah, .int .u64 al'], .agg #[.int .u64 0, .int .u64 z3]] W fun e w' => e = .returned (.tuple #[.agg #[.int .u64 qh, .int .u64 ql], .agg #[.int .u64 0, .int .u64 r]]) ∧ Below W.heap.size W w')
    (hp : ∀ W, Calls Try.prog 61 #[.agg #[.int .u64 qh, .int .u64 ql], .agg #[.int .u64 0, .int .u64 1]] W fun e w' => e = .returned (.agg #[.int .u64 fh, .int .u64 fl]) ∧ Below W.heap.size W w') :
    Calls Try.prog 36 #[.int .i64 n, .int .i64 num, .int .i64 den, .bool false] w fun e w' => e = .returned (.tuple #[.int .i64 (0), .bool false]) ∧ Below w.heap.size w w' := by
  have hr' : (r == 0) = false := by simp [hr]
  go_enter Try.func36, Try.ntmps36
  go_wp2_with (first | (go_at_call 58; first | ((with_reducible refine (s1 _).mono ?_); rintro e w1 ⟨rfl, rfl⟩) | ((with_reducible refine (s2 _).mono ?_); rintro e w1 ⟨rfl, rfl⟩) | ((with_reducible refine (s3 _).mono ?_); rintro e w1 ⟨rfl, rfl⟩)) | (go_at_call 60; (with_reducible refine (hm _).mono ?_); rintro e w1 ⟨rfl, hb⟩; have E := (envW_nil w).on hb; clear hb) | (go_at_call 59; (with_reducible refine (hd _).mono ?_); rintro e w2 ⟨rfl, hb⟩; have sz := (E.on hb).1.size; replace E := (E.on hb).add2 qh ql 0 r; clear hb; have C := E.cells; simp only [BW] at C) | (go_at_call 61; (with_reducible refine (hp _).mono ?_); rintro e w3 ⟨rfl, hb⟩; replace E := E.on hb; clear hb; replace C := E.cells; simp only [BW] at C))
  go_ret2
  exact ⟨rfl, by first | exact E.1 | exact (E.1.setCell (by simp; omega) _).setCell (by simp; omega) _⟩

set_option maxRecDepth 100000 in
set_option maxHeartbeats 4000000 in
theorem part_ntsf (n num den z1 z2 z3 ah al' qh ql r fh fl : Int) (w : World) (hd0 : den < 0) (hm0 : (decide (n < 0) == decide (num < 0)) = true) (hr : ¬ r = 0) (c : fh ≤ 0) (c' : fl ≤ 1152921504606846976) (b0 : 0 ≤ fh) (b1 : 0 ≤ fl) (b2 : fl ≤ 18446744073709551615)
    (s1 : ∀ W, Calls Try.prog 58 #[.int .i64 n] W fun e w' => e = .returned (.int .u64 z1) ∧ W = w') (s2 : ∀ W, Calls Try.prog 58 #[.int .i64 num] W fun e w' => e = .returned (.int .u64 z2) ∧ W = w') (s3 : ∀ W, Calls Try.prog 58 #[.int .i64 den] W fun e w' => e = .returned (.int .u64 z3) ∧ W = w')
    (hm : ∀ W, Calls Try.prog 60 #[.int .u64 z1, .int .u64 z2] W fun e w' => e = .returned (.agg #[.int .u64 ah, .int .u64 al']) ∧ Below W.heap.size W w')
    (hd : ∀ W, Calls Try.prog 59 #[.agg #[.int .u64 ah, .int .u64 al'], .agg #[.int .u64 0, .int .u64 z3]] W fun e w' => e = .returned (.tuple #[.agg #[.int .u64 qh, .int .u64 ql], .agg #[.int .u64 0, .int .u64 r]]) ∧ Below W.heap.size W w')
    (hp : ∀ W, Calls Try.prog 61 #[.agg #[.int .u64 qh, .int .u64 ql], .agg #[.int .u64 0, .int .u64 1]] W fun e w' => e = .returned (.agg #[.int .u64 fh, .int .u64 fl]) ∧ Below W.heap.size W w') :
    Calls Try.prog 36 #[.int .i64 n, .int .i64 num, .int .i64 den, .bool false] w fun e w' => e = .returned (.tuple #[.int .i64 (-fl), .bool true]) ∧ Below w.heap.size w w' := by
  have hr' : (r == 0) = false := by simp [hr]
  have W1 : IntKind.i64.wrap (0 - fl) = -fl := by rw [IntWalk.i64_in (0 - fl) (by omega)]; omega
  go_enter Try.func36, Try.ntmps36
  go_wp2_with (first | (go_at_call 58; first | ((with_reducible refine (s1 _).mono ?_); rintro e w1 ⟨rfl, rfl⟩) | ((with_reducible refine (s2 _).mono ?_); rintro e w1 ⟨rfl, rfl⟩) | ((with_reducible refine (s3 _).mono ?_); rintro e w1 ⟨rfl, rfl⟩)) | (go_at_call 60; (with_reducible refine (hm _).mono ?_); rintro e w1 ⟨rfl, hb⟩; have E := (envW_nil w).on hb; clear hb) | (go_at_call 59; (with_reducible refine (hd _).mono ?_); rintro e w2 ⟨rfl, hb⟩; have sz := (E.on hb).1.size; replace E := (E.on hb).add2 qh ql 0 r; clear hb; have C := E.cells; simp only [BW] at C) | (go_at_call 61; (with_reducible refine (hp _).mono ?_); rintro e w3 ⟨rfl, hb⟩; replace E := E.on hb; clear hb; replace C := E.cells; simp only [BW] at C))
  go_ret2
  exact ⟨rfl, by first | exact E.1 | exact (E.1.setCell (by simp; omega) _).setCell (by simp; omega) _⟩

set_option maxRecDepth 100000 in
set_option maxHeartbeats 4000000 in
theorem part_nfrh (n num den z1 z2 z3 ah al' qh ql r : Int) (up : Bool) (w : World) (hd0 : den < 0) (hm0 : (decide (n < 0) == decide (num < 0)) = false) (hr : r = 0) (c : 0 < qh) (b0 : 0 ≤ qh) (b1 : 0 ≤ ql) (b2 : ql ≤ 18446744073709551615)
    (s1 : ∀ W, Calls Try.prog 58 #[.int .i64 n] W fun e w' => e = .returned (.int .u64 z1) ∧ W = w') (s2 : ∀ W, Calls Try.prog 58 #[.int .i64 num] W fun e w' => e = .returned (.int .u64 z2) ∧ W = w') (s3 : ∀ W, Calls Try.prog 58 #[.int .i64 den] W fun e w' => e = .returned (.int .u64 z3) ∧ W = w')
    (hm : ∀ W, Calls Try.prog 60 #[.int .u64 z1, .int .u64 z2] W fun e w' => e = .returned (.agg #[.int .u64 ah, .int .u64 al']) ∧ Below W.heap.size W w')
    (hd : ∀ W, Calls Try.prog 59 #[.agg #[.int .u64 ah, .int .u64 al'], .agg #[.int .u64 0, .int .u64 z3]] W fun e w' => e = .returned (.tuple #[.agg #[.int .u64 qh, .int .u64 ql], .agg #[.int .u64 0, .int .u64 r]]) ∧ Below W.heap.size W w') :
    Calls Try.prog 36 #[.int .i64 n, .int .i64 num, .int .i64 den, .bool up] w fun e w' => e = .returned (.tuple #[.int .i64 (0), .bool false]) ∧ Below w.heap.size w w' := by
  subst hr
  go_enter Try.func36, Try.ntmps36
  go_wp2_with (first | (go_at_call 58; first | ((with_reducible refine (s1 _).mono ?_); rintro e w1 ⟨rfl, rfl⟩) | ((with_reducible refine (s2 _).mono ?_); rintro e w1 ⟨rfl, rfl⟩) | ((with_reducible refine (s3 _).mono ?_); rintro e w1 ⟨rfl, rfl⟩)) | (go_at_call 60; (with_reducible refine (hm _).mono ?_); rintro e w1 ⟨rfl, hb⟩; have E := (envW_nil w).on hb; clear hb) | (go_at_call 59; (with_reducible refine (hd _).mono ?_); rintro e w2 ⟨rfl, hb⟩; have sz := (E.on hb).1.size; replace E := (E.on hb).add2 qh ql 0 0; clear hb; have C := E.cells; simp only [BW] at C))
  go_ret2
  exact ⟨rfl, by first | exact E.1 | exact (E.1.setCell (by simp; omega) _).setCell (by simp; omega) _⟩

set_option maxRecDepth 100000 in
set_option maxHeartbeats 4000000 in
theorem part_nfrl (n num den z1 z2 z3 ah al' qh ql r : Int) (up : Bool) (w : World) (hd0 : den < 0) (hm0 : (decide (n < 0) == decide (num < 0)) = false) (hr : r = 0) (c : qh ≤ 0) (c' : 1152921504606846976 < ql) (b0 : 0 ≤ qh) (b1 : 0 ≤ ql) (b2 : ql ≤ 18446744073709551615)
    (s1 : ∀ W, Calls Try.prog 58 #[.int .i64 n] W fun e w' => e = .returned (.int .u64 z1) ∧ W = w') (s2 : ∀ W, Calls Try.prog 58 #[.int .i64 num] W fun e w' => e = .returned (.int .u64 z2) ∧ W = w') (s3 : ∀ W, Calls Try.prog 58 #[.int .i64 den] W fun e w' => e = .returned (.int .u64 z3) ∧ W = w')
    (hm : ∀ W, Calls Try.prog 60 #[.int .u64 z1, .int .u64 z2] W fun e w' => e = .returned (.agg #[.int .u64 ah, .int .u64 al']) ∧ Below W.heap.size W w')
    (hd : ∀ W, Calls Try.prog 59 #[.agg #[.int .u64 ah, .int .u64 al'], .agg #[.int .u64 0, .int .u64 z3]] W fun e w' => e = .returned (.tuple #[.agg #[.int .u64 qh, .int .u64 ql], .agg #[.int .u64 0, .int .u64 r]]) ∧ Below W.heap.size W w') :
    Calls Try.prog 36 #[.int .i64 n, .int .i64 num, .int .i64 den, .bool up] w fun e w' => e = .returned (.tuple #[.int .i64 (0), .bool false]) ∧ Below w.heap.size w w' := by
  subst hr
  go_enter Try.func36, Try.ntmps36
  go_wp2_with (first | (go_at_call 58; first | ((with_reducible refine (s1 _).mono ?_); rintro e w1 ⟨rfl, rfl⟩) | ((with_reducible refine (s2 _).mono ?_); rintro e w1 ⟨rfl, rfl⟩) | ((with_reducible refine (s3 _).mono ?_); rintro e w1 ⟨rfl, rfl⟩)) | (go_at_call 60; (with_reducible refine (hm _).mono ?_); rintro e w1 ⟨rfl, hb⟩; have E := (envW_nil w).on hb; clear hb) | (go_at_call 59; (with_reducible refine (hd _).mono ?_); rintro e w2 ⟨rfl, hb⟩; have sz := (E.on hb).1.size; replace E := (E.on hb).add2 qh ql 0 0; clear hb; have C := E.cells; simp only [BW] at C))
  go_ret2
  exact ⟨rfl, by first | exact E.1 | exact (E.1.setCell (by simp; omega) _).setCell (by simp; omega) _⟩

set_option maxRecDepth 100000 in
set_option maxHeartbeats 4000000 in
theorem part_nfrf (n num den z1 z2 z3 ah al' qh ql r : Int) (up : Bool) (w : World) (hd0 : den < 0) (hm0 : (decide (n < 0) == decide (num < 0)) = false) (hr : r = 0) (c : qh ≤ 0) (c' : ql ≤ 1152921504606846976) (b0 : 0 ≤ qh) (b1 : 0 ≤ ql) (b2 : ql ≤ 18446744073709551615)
    (s1 : ∀ W, Calls Try.prog 58 #[.int .i64 n] W fun e w' => e = .returned (.int .u64 z1) ∧ W = w') (s2 : ∀ W, Calls Try.prog 58 #[.int .i64 num] W fun e w' => e = .returned (.int .u64 z2) ∧ W = w') (s3 : ∀ W, Calls Try.prog 58 #[.int .i64 den] W fun e w' => e = .returned (.int .u64 z3) ∧ W = w')
    (hm : ∀ W, Calls Try.prog 60 #[.int .u64 z1, .int .u64 z2] W fun e w' => e = .returned (.agg #[.int .u64 ah, .int .u64 al']) ∧ Below W.heap.size W w')
    (hd : ∀ W, Calls Try.prog 59 #[.agg #[.int .u64 ah, .int .u64 al'], .agg #[.int .u64 0, .int .u64 z3]] W fun e w' => e = .returned (.tuple #[.agg #[.int .u64 qh, .int .u64 ql], .agg #[.int .u64 0, .int .u64 r]]) ∧ Below W.heap.size W w') :
    Calls Try.prog 36 #[.int .i64 n, .int .i64 num, .int .i64 den, .bool up] w fun e w' => e = .returned (.tuple #[.int .i64 (ql), .bool true]) ∧ Below w.heap.size w w' := by
  subst hr
  go_enter Try.func36, Try.ntmps36
  go_wp2_with (first | (go_at_call 58; first | ((with_reducible refine (s1 _).mono ?_); rintro e w1 ⟨rfl, rfl⟩) | ((with_reducible refine (s2 _).mono ?_); rintro e w1 ⟨rfl, rfl⟩) | ((with_reducible refine (s3 _).mono ?_); rintro e w1 ⟨rfl, rfl⟩)) | (go_at_call 60; (with_reducible refine (hm _).mono ?_); rintro e w1 ⟨rfl, hb⟩; have E := (envW_nil w).on hb; clear hb) | (go_at_call 59; (with_reducible refine (hd _).mono ?_); rintro e w2 ⟨rfl, hb⟩; have sz := (E.on hb).1.size; replace E := (E.on hb).add2 qh ql 0 0; clear hb; have C := E.cells; simp only [BW] at C))
  go_ret2
  exact ⟨rfl, by first | exact E.1 | exact (E.1.setCell (by simp; omega) _).setCell (by simp; omega) _⟩

set_option maxRecDepth 100000 in
set_option maxHeartbeats 4000000 in
theorem part_nfeh (n num den z1 z2 z3 ah al' qh ql r : Int) (w : World) (hd0 : den < 0) (hm0 : (decide (n < 0) == decide (num < 0)) = false) (hr : ¬ r = 0) (c : 0 < qh) (b0 : 0 ≤ qh) (b1 : 0 ≤ ql) (b2 : ql ≤ 18446744073709551615)
    (s1 : ∀ W, Calls Try.prog 58 #[.int .i64 n] W fun e w' => e = .returned (.int .u64 z1) ∧ W = w') (s2 : ∀ W, Calls Try.prog 58 #[.int .i64 num] W fun e w' => e = .returned (.int .u64 z2) ∧ W = w') (s3 : ∀ W, Calls Try.prog 58 #[.int .i64 den] W fun e w' => e = .returned (.int .u64 z3) ∧ W = w')
    (hm : ∀ W, Calls Try.prog 60 #[.int .u64 z1, .int .u64 z2] W fun e w' => e = .returned (.agg #[.int .u64 ah, .int .u64 al']) ∧ Below W.heap.size W w')
    (hd : ∀ W, Calls Try.prog 59 #[.agg #[.int .u64 ah, .int .u64 al'], .agg #[.int .u64 0, .int .u64 z3]] W fun e w' => e = .returned (.tuple #[.agg #[.int .u64 qh, .int .u64 ql], .agg #[.int .u64 0, .int .u64 r]]) ∧ Below W.heap.size W w') :
    Calls Try.prog 36 #[.int .i64 n, .int .i64 num, .int .i64 den, .bool false] w fun e w' => e = .returned (.tuple #[.int .i64 (0), .bool false]) ∧ Below w.heap.size w w' := by
  have hr' : (r == 0) = false := by simp [hr]
  go_enter Try.func36, Try.ntmps36
  go_wp2_with (first | (go_at_call 58; first | ((with_reducible refine (s1 _).mono ?_); rintro e w1 ⟨rfl, rfl⟩) | ((with_reducible refine (s2 _).mono ?_); rintro e w1 ⟨rfl, rfl⟩) | ((with_reducible refine (s3 _).mono ?_); rintro e w1 ⟨rfl, rfl⟩)) | (go_at_call 60; (with_reducible refine (hm _).mono ?_); rintro e w1 ⟨rfl, hb⟩; have E := (envW_nil w).on hb; clear hb) | (go_at_call 59; (with_reducible refine (hd _).mono ?_); rintro e w2 ⟨rfl, hb⟩; have sz := (E.on hb).1.size; replace E := (E.on hb).add2 qh ql 0 r; clear hb; have C := E.cells; simp only [BW] at C))
  go_ret2
  exact ⟨rfl, by first | exact E.1 | exact (E.1.setCell (by simp; omega) _).setCell (by simp; omega) _⟩

set_option maxRecDepth 100000 in
set_option maxHeartbeats 4000000 in
theorem part_nfel (n num den z1 z2 z3 ah al' qh ql r : Int) (w : World) (hd0 : den < 0) (hm0 : (decide (n < 0) == decide (num < 0)) = false) (hr : ¬ r = 0) (c : qh ≤ 0) (c' : 1152921504606846976 < ql) (b0 : 0 ≤ qh) (b1 : 0 ≤ ql) (b2 : ql ≤ 18446744073709551615)
    (s1 : ∀ W, Calls Try.prog 58 #[.int .i64 n] W fun e w' => e = .returned (.int .u64 z1) ∧ W = w') (s2 : ∀ W, Calls Try.prog 58 #[.int .i64 num] W fun e w' => e = .returned (.int .u64 z2) ∧ W = w') (s3 : ∀ W, Calls Try.prog 58 #[.int .i64 den] W fun e w' => e = .returned (.int .u64 z3) ∧ W = w')
    (hm : ∀ W, Calls Try.prog 60 #[.int .u64 z1, .int .u64 z2] W fun e w' => e = .returned (.agg #[.int .u64 ah, .int .u64 al']) ∧ Below W.heap.size W w')
    (hd : ∀ W, Calls Try.prog 59 #[.agg #[.int .u64 ah, .int .u64 al'], .agg #[.int .u64 0, .int .u64 z3]] W fun e w' => e = .returned (.tuple #[.agg #[.int .u64 qh, .int .u64 ql], .agg #[.int .u64 0, .int .u64 r]]) ∧ Below W.heap.size W w') :
    Calls Try.prog 36 #[.int .i64 n, .int .i64 num, .int .i64 den, .bool false] w fun e w' => e = .returned (.tuple #[.int .i64 (0), .bool false]) ∧ Below w.heap.size w w' := by
  have hr' : (r == 0) = false := by simp [hr]
  go_enter Try.func36, Try.ntmps36
  go_wp2_with (first | (go_at_call 58; first | ((with_reducible refine (s1 _).mono ?_); rintro e w1 ⟨rfl, rfl⟩) | ((with_reducible refine (s2 _).mono ?_); rintro e w1 ⟨rfl, rfl⟩) | ((with_reducible refine (s3 _).mono ?_); rintro e w1 ⟨rfl, rfl⟩)) | (go_at_call 60; (with_reducible refine (hm _).mono ?_); rintro e w1 ⟨rfl, hb⟩; have E := (envW_nil w).on hb; clear hb) | (go_at_call 59; (with_reducible refine (hd _).mono ?_); rintro e w2 ⟨rfl, hb⟩; have sz := (E.on hb).1.size; replace E := (E.on hb).add2 qh ql 0 r; clear hb; have C := E.cells; simp only [BW] at C))
  go_ret2
  exact ⟨rfl, by first | exact E.1 | exact (E.1.setCell (by simp; omega) _).setCell (by simp; omega) _⟩

set_option maxRecDepth 100000 in
set_option maxHeartbeats 4000000 in
theorem part_nfef (n num den z1 z2 z3 ah al' qh ql r : Int) (w : World) (hd0 : den < 0) (hm0 : (decide (n < 0) == decide (num < 0)) = false) (hr : ¬ r = 0) (c : qh ≤ 0) (c' : ql ≤ 1152921504606846976) (b0 : 0 ≤ qh) (b1 : 0 ≤ ql) (b2 : ql ≤ 18446744073709551615)
    (s1 : ∀ W, Calls Try.prog 58 #[.int .i64 n] W fun e w' => e = .returned (.int .u64 z1) ∧ W = w') (s2 : ∀ W, Calls Try.prog 58 #[.int .i64 num] W fun e w' => e = .returned (.int .u64 z2) ∧ W = w') (s3 : ∀ W, Calls Try.prog 58 #[.int .i64 den] W fun e w' => e = .returned (.int .u64 z3) ∧ W = w')
    (hm : ∀ W, Calls Try.prog 60 #[.int .u64 z1, .int .u64 z2] W fun e w' => e = .returned (.agg #[.int .u64 ah, .int .u64 al']) ∧ Below W.heap.size W w')
    (hd : ∀ W, Calls Try.prog 59 #[.agg #[.int .u64 ah, .int .u64 al'], .agg #[.int .u64 0, .int .u64 z3]] W fun e w' => e = .returned (.tuple #[.agg #[.int .u64 qh, .int .u64 ql], .agg #[.int .u64 0, .int .u64 r]]) ∧ Below W.heap.size W w') :
    Calls Try.prog 36 #[.int .i64 n, .int .i64 num, .int .i64 den, .bool false] w fun e w' => e = .returned (.tuple #[.int .i64 (ql), .bool true]) ∧ Below w.heap.size w w' := by
  have hr' : (r == 0) = false := by simp [hr]
  go_enter Try.func36, Try.ntmps36
  go_wp2_with (first | (go_at_call 58; first | ((with_reducible refine (s1 _).mono ?_); rintro e w1 ⟨rfl, rfl⟩) | ((with_reducible refine (s2 _).mono ?_); rintro e w1 ⟨rfl, rfl⟩) | ((with_reducible refine (s3 _).mono ?_); rintro e w1 ⟨rfl, rfl⟩)) | (go_at_call 60; (with_reducible refine (hm _).mono ?_); rintro e w1 ⟨rfl, hb⟩; have E := (envW_nil w).on hb; clear hb) | (go_at_call 59; (with_reducible refine (hd _).mono ?_); rintro e w2 ⟨rfl, hb⟩; have sz := (E.on hb).1.size; replace E := (E.on hb).add2 qh ql 0 r; clear hb; have C := E.cells; simp only [BW] at C))
  go_ret2
  exact ⟨rfl, by first | exact E.1 | exact (E.1.setCell (by simp; omega) _).setCell (by simp; omega) _⟩

set_option maxRecDepth 100000 in
set_option maxHeartbeats 4000000 in
theorem part_nfsh (n num den z1 z2 z3 ah al' qh ql r fh fl : Int) (w : World) (hd0 : den < 0) (hm0 : (decide (n < 0) == decide (num < 0)) = false) (hr : ¬ r = 0) (c : 0 < fh) (b0 : 0 ≤ fh) (b1 : 0 ≤ fl) (b2 : fl ≤ 18446744073709551615)
    (s1 : ∀ W, Calls Try.prog 58 #[.int .i64 n] W fun e w' => e = .returned (.int .u64 z1) ∧ W = w') (s2 : ∀ W, Calls Try.prog 58 #[.int .i64 num] W fun e w' => e = .returned (.int .u64 z2) ∧ W = w') (s3 : ∀ W, Calls Try.prog 58 #[.int .i64 den] W fun e w' => e = .returned (.int .u64 z3) ∧ W = w')
    (hm : ∀ W, Calls Try.prog 60 #[.int .u64 z1, .int .u64 z2] W fun e w' => e = .returned (.agg #[.int .u64 ah, .int .u64 al']) ∧ Below W.heap.size W w')
    (hd : ∀ W, Calls Try.prog 59 #[.agg #[.int .u64 ah, .int .u64 al'], .agg #[.int .u64 0, .int .u64 z3]] W fun e w' => e = .returned (.tuple #[.agg #[.int .u64 qh, .int .u64 ql], .agg #[.int .u64 0, .int .u64 r]]) ∧ Below W.heap.size W w')
    (hp : ∀ W, Calls Try.prog 61 #[.agg #[.int .u64 qh, .int .u64 ql], .agg #[.int .u64 0, .int .u64 1]] W fun e w' => e = .returned (.agg #[.int .u64 fh, .int .u64 fl]) ∧ Below W.heap.size W w') :
    Calls Try.prog 36 #[.int .i64 n, .int .i64 num, .int .i64 den, .bool true] w fun e w' => e = .returned (.tuple #[.int .i64 (0), .bool false]) ∧ Below w.heap.size w w' := by
  have hr' : (r == 0) = false := by simp [hr]
  go_enter Try.func36, Try.ntmps36
  go_wp2_with (first | (go_at_call 58; first | ((with_reducible refine (s1 _).mono ?_); rintro e w1 ⟨rfl, rfl⟩) | ((with_reducible refine (s2 _).mono ?_); rintro e w1 ⟨rfl, rfl⟩) | ((with_reducible refine (s3 _).mono ?_); rintro e w1 ⟨rfl, rfl⟩)) | (go_at_call 60; (with_reducible refine (hm _).mono ?_); rintro e w1 ⟨rfl, hb⟩; have E := (envW_nil w).on hb; clear hb) | (go_at_call 59; (with_reducible refine (hd _).mono ?_); rintro e w2 ⟨rfl, hb⟩; have sz := (E.on hb).1.size; replace E := (E.on hb).add2 qh ql 0 r; clear hb; have C := E.cells; simp only [BW] at C) | (go_at_call 61; (with_reducible refine (hp _).mono ?_); rintro e w3 ⟨rfl, hb⟩; replace E := E.on hb; clear hb; replace C := E.cells; simp only [BW] at C))
  go_ret2
  exact ⟨rfl, by first | exact E.1 | exact (E.1.setCell (by simp; omega) _).setCell (by simp; omega) _⟩

set_option maxRecDepth 100000 in
set_option maxHeartbeats 4000000 in
theorem part_nfsl (n num den z1 z2 z3 ah al' qh ql r fh fl : Int) (w : World) (hd0 : den < 0) (hm0 : (decide (n < 0) == decide (num < 0)) = false) (hr : ¬ r = 0) (c : fh ≤ 0) (c' : 1152921504606846976 < fl) (b0 : 0 ≤ fh) (b1 : 0 ≤ fl) (b2 : fl ≤ 18446744073709551615)
    (s1 : ∀ W, Calls Try.prog 58 #[.int .i64 n] W fun e w' => e = .returned (.int .u64 z1) ∧ W = w') (s2 : ∀ W, Calls Try.prog 58 #[.int .i64 num] W fun e w' => e = .returned (.int .u64 z2) ∧ W = w') (s3 : ∀ W, Calls Try.prog 58 #[.int .i64 den] W fun e w' => e = .returned (.int .u64 z3) ∧ W = w')
    (hm : ∀ W, Calls Try.prog 60 #[.int .u64 z1, .int .u64 z2] W fun e w' => e = .returned (.agg #[.int .u64 ah, .int .u64 al']) ∧ Below W.heap.size W w')
    (hd : ∀ W, Calls Try.prog 59 #[.agg #[.int .u64 ah, .int .u64 al'], .agg #[.int .u64 0, .int .u64 z3]] W fun e w' => e = .returned (.tuple #[.agg #[.int .u64 qh, .int .u64 ql], .agg #[.int .u64 0, .int .u64 r]]) ∧ Below W.heap.size W w')
    (hp : ∀ W, Calls Try.prog 61 #[.agg #[.int .u64 qh, .int .u64 ql], .agg #[.int .u64 0, .int .u64 1]] W fun e w' => e = .returned (.agg #[.int .u64 fh, .int .u64 fl]) ∧ Below W.heap.size W w') :
    Calls Try.prog 36 #[.int .i64 n, .int .i64 num, .int .i64 den, .bool true] w fun e w' => e = .returned (.tuple #[.int .i64 (0), .bool false]) ∧ Below w.heap.size w w' := by
  have hr' : (r == 0) = false := by simp [hr]
  go_enter Try.func36, Try.ntmps36
  go_wp2_with (first | (go_at_call 58; first | ((with_reducible refine (s1 _).mono ?_); rintro e w1 ⟨rfl, rfl⟩) | ((with_reducible refine (s2 _).mono ?_); rintro e w1 ⟨rfl, rfl⟩) | ((with_reducible refine (s3 _).mono ?_); rintro e w1 ⟨rfl, rfl⟩)) | (go_at_call 60; (with_reducible refine (hm _).mono ?_); rintro e w1 ⟨rfl, hb⟩; have E := (envW_nil w).on hb; clear hb) | (go_at_call 59; (with_reducible refine (hd _).mono ?_); rintro e w2 ⟨rfl, hb⟩; have sz := (E.on hb).1.size; replace E := (E.on hb).add2 qh ql 0 r; clear hb; have C := E.cells; simp only [BW] at C) | (go_at_call 61; (with_reducible refine (hp _).mono ?_); rintro e w3 ⟨rfl, hb⟩; replace E := E.on hb; clear hb; replace C := E.cells; simp only [BW] at C))
  go_ret2
  exact ⟨rfl, by first | exact E.1 | exact (E.1.setCell (by simp; omega) _).setCell (by simp; omega) _⟩

set_option maxRecDepth 100000 in
set_option maxHeartbeats 4000000 in
theorem part_nfsf (n num den z1 z2 z3 ah al' qh ql r fh fl : Int) (w : World) (hd0 : den < 0) (hm0 : (decide (n < 0) == decide (num < 0)) = false) (hr : ¬ r = 0) (c : fh ≤ 0) (c' : fl ≤ 1152921504606846976) (b0 : 0 ≤ fh) (b1 : 0 ≤ fl) (b2 : fl ≤ 18446744073709551615)
    (s1 : ∀ W, Calls Try.prog 58 #[.int .i64 n] W fun e w' => e = .returned (.int .u64 z1) ∧ W = w') (s2 : ∀ W, Calls Try.prog 58 #[.int .i64 num] W fun e w' => e = .returned (.int .u64 z2) ∧ W = w') (s3 : ∀ W, Calls Try.prog 58 #[.int .i64 den] W fun e w' => e = .returned (.int .u64 z3) ∧ W = w')
    (hm : ∀ W, Calls Try.prog 60 #[.int .u64 z1, .int .u64 z2] W fun e w' => e = .returned (.agg #[.int .u64 ah, .int .u64 al']) ∧ Below W.heap.size W w')
    (hd : ∀ W, Calls Try.prog 59 #[.agg #[.int .u64 ah, .int .u64 al'], .agg #[.int .u64 0, .int .u64 z3]] W fun e w' => e = .returned (.tuple #[.agg #[.int .u64 qh, .int .u64 ql], .agg #[.int .u64 0, .int .u64 r]]) ∧ Below W.heap.size W w')
    (hp : ∀ W, Calls Try.prog 61 #[.agg #[.int .u64 qh, .int .u64 ql], .agg #[.int .u64 0, .int .u64 1]] W fun e w' => e = .returned (.agg #[.int .u64 fh, .int .u64 fl]) ∧ Below W.heap.size W w') :
    Calls Try.prog 36 #[.int .i64 n, .int .i64 num, .int .i64 den, .bool true] w fun e w' => e = .returned (.tuple #[.int .i64 (fl), .bool true]) ∧ Below w.heap.size w w' := by
  have hr' : (r == 0) = false := by simp [hr]
  go_enter Try.func36, Try.ntmps36
  go_wp2_with (first | (go_at_call 58; first | ((with_reducible refine (s1 _).mono ?_); rintro e w1 ⟨rfl, rfl⟩) | ((with_reducible refine (s2 _).mono ?_); rintro e w1 ⟨rfl, rfl⟩) | ((with_reducible refine (s3 _).mono ?_); rintro e w1 ⟨rfl, rfl⟩)) | (go_at_call 60; (with_reducible refine (hm _).mono ?_); rintro e w1 ⟨rfl, hb⟩; have E := (envW_nil w).on hb; clear hb) | (go_at_call 59; (with_reducible refine (hd _).mono ?_); rintro e w2 ⟨rfl, hb⟩; have sz := (E.on hb).1.size; replace E := (E.on hb).add2 qh ql 0 r; clear hb; have C := E.cells; simp only [BW] at C) | (go_at_call 61; (with_reducible refine (hp _).mono ?_); rintro e w3 ⟨rfl, hb⟩; replace E := E.on hb; clear hb; replace C := E.cells; simp only [BW] at C))
  go_ret2
  exact ⟨rfl, by first | exact E.1 | exact (E.1.setCell (by simp; omega) _).setCell (by simp; omega) _⟩

set_option maxRecDepth 100000 in
set_option maxHeartbeats 4000000 in
theorem part_ptrh (n num den z1 z2 z3 ah al' qh ql r : Int) (up : Bool) (w : World) (hd0 : ¬ den < 0) (hm0 : (!decide (n < 0) == decide (num < 0)) = true) (hr : r = 0) (c : 0 < qh) (b0 : 0 ≤ qh) (b1 : 0 ≤ ql) (b2 : ql ≤ 18446744073709551615)
    (s1 : ∀ W, Calls Try.prog 58 #[.int .i64 n] W fun e w' => e = .returned (.int .u64 z1) ∧ W = w') (s2 : ∀ W, Calls Try.prog 58 #[.int .i64 num] W fun e w' => e = .returned (.int .u64 z2) ∧ W = w') (s3 : ∀ W, Calls Try.prog 58 #[.int .i64 den] W fun e w' => e = .returned (.int .u64 z3) ∧ W = w')
    (hm : ∀ W, Calls Try.prog 60 #[.int .u64 z1, .int .u64 z2] W fun e w' => e = .returned (.agg #[.int .u64 ah, .int .u64 al']) ∧ Below W.heap.size W w')
    (hd : ∀ W, Calls Try.prog 59 #[.agg #[.int .u64 ah, .int .u64 al'], .agg #[.int .u64 0, .int .u64 z3]] W fun e w' => e = .returned (.tuple #[.agg #[.int .u64 qh, .int .u64 ql], .agg #[.int .u64 0, .int .u64 r]]) ∧ Below W.heap.size W w') :
    Calls Try.prog 36 #[.int .i64 n, .int .i64 num, .int .i64 den, .bool up] w fun e w' => e = .returned (.tuple #[.int .i64 (0), .bool false]) ∧ Below w.heap.size w w' := by
  subst hr
  go_enter Try.func36, Try.ntmps36
  go_wp2_with (first | (go_at_call 58; first | ((with_reducible refine (s1 _).mono ?_); rintro e w1 ⟨rfl, rfl⟩) | ((with_reducible refine (s2 _).mono ?_); rintro e w1 ⟨rfl, rfl⟩) | ((with_reducible refine (s3 _).mono ?_); rintro e w1 ⟨rfl, rfl⟩)) | (go_at_call 60; (with_reducible refine (hm _).mono ?_); rintro e w1 ⟨rfl, hb⟩; have E := (envW_nil w).on hb; clear hb) | (go_at_call 59; (with_reducible refine (hd _).mono ?_); rintro e w2 ⟨rfl, hb⟩; have sz := (E.on hb).1.size; replace E := (E.on hb).add2 qh ql 0 0; clear hb; have C := E.cells; simp only [BW] at C))
  go_ret2
  exact ⟨rfl, by first | exact E.1 | exact (E.1.setCell (by simp; omega) _).setCell (by simp; omega) _⟩

set_option maxRecDepth 100000 in
set_option maxHeartbeats 4000000 in
theorem part_ptrl (n num den z1 z2 z3 ah al' qh ql r : Int) (up : Bool) (w : World) (hd0 : ¬ den < 0) (hm0 : (!decide (n < 0) == decide (num < 0)) = true) (hr : r = 0) (c : qh ≤ 0) (c' : 1152921504606846976 < ql) (b0 : 0 ≤ qh) (b1 : 0 ≤ ql) (b2 : ql ≤ 18446744073709551615)
    (s1 : ∀ W, Calls Try.prog 58 #[.int .i64 n] W fun e w' => e = .returned (.int .u64 z1) ∧ W = w') (s2 : ∀ W, Calls Try.prog 58 #[.int .i64 num] W fun e w' => e = .returned (.int .u64 z2) ∧ W = w') (s3 : ∀ W, Calls Try.prog 58 #[.int .i64 den] W fun e w' => e = .returned (.int .u64 z3) ∧ W = w')
    (hm : ∀ W, Calls Try.prog 60 #[.int .u64 z1, .int .u64 z2] W fun e w' => e = .returned (.agg #[.int .u64 ah, .int .u64 al']) ∧ Below W.heap.size W w')
    (hd : ∀ W, Calls Try.prog 59 #[.agg #[.int .u64 ah, .int .u64 al'], .agg #[.int .u64 0, .int .u64 z3]] W fun e w' => e = .returned (.tuple #[.agg #[.int .u64 qh, .int .u64 ql], .agg #[.int .u64 0, .int .u64 r]]) ∧ Below W.heap.size W w') :
    Calls Try.prog 36 #[.int .i64 n, .int .i64 num, .int .i64 den, .bool up] w fun e w' => e = .returned (.tuple #[.int .i64 (0), .bool false]) ∧ Below w.heap.size w w' := by
  subst hr
  go_enter Try.func36, Try.ntmps36
  go_wp2_with (first | (go_at_call 58; first | ((with_reducible refine (s1 _).mono ?_); rintro e w1 ⟨rfl, rfl⟩) | ((with_reducible refine (s2 _).mono ?_); rintro e w1 ⟨rfl, rfl⟩) | ((with_reducible refine (s3 _).mono ?_); rintro e w1 ⟨rfl, rfl⟩)) | (go_at_call 60; (with_reducible refine (hm _).mono ?_); rintro e w1 ⟨rfl, hb⟩; have E := (envW_nil w).on hb; clear hb) | (go_at_call 59; (with_reducible refine (hd _).mono ?_); rintro e w2 ⟨rfl, hb⟩; have sz := (E.on hb).1.size; replace E := (E.on hb).add2 qh ql 0 0; clear hb; have C := E.cells; simp only [BW] at C))
  go_ret2
  exact ⟨rfl, by first | exact E.1 | exact (E.1.setCell (by simp; omega) _).setCell (by simp; omega) _⟩

set_option maxRecDepth 100000 in
set_option maxHeartbeats 4000000 in
theorem part_ptrf (n num den z1 z2 z3 ah al' qh ql r : Int) (up : Bool) (w : World) (hd0 : ¬ den < 0) (hm0 : (!decide (n < 0) == decide (num < 0)) = true) (hr : r = 0) (c : qh ≤ 0) (c' : ql ≤ 1152921504606846976) (b0 : 0 ≤ qh) (b1 : 0 ≤ ql) (b2 : ql ≤ 18446744073709551615)
    (s1 : ∀ W, Calls Try.prog 58 #[.int .i64 n] W fun e w' => e = .returned (.int .u64 z1) ∧ W = w') (s2 : ∀ W, Calls Try.prog 58 #[.int .i64 num] W fun e w' => e = .returned (.int .u64 z2) ∧ W = w') (s3 : ∀ W, Calls Try.prog 58 #[.int .i64 den] W fun e w' => e = .returned (.int .u64 z3) ∧ W = w')
    (hm : ∀ W, Calls Try.prog 60 #[.int .u64 z1, .int .u64 z2] W fun e w' => e = .returned (.agg #[.int .u64 ah, .int .u64 al']) ∧ Below W.heap.size W w')
    (hd : ∀ W, Calls Try.prog 59 #[.agg #[.int .u64 ah, .int .u64 al'], .agg #[.int .u64 0, .int .u64 z3]] W fun e w' => e = .returned (.tuple #[.agg #[.int .u64 qh, .int .u64 ql], .agg #[.int .u64 0, .int .u64 r]]) ∧ Below W.heap.size W w') :
    Calls Try.prog 36 #[.int .i64 n, .int .i64 num, .int .i64 den, .bool up] w fun e w' => e = .returned (.tuple #[.int .i64 (-ql), .bool true]) ∧ Below w.heap.size w w' := by
  subst hr
  have W1 : IntKind.i64.wrap (0 - ql) = -ql := by rw [IntWalk.i64_in (0 - ql) (by omega)]; omega
  go_enter Try.func36, Try.ntmps36
  go_wp2_with (first | (go_at_call 58; first | ((with_reducible refine (s1 _).mono ?_); rintro e w1 ⟨rfl, rfl⟩) | ((with_reducible refine (s2 _).mono ?_); rintro e w1 ⟨rfl, rfl⟩) | ((with_reducible refine (s3 _).mono ?_); rintro e w1 ⟨rfl, rfl⟩)) | (go_at_call 60; (with_reducible refine (hm _).mono ?_); rintro e w1 ⟨rfl, hb⟩; have E := (envW_nil w).on hb; clear hb) | (go_at_call 59; (with_reducible refine (hd _).mono ?_); rintro e w2 ⟨rfl, hb⟩; have sz := (E.on hb).1.size; replace E := (E.on hb).add2 qh ql 0 0; clear hb; have C := E.cells; simp only [BW] at C))
  go_ret2
  exact ⟨rfl, by first | exact E.1 | exact (E.1.setCell (by simp; omega) _).setCell (by simp; omega) _⟩

set_option maxRecDepth 100000 in
set_option maxHeartbeats 4000000 in
theorem part_pteh (n num den z1 z2 z3 ah al' qh ql r : Int) (w : World) (hd0 : ¬ den < 0) (hm0 : (!decide (n < 0) == decide (num < 0)) = true) (hr : ¬ r = 0) (c : 0 < qh) (b0 : 0 ≤ qh) (b1 : 0 ≤ ql) (b2 : ql ≤ 18446744073709551615)
    (s1 : ∀ W, Calls Try.prog 58 #[.int .i64 n] W fun e w' => e = .returned (.int .u64 z1) ∧ W = w') (s2 : ∀ W, Calls Try.prog 58 #[.int .i64 num] W fun e w' => e = .returned (.int .u64 z2) ∧ W = w') (s3 : ∀ W, Calls Try.prog 58 #[.int .i64 den] W fun e w' => e = .returned (.int .u64 z3) ∧ W = w')
    (hm : ∀ W, Calls Try.prog 60 #[.int .u64 z1, .int .u64 z2] W fun e w' => e = .returned (.agg #[.int .u64 ah, .int .u64 al']) ∧ Below W.heap.size W w')
    (hd : ∀ W, Calls Try.prog 59 #[.agg #[.int .u64 ah, .int .u64 al'], .agg #[.int .u64 0, .int .u64 z3]] W fun e w' => e = .returned (.tuple #[.agg #[.int .u64 qh, .int .u64 ql], .agg #[.int .u64 0, .int .u64 r]]) ∧ Below W.heap.size W w') :
    Calls Try.prog 36 #[.int .i64 n, .int .i64 num, .int .i64 den, .bool true] w fun e w' => e = .returned (.tuple #[.int .i64 (0), .bool false]) ∧ Below w.heap.size w w' := by
  have hr' : (r == 0) = false := by simp [hr]
  go_enter Try.func36, Try.ntmps36
  go_wp2_with (first | (go_at_call 58; first | ((with_reducible refine (s1 _).mono ?_); rintro e w1 ⟨rfl, rfl⟩) | ((with_reducible refine (s2 _).mono ?_); rintro e w1 ⟨rfl, rfl⟩) | ((with_reducible refine (s3 _).mono ?_); rintro e w1 ⟨rfl, rfl⟩)) | (go_at_call 60; (with_reducible refine (hm _).mono ?_); rintro e w1 ⟨rfl, hb⟩; have E := (envW_nil w).on hb; clear hb) | (go_at_call 59; (with_reducible refine (hd _).mono ?_); rintro e w2 ⟨rfl, hb⟩; have sz := (E.on hb).1.size; replace E := (E.on hb).add2 qh ql 0 r; clear hb; have C := E.cells; simp only [BW] at C))
  go_ret2
  exact ⟨rfl, by first | exact E.1 | exact (E.1.setCell (by simp; omega) _).setCell (by simp; omega) _⟩

set_option maxRecDepth 100000 in
set_option maxHeartbeats 4000000 in
theorem part_ptel (n num den z1 z2 z3 ah al' qh ql r : Int) (w : World) (hd0 : ¬ den < 0) (hm0 : (!decide (n < 0) == decide (num < 0)) = true) (hr : ¬ r = 0) (c : qh ≤ 0) (c' : 1152921504606846976 < ql) (b0 : 0 ≤ qh) (b1 : 0 ≤ ql) (b2 : ql ≤ 18446744073709551615)
    (s1 : ∀ W, Calls Try.prog 58 #[.int .i64 n] W fun e w' => e = .returned (.int .u64 z1) ∧ W = w') (s2 : ∀ W, Calls Try.prog 58 #[.int .i64 num] W fun e w' => e = .returned (.int .u64 z2) ∧ W = w') (s3 : ∀ W, Calls Try.prog 58 #[.int .i64 den] W fun e w' => e = .returned (.int .u64 z3) ∧ W = w')
    (hm : ∀ W, Calls Try.prog 60 #[.int .u64 z1, .int .u64 z2] W fun e w' => e = .returned (.agg #[.int .u64 ah, .int .u64 al']) ∧ Below W.heap.size W w')
    (hd : ∀ W, Calls Try.prog 59 #[.agg #[.int .u64 ah, .int .u64 al'], .agg #[.int .u64 0, .int .u64 z3]] W fun e w' => e = .returned (.tuple #[.agg #[.int .u64 qh, .int .u64 ql], .agg #[.int .u64 0, .int .u64 r]]) ∧ Below W.heap.size W w') :
    Calls Try.prog 36 #[.int .i64 n, .int .i64 num, .int .i64 den, .bool true] w fun e w' => e = .returned (.tuple #[.int .i64 (0), .bool false]) ∧ Below w.heap.size w w' := by
  have hr' : (r == 0) = false := by simp [hr]
  go_enter Try.func36, Try.ntmps36
  go_wp2_with (first | (go_at_call 58; first | ((with_reducible refine (s1 _).mono ?_); rintro e w1 ⟨rfl, rfl⟩) | ((with_reducible refine (s2 _).mono ?_); rintro e w1 ⟨rfl, rfl⟩) | ((with_reducible refine (s3 _).mono ?_); rintro e w1 ⟨rfl, rfl⟩)) | (go_at_call 60; (with_reducible refine (hm _).mono ?_); rintro e w1 ⟨rfl, hb⟩; have E := (envW_nil w).on hb; clear hb) | (go_at_call 59; (with_reducible refine (hd _).mono ?_); rintro e w2 ⟨rfl, hb⟩; have sz := (E.on hb).1.size; replace E := (E.on hb).add2 qh ql 0 r; clear hb; have C := E.cells; simp only [BW] at C))
  go_ret2
  exact ⟨rfl, by first | exact E.1 | exact (E.1.setCell (by simp; omega) _).setCell (by simp; omega) _⟩

set_option maxRecDepth 100000 in
set_option maxHeartbeats 4000000 in
theorem part_ptef (n num den z1 z2 z3 ah al' qh ql r : Int) (w : World) (hd0 : ¬ den < 0) (hm0 : (!decide (n < 0) == decide (num < 0)) = true) (hr : ¬ r = 0) (c : qh ≤ 0) (c' : ql ≤ 1152921504606846976) (b0 : 0 ≤ qh) (b1 : 0 ≤ ql) (b2 : ql ≤ 18446744073709551615)
    (s1 : ∀ W, Calls Try.prog 58 #[.int .i64 n] W fun e w' => e = .returned (.int .u64 z1) ∧ W = w') (s2 : ∀ W, Calls Try.prog 58 #[.int .i64 num] W fun e w' => e = .returned (.int .u64 z2) ∧ W = w') (s3 : ∀ W, Calls Try.prog 58 #[.int .i64 den] W fun e w' => e = .returned (.int .u64 z3) ∧ W = w')
    (hm : ∀ W, Calls Try.prog 60 #[.int .u64 z1, .int .u64 z2] W fun e w' => e = .returned (.agg #[.int .u64 ah, .int .u64 al']) ∧ Below W.heap.size W w')
    (hd : ∀ W, Calls Try.prog 59 #[.agg #[.int .u64 ah, .int .u64 al'], .agg #[.int .u64 0, .int .u64 z3]] W fun e w' => e = .returned (.tuple #[.agg #[.int .u64 qh, .int .u64 ql], .agg #[.int .u64 0, .int .u64 r]]) ∧ Below W.heap.size W w') :
    Calls Try.prog 36 #[.int .i64 n, .int .i64 num, .int .i64 den, .bool true] w fun e w' => e = .returned (.tuple #[.int .i64 (-ql), .bool true]) ∧ Below w.heap.size w w' := by
  have hr' : (r == 0) = false := by simp [hr]
  have W1 : IntKind.i64.wrap (0 - ql) = -ql := by rw [IntWalk.i64_in (0 - ql) (by omega)]; omega
  go_enter Try.func36, Try.ntmps36
  go_wp2_with (first | (go_at_call 58; first | ((with_reducible refine (s1 _).mono ?_); rintro e w1 ⟨rfl, rfl⟩) | ((with_reducible refine (s2 _).mono ?_); rintro e w1 ⟨rfl, rfl⟩) | ((with_reducible refine (s3 _).mono ?_); rintro e w1 ⟨rfl, rfl⟩)) | (go_at_call 60; (with_reducible refine (hm _).mono ?_); rintro e w1 ⟨rfl, hb⟩; have E := (envW_nil w).on hb; clear hb) | (go_at_call 59; (with_reducible refine (hd _).mono ?_); rintro e w2 ⟨rfl, hb⟩; have sz := (E.on hb).1.size; replace E := (E.on hb).add2 qh ql 0 r; clear hb; have C := E.cells; simp only [BW] at C))
  go_ret2
  exact ⟨rfl, by first | exact E.1 | exact (E.1.setCell (by simp; omega) _).setCell (by simp; omega) _⟩

set_option maxRecDepth 100000 in
set_option maxHeartbeats 4000000 in
theorem part_ptsh (n num den z1 z2 z3 ah al' qh ql r fh fl : Int) (w : World) (hd0 : ¬ den < 0) (hm0 : (!decide (n < 0) == decide (num < 0)) = true) (hr : ¬ r = 0) (c : 0 < fh) (b0 : 0 ≤ fh) (b1 : 0 ≤ fl) (b2 : fl ≤ 18446744073709551615)
    (s1 : ∀ W, Calls Try.prog 58 #[.int .i64 n] W fun e w' => e = .returned (.int .u64 z1) ∧ W = w') (s2 : ∀ W, Calls Try.prog 58 #[.int .i64 num] W fun e w' => e = .returned (.int .u64 z2) ∧ W = w') (s3 : ∀ W, Calls Try.prog 58 #[.int .i64 den] W fun e w' => e = .returned (.int .u64 z3) ∧ W = w')
    (hm : ∀ W, Calls Try.prog 60 #[.int .u64 z1, .int .u64 z2] W fun e w' => e = .returned (.agg #[.int .u64 ah, .int .u64 al']) ∧ Below W.heap.size W w')
    (hd : ∀ W, Calls Try.prog 59 #[.agg #[.int .u64 ah, .int .u64 al'], .agg #[.int .u64 0, .int .u64 z3]] W fun e w' => e = .returned (.tuple #[.agg #[.int .u64 qh, .int .u64 ql], .agg #[.int .u64 0, .int .u64 r]]) ∧ Below W.heap.size W w')
    (hp : ∀ W, Calls Try.prog 61 #[.agg #[.int .u64 qh, .int .u64 ql], .agg #[.int .u64 0, .int .u64 1]] W fun e w' => e = .returned (.agg #[.int .u64 fh, .int .u64 fl]) ∧ Below W.heap.size W w') :
    Calls Try.prog 36 #[.int .i64 n, .int .i64 num, .int .i64 den, .bool false] w fun e w' => e = .returned (.tuple #[.int .i64 (0), .bool false]) ∧ Below w.heap.size w w' := by
  have hr' : (r == 0) = false := by simp [hr]
  go_enter Try.func36, Try.ntmps36
  go_wp2_with (first | (go_at_call 58; first | ((with_reducible refine (s1 _).mono ?_); rintro e w1 ⟨rfl, rfl⟩) | ((with_reducible refine (s2 _).mono ?_); rintro e w1 ⟨rfl, rfl⟩) | ((with_reducible refine (s3 _).mono ?_); rintro e w1 ⟨rfl, rfl⟩)) | (go_at_call 60; (with_reducible refine (hm _).mono ?_); rintro e w1 ⟨rfl, hb⟩; have E := (envW_nil w).on hb; clear hb) | (go_at_call 59; (with_reducible refine (hd _).mono ?_); rintro e w2 ⟨rfl, hb⟩; have sz := (E.on hb).1.size; replace E := (E.on hb).add2 qh ql 0 r; clear hb; have C := E.cells; simp only [BW] at C) | (go_at_call 61; (with_reducible refine (hp _).mono ?_); rintro e w3 ⟨rfl, hb⟩; replace E := E.on hb; clear hb; replace C := E.cells; simp only [BW] at C))
  go_ret2
  exact ⟨rfl, by first | exact E.1 | exact (E.1.setCell (by simp; omega) _).setCell (by simp; omega) _⟩

set_option maxRecDepth 100000 in
set_option maxHeartbeats 4000000 in
theorem part_ptsl (n num den z1 z2 z3 ah al' qh ql r fh fl : Int) (w : World) (hd0 : ¬ den < 0) (hm0 : (!decide (n < 0) == decide (num < 0)) = true) (hr : ¬ r = 0) (c : fh ≤ 0) (c' : 1152921504606846976 < fl) (b0 : 0 ≤ fh) (b1 : 0 ≤ fl) (b2 : fl ≤ 18446744073709551615)
    (s1 : ∀ W, Calls Try.prog 58 #[.int .i64 n] W fun e w' => e = .returned (.int .u64 z1) ∧ W = w') (s2 : ∀ W, Calls Try.prog 58 #[.int .i64 num] W fun e w' => e = .returned (.int .u64 z2) ∧ W = w') (s3 : ∀ W, Calls Try.prog 58 #[.int .i64 den] W fun e w' => e = .returned (.int .u64 z3) ∧ W = w')
    (hm : ∀ W, Calls Try.prog 60 #[.int .u64 z1, .int .u64 z2] W fun e w' => e = .returned (.agg #[.int .u64 ah, .int .u64 al']) ∧ Below W.heap.size W w')
    (hd : ∀ W, Calls Try.prog 59 #[.agg #[.int .u64 ah, .int .u64 al'], .agg #[.int .u64 0, .int .u64 z3]] W fun e w' => e = .returned (.tuple #[.agg #[.int .u64 qh, .int .u64 ql], .agg #[.int .u64 0, .int .u64 r]]) ∧ Below W.heap.size W w')
    (hp : ∀ W, Calls Try.prog 61 #[.agg #[.int .u64 qh, .int .u64 ql], .agg #[.int .u64 0, .int .u64 1]] W fun e w' => e = .returned (.agg #[.int .u64 fh, .int .u64 fl]) ∧ Below W.heap.size W w') :
    Calls Try.prog 36 #[.int .i64 n, .int .i64 num, .int .i64 den, .bool false] w fun e w' => e = .returned (.tuple #[.int .i64 (0), .bool false]) ∧ Below w.heap.size w w' := by
  have hr' : (r == 0) = false := by simp [hr]
  go_enter Try.func36, Try.ntmps36
  go_wp2_with (first | (go_at_call 58; first | ((with_reducible refine (s1 _).mono ?_); rintro e w1 ⟨rfl, rfl⟩) | ((with_reducible refine (s2 _).mono ?_); rintro e w1 ⟨rfl, rfl⟩) | ((with_reducible refine (s3 _).mono ?_); rintro e w1 ⟨rfl, rfl⟩)) | (go_at_call 60; (with_reducible refine (hm _).mono ?_); rintro e w1 ⟨rfl, hb⟩; have E := (envW_nil w).on hb; clear hb) | (go_at_call 59; (with_reducible refine (hd _).mono ?_); rintro e w2 ⟨rfl, hb⟩; have sz := (E.on hb).1.size; replace E := (E.on hb).add2 qh ql 0 r; clear hb; have C := E.cells; simp only [BW] at C) | (go_at_call 61; (with_reducible refine (hp _).mono ?_); rintro e w3 ⟨rfl, hb⟩; replace E := E.on hb; clear hb; replace C := E.cells; simp only [BW] at C))
  go_ret2
  exact ⟨rfl, by first | exact E.1 | exact (E.1.setCell (by simp; omega) _).setCell (by simp; omega) _⟩

set_option maxRecDepth 100000 in
set_option maxHeartbeats 4000000 in
theorem part_ptsf (n num den z1 z2 z3 ah al' qh ql r fh fl : Int) (w : World) (hd0 : ¬ den < 0) (hm0 : (!decide (n < 0) == decide (num < 0)) = true) (hr : ¬ r = 0) (c : fh ≤ 0) (c' : fl ≤ 1152921504606846976) (b0 : 0 ≤ fh) (b1 : 0 ≤ fl) (b2 : fl ≤ 18446744073709551615)
    (s1 : ∀ W, Calls Try.prog 58 #[.int .i64 n] W fun e w' => e = .returned (.int .u64 z1) ∧ W = w') (s2 : ∀ W, Calls Try.prog 58 #[.int .i64 num] W fun e w' => e = .returned (.int .u64 z2) ∧ W = w') (s3 : ∀ W, Calls Try.prog 58 #[.int .i64 den] W fun e w' => e = .returned (.int .u64 z3) ∧ W = w')
    (hm : ∀ W, Calls Try.prog 60 #[.int .u64 z1, .int .u64 z2] W fun e w' => e = .returned (.agg #[.int .u64 ah, .int .u64 al']) ∧ Below W.heap.size W w')
    (hd : ∀ W, Calls Try.prog 59 #[.agg #[.int .u64 ah, .int .u64 al'], .agg #[.int .u64 0, .int .u64 z3]] W fun e w' => e = .returned (.tuple #[.agg #[.int .u64 qh, .int .u64 ql], .agg #[.int .u64 0, .int .u64 r]]) ∧ Below W.heap.size W w')
    (hp : ∀ W, Calls Try.prog 61 #[.agg #[.int .u64 qh, .int .u64 ql], .agg #[.int .u64 0, .int .u64 1]] W fun e w' => e = .returned (.agg #[.int .u64 fh, .int .u64 fl]) ∧ Below W.heap.size W w') :
    Calls Try.prog 36 #[.int .i64 n, .int .i64 num, .int .i64 den, .bool false] w fun e w' => e = .returned (.tuple #[.int .i64 (-fl), .bool true]) ∧ Below w.heap.size w w' := by
  have hr' : (r == 0) = false := by simp [hr]
  have W1 : IntKind.i64.wrap (0 - fl) = -fl := by rw [IntWalk.i64_in (0 - fl) (by omega)]; omega
  go_enter Try.func36, Try.ntmps36
  go_wp2_with (first | (go_at_call 58; first | ((with_reducible refine (s1 _).mono ?_); rintro e w1 ⟨rfl, rfl⟩) | ((with_reducible refine (s2 _).mono ?_); rintro e w1 ⟨rfl, rfl⟩) | ((with_reducible refine (s3 _).mono ?_); rintro e w1 ⟨rfl, rfl⟩)) | (go_at_call 60; (with_reducible refine (hm _).mono ?_); rintro e w1 ⟨rfl, hb⟩; have E := (envW_nil w).on hb; clear hb) | (go_at_call 59; (with_reducible refine (hd _).mono ?_); rintro e w2 ⟨rfl, hb⟩; have sz := (E.on hb).1.size; replace E := (E.on hb).add2 qh ql 0 r; clear hb; have C := E.cells; simp only [BW] at C) | (go_at_call 61; (with_reducible refine (hp _).mono ?_); rintro e w3 ⟨rfl, hb⟩; replace E := E.on hb; clear hb; replace C := E.cells; simp only [BW] at C))
  go_ret2
  exact ⟨rfl, by first | exact E.1 | exact (E.1.setCell (by simp; omega) _).setCell (by simp; omega) _⟩

set_option maxRecDepth 100000 in
set_option maxHeartbeats 4000000 in
theorem part_pfrh (n num den z1 z2 z3 ah al' qh ql r : Int) (up : Bool) (w : World) (hd0 : ¬ den < 0) (hm0 : (!decide (n < 0) == decide (num < 0)) = false) (hr : r = 0) (c : 0 < qh) (b0 : 0 ≤ qh) (b1 : 0 ≤ ql) (b2 : ql ≤ 18446744073709551615)
    (s1 : ∀ W, Calls Try.prog 58 #[.int .i64 n] W fun e w' => e = .returned (.int .u64 z1) ∧ W = w') (s2 : ∀ W, Calls Try.prog 58 #[.int .i64 num] W fun e w' => e = .returned (.int .u64 z2) ∧ W = w') (s3 : ∀ W, Calls Try.prog 58 #[.int .i64 den] W fun e w' => e = .returned (.int .u64 z3) ∧ W = w')
    (hm : ∀ W, Calls Try.prog 60 #[.int .u64 z1, .int .u64 z2] W fun e w' => e = .returned (.agg #[.int .u64 ah, .int .u64 al']) ∧ Below W.heap.size W w')
    (hd : ∀ W, Calls Try.prog 59 #[.agg #[.int .u64 ah, .int .u64 al'], .agg #[.int .u64 0, .int .u64 z3]] W fun e w' => e = .returned (.tuple #[.agg #[.int .u64 qh, .int .u64 ql], .agg #[.int .u64 0, .int .u64 r]]) ∧ Below W.heap.size W w') :
    Calls Try.prog 36 #[.int .i64 n, .int .i64 num, .int .i64 den, .bool up] w fun e w' => e = .returned (.tuple #[.int .i64 (0), .bool false]) ∧ Below w.heap.size w w' := by
  subst hr
  go_enter Try.func36, Try.ntmps36
  go_wp2_with (first | (go_at_call 58; first | ((with_reducible refine (s1 _).mono ?_); rintro e w1 ⟨rfl, rfl⟩) | ((with_reducible refine (s2 _).mono ?_); rintro e w1 ⟨rfl, rfl⟩) | ((with_reducible refine (s3 _).mono ?_); rintro e w1 ⟨rfl, rfl⟩)) | (go_at_call 60; (with_reducible refine (hm _).mono ?_); rintro e w1 ⟨rfl, hb⟩; have E := (envW_nil w).on hb; clear hb) | (go_at_call 59; (with_reducible refine (hd _).mono ?_); rintro e w2 ⟨rfl, hb⟩; have sz := (E.on hb).1.size; replace E := (E.on hb).add2 qh ql 0 0; clear hb; have C := E.cells; simp only [BW] at C))
  go_ret2
  exact ⟨rfl, by first | exact E.1 | exact (E.1.setCell (by simp; omega) _).setCell (by simp; omega) _⟩

set_option maxRecDepth 100000 in
set_option maxHeartbeats 4000000 in
theorem part_pfrl (n num den z1 z2 z3 ah al' qh ql r : Int) (up : Bool) (w : World) (hd0 : ¬ den < 0) (hm0 : (!decide (n < 0) == decide (num < 0)) = false) (hr : r = 0) (c : qh ≤ 0) (c' : 1152921504606846976 < ql) (b0 : 0 ≤ qh) (b1 : 0 ≤ ql) (b2 : ql ≤ 18446744073709551615)
    (s1 : ∀ W, Calls Try.prog 58 #[.int .i64 n] W fun e w' => e = .returned (.int .u64 z1) ∧ W = w') (s2 : ∀ W, Calls Try.prog 58 #[.int .i64 num] W fun e w' => e = .returned (.int .u64 z2) ∧ W = w') (s3 : ∀ W, Calls Try.prog 58 #[.int .i64 den] W fun e w' => e = .returned (.int .u64 z3) ∧ W = w')
    (hm : ∀ W, Calls Try.prog 60 #[.int .u64 z1, .int .u64 z2] W fun e w' => e = .returned (.agg #[.int .u64 ah, .int .u64 al']) ∧ Below W.heap.size W w')
    (hd : ∀ W, Calls Try.prog 59 #[.agg #[.int .u64 ah, .int .u64 al'], .agg #[.int .u64 0, .int .u64 z3]] W fun e w' => e = .returned (.tuple #[.agg #[.int .u64 qh, .int .u64 ql], .agg #[.int .u64 0, .int .u64 r]]) ∧ Below W.heap.size W w') :
    Calls Try.prog 36 #[.int .i64 n, .int .i64 num, .int .i64 den, .bool up] w fun e w' => e = .returned (.tuple #[.int .i64 (0), .bool false]) ∧ Below w.heap.size w w' := by
  subst hr
  go_enter Try.func36, Try.ntmps36
  go_wp2_with (first | (go_at_call 58; first | ((with_reducible refine (s1 _).mono ?_); rintro e w1 ⟨rfl, rfl⟩) | ((with_reducible refine (s2 _).mono ?_); rintro e w1 ⟨rfl, rfl⟩) | ((with_reducible refine (s3 _).mono ?_); rintro e w1 ⟨rfl, rfl⟩)) | (go_at_call 60; (with_reducible refine (hm _).mono ?_); rintro e w1 ⟨rfl, hb⟩; have E := (envW_nil w).on hb; clear hb) | (go_at_call 59; (with_reducible refine (hd _).mono ?_); rintro e w2 ⟨rfl, hb⟩; have sz := (E.on hb).1.size; replace E := (E.on hb).add2 qh ql 0 0; clear hb; have C := E.cells; simp only [BW] at C))
  go_ret2
  exact ⟨rfl, by first | exact E.1 | exact (E.1.setCell (by simp; omega) _).setCell (by simp; omega) _⟩

set_option maxRecDepth 100000 in
set_option maxHeartbeats 4000000 in
theorem part_pfrf (n num den z1 z2 z3 ah al' qh ql r : Int) (up : Bool) (w : World) (hd0 : ¬ den < 0) (hm0 : (!decide (n < 0) == decide (num < 0)) = false) (hr : r = 0) (c : qh ≤ 0) (c' : ql ≤ 1152921504606846976) (b0 : 0 ≤ qh) (b1 : 0 ≤ ql) (b2 : ql ≤ 18446744073709551615)
    (s1 : ∀ W, Calls Try.prog 58 #[.int .i64 n] W fun e w' => e = .returned (.int .u64 z1) ∧ W = w') (s2 : ∀ W, Calls Try.prog 58 #[.int .i64 num] W fun e w' => e = .returned (.int .u64 z2) ∧ W = w') (s3 : ∀ W, Calls Try.prog 58 #[.int .i64 den] W fun e w' => e = .returned (.int .u64 z3) ∧ W = w')
    (hm : ∀ W, Calls Try.prog 60 #[.int .u64 z1, .int .u64 z2] W fun e w' => e = .returned (.agg #[.int .u64 ah, .int .u64 al']) ∧ Below W.heap.size W w')
    (hd : ∀ W, Calls Try.prog 59 #[.agg #[.int .u64 ah, .int .u64 al'], .agg #[.int .u64 0, .int .u64 z3]] W fun e w' => e = .returned (.tuple #[.agg #[.int .u64 qh, .int .u64 ql], .agg #[.int .u64 0, .int .u64 r]]) ∧ Below W.heap.size W w') :
    Calls Try.prog 36 #[.int .i64 n, .int .i64 num, .int .i64 den, .bool up] w fun e w' => e = .returned (.tuple #[.int .i64 (ql), .bool true]) ∧ Below w.heap.size w w' := by
  subst hr
  go_enter Try.func36, Try.ntmps36
  go_wp2_with (first | (go_at_call 58; first | ((with_reducible refine (s1 _).mono ?_); rintro e w1 ⟨rfl, rfl⟩) | ((with_reducible refine (s2 _).mono ?_); rintro e w1 ⟨rfl, rfl⟩) | ((with_reducible refine (s3 _).mono ?_); rintro e w1 ⟨rfl, rfl⟩)) | (go_at_call 60; (with_reducible refine (hm _).mono ?_); rintro e w1 ⟨rfl, hb⟩; have E := (envW_nil w).on hb; clear hb) | (go_at_call 59; (with_reducible refine (hd _).mono ?_); rintro e w2 ⟨rfl, hb⟩; have sz := (E.on hb).1.size; replace E := (E.on hb).add2 qh ql 0 0; clear hb; have C := E.cells; simp only [BW] at C))
  go_ret2
  exact ⟨rfl, by first | exact E.1 | exact (E.1.setCell (by simp; omega) _).setCell (by simp; omega) _⟩

set_option maxRecDepth 100000 in
set_option maxHeartbeats 4000000 in
theorem part_pfeh (n num den z1 z2 z3 ah al' qh ql r : Int) (w : World) (hd0 : ¬ den < 0) (hm0 : (!decide (n < 0) == decide (num < 0)) = false) (hr : ¬ r = 0) (c : 0 < qh) (b0 : 0 ≤ qh) (b1 : 0 ≤ ql) (b2 : ql ≤ 18446744073709551615)
    (s1 : ∀ W, Calls Try.prog 58 #[.int .i64 n] W fun e w' => e = .returned (.int .u64 z1) ∧ W = w') (s2 : ∀ W, Calls Try.prog 58 #[.int .i64 num] W fun e w' => e = .returned (.int .u64 z2) ∧ W = w') (s3 : ∀ W, Calls Try.prog 58 #[.int .i64 den] W fun e w' => e = .returned (.int .u64 z3) ∧ W = w')
    (hm : ∀ W, Calls Try.prog 60 #[.int .u64 z1, .int .u64 z2] W fun e w' => e = .returned (.agg #[.int .u64 ah, .int .u64 al']) ∧ Below W.heap.size W w')
    (hd : ∀ W, Calls Try.prog 59 #[.agg #[.int .u64 ah, .int .u64 al'], .agg #[.int .u64 0, .int .u64 z3]] W fun e w' => e = .returned (.tuple #[.agg #[.int .u64 qh, .int .u64 ql], .agg #[.int .u64 0, .int .u64 r]]) ∧ Below W.heap.size W w') :
    Calls Try.prog 36 #[.int .i64 n, .int .i64 num, .int .i64 den, .bool false] w fun e w' => e = .returned (.tuple #[.int .i64 (0), .bool false]) ∧ Below w.heap.size w w' := by
  have hr' : (r == 0) = false := by simp [hr]
  go_enter Try.func36, Try.ntmps36
  go_wp2_with (first | (go_at_call 58; first | ((with_reducible refine (s1 _).mono ?_); rintro e w1 ⟨rfl, rfl⟩) | ((with_reducible refine (s2 _).mono ?_); rintro e w1 ⟨rfl, rfl⟩) | ((with_reducible refine (s3 _).mono ?_); rintro e w1 ⟨rfl, rfl⟩)) | (go_at_call 60; (with_reducible refine (hm _).mono ?_); rintro e w1 ⟨rfl, hb⟩; have E := (envW_nil w).on hb; clear hb) | (go_at_call 59; (with_reducible refine (hd _).mono ?_); rintro e w2 ⟨rfl, hb⟩; have sz := (E.on hb).1.size; replace E := (E.on hb).add2 qh ql 0 r; clear hb; have C := E.cells; simp only [BW] at C))
  go_ret2
  exact ⟨rfl, by first | exact E.1 | exact (E.1.setCell (by simp; omega) _).setCell (by simp; omega) _⟩

set_option maxRecDepth 100000 in
set_option maxHeartbeats 4000000 in
theorem part_pfel (n num den z1 z2 z3 ah al' qh ql r : Int) (w : World) (hd0 : ¬ den < 0) (hm0 : (!decide (n < 0) == decide (num < 0)) = false) (hr : ¬ r = 0) (c : qh ≤ 0) (c' : 1152921504606846976 < ql) (b0 : 0 ≤ qh) (b1 : 0 ≤ ql) (b2 : ql ≤ 18446744073709551615)
    (s1 : ∀ W, Calls Try.prog 58 #[.int .i64 n] W fun e w' => e = .returned (.int .u64 z1) ∧ W = w') (s2 : ∀ W, Calls Try.prog 58 #[.int .i64 num] W fun e w' => e = .returned (.int .u64 z2) ∧ W = w') (s3 : ∀ W, Calls Try.prog 58 #[.int .i64 den] W fun e w' => e = .returned (.int .u64 z3) ∧ W = w')
    (hm : ∀ W, Calls Try.prog 60 #[.int .u64 z1, .int .u64 z2] W fun e w' => e = .returned (.agg #[.int .u64 ah, .int .u64 al']) ∧ Below W.heap.size W w')
    (hd : ∀ W, Calls Try.prog 59 #[.agg #[.int .u64 ah, .int .u64 al'], .agg #[.int .u64 0, .int .u64 z3]] W fun e w' => e = .returned (.tuple #[.agg #[.int .u64 qh, .int .u64 ql], .agg #[.int .u64 0, .int .u64 r]]) ∧ Below W.heap.size W w') :
    Calls Try.prog 36 #[.int .i64 n, .int .i64 num, .int .i64 den, .bool false] w fun e w' => e = .returned (.tuple #[.int .i64 (0), .bool false]) ∧ Below w.heap.size w w' := by
  have hr' : (r == 0) = false := by simp [hr]
  go_enter Try.func36, Try.ntmps36
  go_wp2_with (first | (go_at_call 58; first | ((with_reducible refine (s1 _).mono ?_); rintro e w1 ⟨rfl, rfl⟩) | ((with_reducible refine (s2 _).mono ?_); rintro e w1 ⟨rfl, rfl⟩) | ((with_reducible refine (s3 _).mono ?_); rintro e w1 ⟨rfl, rfl⟩)) | (go_at_call 60; (with_reducible refine (hm _).mono ?_); rintro e w1 ⟨rfl, hb⟩; have E := (envW_nil w).on hb; clear hb) | (go_at_call 59; (with_reducible refine (hd _).mono ?_); rintro e w2 ⟨rfl, hb⟩; have sz := (E.on hb).1.size; replace E := (E.on hb).add2 qh ql 0 r; clear hb; have C := E.cells; simp only [BW] at C))
  go_ret2
  exact ⟨rfl, by first | exact E.1 | exact (E.1.setCell (by simp; omega) _).setCell (by simp; omega) _⟩

set_option maxRecDepth 100000 in
set_option maxHeartbeats 4000000 in
theorem part_pfef (n num den z1 z2 z3 ah al' qh ql r : Int) (w : World) (hd0 : ¬ den < 0) (hm0 : (!decide (n < 0) == decide (num < 0)) = false) (hr : ¬ r = 0) (c : qh ≤ 0) (c' : ql ≤ 1152921504606846976) (b0 : 0 ≤ qh) (b1 : 0 ≤ ql) (b2 : ql ≤ 18446744073709551615)
    (s1 : ∀ W, Calls Try.prog 58 #[.int .i64 n] W fun e w' => e = .returned (.int .u64 z1) ∧ W = w') (s2 : ∀ W, Calls Try.prog 58 #[.int .i64 num] W fun e w' => e = .returned (.int .u64 z2) ∧ W = w') (s3 : ∀ W, Calls Try.prog 58 #[.int .i64 den] W fun e w' => e = .returned (.int .u64 z3) ∧ W = w')
    (hm : ∀ W, Calls Try.prog 60 #[.int .u64 z1, .int .u64 z2] W fun e w' => e = .returned (.agg #[.int .u64 ah, .int .u64 al']) ∧ Below W.heap.size W w')
    (hd : ∀ W, Calls Try.prog 59 #[.agg #[.int .u64 ah, .int .u64 al'], .agg #[.int .u64 0, .int .u64 z3]] W fun e w' => e = .returned (.tuple #[.agg #[.int .u64 qh, .int .u64 ql], .agg #[.int .u64 0, .int .u64 r]]) ∧ Below W.heap.size W w') :
    Calls Try.prog 36 #[.int .i64 n, .int .i64 num, .int .i64 den, .bool false] w fun e w' => e = .returned (.tuple #[.int .i64 (ql), .bool true]) ∧ Below w.heap.size w w' := by
  have hr' : (r == 0) = false := by simp [hr]
  go_enter Try.func36, Try.ntmps36
  go_wp2_with (first | (go_at_call 58; first | ((with_reducible refine (s1 _).mono ?_); rintro e w1 ⟨rfl, rfl⟩) | ((with_reducible refine (s2 _).mono ?_); rintro e w1 ⟨rfl, rfl⟩) | ((with_reducible refine (s3 _).mono ?_); rintro e w1 ⟨rfl, rfl⟩)) | (go_at_call 60; (with_reducible refine (hm _).mono ?_); rintro e w1 ⟨rfl, hb⟩; have E := (envW_nil w).on hb; clear hb) | (go_at_call 59; (with_reducible refine (hd _).mono ?_); rintro e w2 ⟨rfl, hb⟩; have sz := (E.on hb).1.size; replace E := (E.on hb).add2 qh ql 0 r; clear hb; have C := E.cells; simp only [BW] at C))
  go_ret2
  exact ⟨rfl, by first | exact E.1 | exact (E.1.setCell (by simp; omega) _).setCell (by simp; omega) _⟩

set_option maxRecDepth 100000 in
set_option maxHeartbeats 4000000 in
theorem part_pfsh (n num den z1 z2 z3 ah al' qh ql r fh fl : Int) (w : World) (hd0 : ¬ den < 0) (hm0 : (!decide (n < 0) == decide (num < 0)) = false) (hr : ¬ r = 0) (c : 0 < fh) (b0 : 0 ≤ fh) (b1 : 0 ≤ fl) (b2 : fl ≤ 18446744073709551615)
    (s1 : ∀ W, Calls Try.prog 58 #[.int .i64 n] W fun e w' => e = .returned (.int .u64 z1) ∧ W = w') (s2 : ∀ W, Calls Try.prog 58 #[.int .i64 num] W fun e w' => e = .returned (.int .u64 z2) ∧ W = w') (s3 : ∀ W, Calls Try.prog 58 #[.int .i64 den] W fun e w' => e = .returned (.int .u64 z3) ∧ W = w')
    (hm : ∀ W, Calls Try.prog 60 #[.int .u64 z1, .int .u64 z2] W fun e w' => e = .returned (.agg #[.int .u64 ah, .int .u64 al']) ∧ Below W.heap.size W w')
    (hd : ∀ W, Calls Try.prog 59 #[.agg #[.int .u64 ah, .int .u64 al'], .agg #[.int .u64 0, .int .u64 z3]] W fun e w' => e = .returned (.tuple #[.agg #[.int .u64 qh, .int .u64 ql], .agg #[.int .u64 0, .int .u64 r]]) ∧ Below W.heap.size W w')
    (hp : ∀ W, Calls Try.prog 61 #[.agg #[.int .u64 qh, .int .u64 ql], .agg #[.int .u64 0, .int .u64 1]] W fun e w' => e = .returned (.agg #[.int .u64 fh, .int .u64 fl]) ∧ Below W.heap.size W w') :
    Calls Try.prog 36 #[.int .i64 n, .int .i64 num, .int .i64 den, .bool true] w fun e w' => e = .returned (.tuple #[.int .i64 (0), .bool false]) ∧ Below w.heap.size w w' := by
  have hr' : (r == 0) = false := by simp [hr]
  go_enter Try.func36, Try.ntmps36
  go_wp2_with (first | (go_at_call 58; first | ((with_reducible refine (s1 _).mono ?_); rintro e w1 ⟨rfl, rfl⟩) | ((with_reducible refine (s2 _).mono ?_); rintro e w1 ⟨rfl, rfl⟩) | ((with_reducible refine (s3 _).mono ?_); rintro e w1 ⟨rfl, rfl⟩)) | (go_at_call 60; (with_reducible refine (hm _).mono ?_); rintro e w1 ⟨rfl, hb⟩; have E := (envW_nil w).on hb; clear hb) | (go_at_call 59; (with_reducible refine (hd _).mono ?_); rintro e w2 ⟨rfl, hb⟩; have sz := (E.on hb).1.size; replace E := (E.on hb).add2 qh ql 0 r; clear hb; have C := E.cells; simp only [BW] at C) | (go_at_call 61; (with_reducible refine (hp _).mono ?_); rintro e w3 ⟨rfl, hb⟩; replace E := E.on hb; clear hb; replace C := E.cells; simp only [BW] at C))
  go_ret2
  exact ⟨rfl, by first | exact E.1 | exact (E.1.setCell (by simp; omega) _).setCell (by simp; omega) _⟩

set_option maxRecDepth 100000 in
set_option maxHeartbeats 4000000 in
theorem part_pfsl (n num den z1 z2 z3 ah al' qh ql r fh fl : Int) (w : World) (hd0 : ¬ den < 0) (hm0 : (!decide (n < 0) == decide (num < 0)) = false) (hr : ¬ r = 0) (c : fh ≤ 0) (c' : 1152921504606846976 < fl) (b0 : 0 ≤ fh) (b1 : 0 ≤ fl) (b2 : fl ≤ 18446744073709551615)
    (s1 : ∀ W, Calls Try.prog 58 #[.int .i64 n] W fun e w' => e = .returned (.int .u64 z1) ∧ W = w') (s2 : ∀ W, Calls Try.prog 58 #[.int .i64 num] W fun e w' => e = .returned (.int .u64 z2) ∧ W = w') (s3 : ∀ W, Calls Try.prog 58 #[.int .i64 den] W fun e w' => e = .returned (.int .u64 z3) ∧ W = w')
    (hm : ∀ W, Calls Try.prog 60 #[.int .u64 z1, .int .u64 z2] W fun e w' => e = .returned (.agg #[.int .u64 ah, .int .u64 al']) ∧ Below W.heap.size W w')
    (hd : ∀ W, Calls Try.prog 59 #[.agg #[.int .u64 ah, .int .u64 al'], .agg #[.int .u64 0, .int .u64 z3]] W fun e w' => e = .returned (.tuple #[.agg #[.int .u64 qh, .int .u64 ql], .agg #[.int .u64 0, .int .u64 r]]) ∧ Below W.heap.size W w')
    (hp : ∀ W, Calls Try.prog 61 #[.agg #[.int .u64 qh, .int .u64 ql], .agg #[.int .u64 0, .int .u64 1]] W fun e w' => e = .returned (.agg #[.int .u64 fh, .int .u64 fl]) ∧ Below W.heap.size W w') :
    Calls Try.prog 36 #[.int .i64 n, .int .i64 num, .int .i64 den, .bool true] w fun e w' => e = .returned (.tuple #[.int .i64 (0), .bool false]) ∧ Below w.heap.size w w' := by
  have hr' : (r == 0) = false := by simp [hr]
  go_enter Try.func36, Try.ntmps36
  go_wp2_with (first | (go_at_call 58; first | ((with_reducible refine (s1 _).mono ?_); rintro e w1 ⟨rfl, rfl⟩) | ((with_reducible refine (s2 _).mono ?_); rintro e w1 ⟨rfl, rfl⟩) | ((with_reducible refine (s3 _).mono ?_); rintro e w1 ⟨rfl, rfl⟩)) | (go_at_call 60; (with_reducible refine (hm _).mono ?_); rintro e w1 ⟨rfl, hb⟩; have E := (envW_nil w).on hb; clear hb) | (go_at_call 59; (with_reducible refine (hd _).mono ?_); rintro e w2 ⟨rfl, hb⟩; have sz := (E.on hb).1.size; replace E := (E.on hb).add2 qh ql 0 r; clear hb; have C := E.cells; simp only [BW] at C) | (go_at_call 61; (with_reducible refine (hp _).mono ?_); rintro e w3 ⟨rfl, hb⟩; replace E := E.on hb; clear hb; replace C := E.cells; simp only [BW] at C))
  go_ret2
  exact ⟨rfl, by first | exact E.1 | exact (E.1.setCell (by simp; omega) _).setCell (by simp; omega) _⟩

set_option maxRecDepth 100000 in
set_option maxHeartbeats 4000000 in
theorem part_pfsf (n num den z1 z2 z3 ah al' qh ql r fh fl : Int) (w : World) (hd0 : ¬ den < 0) (hm0 : (!decide (n < 0) == decide (num < 0)) = false) (hr : ¬ r = 0) (c : fh ≤ 0) (c' : fl ≤ 1152921504606846976) (b0 : 0 ≤ fh) (b1 : 0 ≤ fl) (b2 : fl ≤ 18446744073709551615)
    (s1 : ∀ W, Calls Try.prog 58 #[.int .i64 n] W fun e w' => e = .returned (.int .u64 z1) ∧ W = w') (s2 : ∀ W, Calls Try.prog 58 #[.int .i64 num] W fun e w' => e = .returned (.int .u64 z2) ∧ W = w') (s3 : ∀ W, Calls Try.prog 58 #[.int .i64 den] W fun e w' => e = .returned (.int .u64 z3) ∧ W = w')
    (hm : ∀ W, Calls Try.prog 60 #[.int .u64 z1, .int .u64 z2] W fun e w' => e = .returned (.agg #[.int .u64 ah, .int .u64 al']) ∧ Below W.heap.size W w')
    (hd : ∀ W, Calls Try.prog 59 #[.agg #[.int .u64 ah, .int .u64 al'], .agg #[.int .u64 0, .int .u64 z3]] W fun e w' => e = .returned (.tuple #[.agg #[.int .u64 qh, .int .u64 ql], .agg #[.int .u64 0, .int .u64 r]]) ∧ Below W.heap.size W w')
    (hp : ∀ W, Calls Try.prog 61 #[.agg #[.int .u64 qh, .int .u64 ql], .agg #[.int .u64 0, .int .u64 1]] W fun e w' => e = .returned (.agg #[.int .u64 fh, .int .u64 fl]) ∧ Below W.heap.size W w') :
    Calls Try.prog 36 #[.int .i64 n, .int .i64 num, .int .i64 den, .bool true] w fun e w' => e = .returned (.tuple #[.int .i64 (fl), .bool true]) ∧ Below w.heap.size w w' := by
  have hr' : (r == 0) = false := by simp [hr]
  go_enter Try.func36, Try.ntmps36
  go_wp2_with (first | (go_at_call 58; first | ((with_reducible refine (s1 _).mono ?_); rintro e w1 ⟨rfl, rfl⟩) | ((with_reducible refine (s2 _).mono ?_); rintro e w1 ⟨rfl, rfl⟩) | ((with_reducible refine (s3 _).mono ?_); rintro e w1 ⟨rfl, rfl⟩)) | (go_at_call 60; (with_reducible refine (hm _).mono ?_); rintro e w1 ⟨rfl, hb⟩; have E := (envW_nil w).on hb; clear hb) | (go_at_call 59; (with_reducible refine (hd _).mono ?_); rintro e w2 ⟨rfl, hb⟩; have sz := (E.on hb).1.size; replace E := (E.on hb).add2 qh ql 0 r; clear hb; have C := E.cells; simp only [BW] at C) | (go_at_call 61; (with_reducible refine (hp _).mono ?_); rintro e w3 ⟨rfl, hb⟩; replace E := E.on hb; clear hb; replace C := E.cells; simp only [BW] at C))
  go_ret2
  exact ⟨rfl, by first | exact E.1 | exact (E.1.setCell (by simp; omega) _).setCell (by simp; omega) _⟩
end Go.Proofs.Ytplepbaafamjfaa
