/- The reference's Div: the walk of its 128 rounds, where the dividend has one word. -/
import Derived.Test.YtbbbmlnggehcdaaDoorRt0
namespace Go.Proofs.YtbbbmlnggehcdaaDoor
open Go.ChangeShapes Go.WideShapes Go.ChangeAt Go.RowKit
set_option linter.unusedVariables false
set_option linter.unusedSimpArgs false


set_option maxRecDepth 100000 in
set_option maxHeartbeats 40000000 in
theorem div_slow2 (x y : Int) (w : World) (hx : UU x) (hy : 0 < y ∧ y < 170141183460469231731687303715884105728) (c1 : uH x = 0) (c2 : (uH y == 0) = false) :
    Calls Tryd.prog 63 #[.agg #[.int .u64 0, .int .u64 (uL x)], .agg #[.int .u64 (uH y), .int .u64 (uL y)]] w fun e w' => e = .returned (.tuple #[.agg #[.int .u64 (uH (divq x y)), .int .u64 (uL (divq x y))], .agg #[.int .u64 (uH (divr x y)), .int .u64 (uL (divr x y))]]) ∧ Below w.heap.size w w' := by
  have D1 := qua_start w x y
  rw [c1] at D1
  have D0 := Lib.hid D1; clear D1 c1
  have I0 := Lib.hid (DI.start hx hy.1)
  have uy : UU y := ⟨by omega, by omega⟩
  have HY := Lib.hid hy; clear hy
  have HX := Lib.hid hx; clear hx
  go_enter Tryd.func63, Tryd.ntmps63
  go_wp2
  clear c2
  go_loopw [8] (fun v8 wr => ∃ (a q r : Int) (i n : Nat), v8 = .int .i64 i ∧ Qua w wr a y q r ∧ Hid (DI x y q r a i n)) (fun v8 _ => 128 - (intOf v8).toNat)
  case atStart => exact ⟨x, 0, 0, 0, 128, rfl, D0.out, I0⟩
  case round =>
    clear D0 I0
    obtain ⟨a, q, r, i, n, rfl, hD, hI⟩ := hrel
    obtain ⟨⟨a0, a1, a2, a3⟩, ⟨b0, b1, b2, b3⟩, ⟨q0, q1, q2, q3⟩, ⟨r0, r1, r2, r3⟩, ⟨x0, x1, x2, x3⟩, ⟨y0, y1, y2, y3⟩⟩ := hD.cells
    rcases n with _ | n
    · have hi : i = 128 := by have := hI.out.1; omega
      subst hi
      have HE := Lib.hid hI.out.done
      clear hI
      simp only [show ((128 : Nat) : Int) = 128 from rfl]
      go_wp2
      go_region_held3 (fun w' => w'.cell? ⟨w.heap.size + 1 + 1 + 1 + 1, 0, none⟩ = some (.int .u64 (uH q)) ∧ w'.cell? ⟨w.heap.size + 1 + 1 + 1 + 1, 1, none⟩ = some (.int .u64 (uL q)) ∧ w'.cell? ⟨w.heap.size + 1 + 1 + 1 + 1 + 1, 0, none⟩ = some (.int .u64 (uH r)) ∧ w'.cell? ⟨w.heap.size + 1 + 1 + 1 + 1 + 1, 1, none⟩ = some (.int .u64 (uL r))) (go_keep) (fail)
      all_goals go_wp2
      all_goals have hA := (((hD.2.2.1.put_ 0 (.int .u64 (uH q))).put_ 1 (.int .u64 (uL q))).apart_ (p := ⟨w.heap.size + 1 + 1 + 1, 0, none⟩) (by simp) (.int .u64 (uH r))).apart_ (p := ⟨w.heap.size + 1 + 1 + 1, 1, none⟩) (by simp) (.int .u64 (uL r))
      all_goals have hB := (((hD.2.2.2.1.apart_ (p := ⟨w.heap.size + 1 + 1, 0, none⟩) (by simp) (.int .u64 (uH q))).apart_ (p := ⟨w.heap.size + 1 + 1, 1, none⟩) (by simp) (.int .u64 (uL q))).put_ 0 (.int .u64 (uH r))).put_ 1 (.int .u64 (uL r))
      all_goals have s0 := (Has.drew_ hA).read 0
      all_goals have s1 := (Has.drew_ hA).read 1
      all_goals have s2 := (Has.drew_ hB).read 0
      all_goals have s3 := (Has.drew_ hB).read 1
      all_goals simp only [List.size_toArray, List.length_cons, List.length_nil, List.setIfInBounds_toArray, List.set_cons_zero, List.set_cons_succ, List.getElem?_toArray, List.getElem?_cons_zero, List.getElem?_cons_succ] at s0 s1 s2 s3
      all_goals refine bodyPost_ret (v := .tuple #[.agg #[.int .u64 (uH q), .int .u64 (uL q)], .agg #[.int .u64 (uH r), .int .u64 (uL r)]]) (by simp [results, Tryd.results63, go_sem, s0, s1, s2, s3]) rfl ⟨by rw [HE.out.1, HE.out.2]; rfl, ?_⟩
      all_goals have hE := (((hD.2.2.2.2.2.2.setCell (p := ⟨w.heap.size + 1 + 1, 0, none⟩) (by first | exact Nat.le_refl _ | (simp; done) | (simp; omega)) (.int .u64 (uH q))).setCell (p := ⟨w.heap.size + 1 + 1, 1, none⟩) (by first | exact Nat.le_refl _ | (simp; done) | (simp; omega)) (.int .u64 (uL q))).setCell (p := ⟨w.heap.size + 1 + 1 + 1, 0, none⟩) (by first | exact Nat.le_refl _ | (simp; done) | (simp; omega)) (.int .u64 (uH r))).setCell (p := ⟨w.heap.size + 1 + 1 + 1, 1, none⟩) (by first | exact Nat.le_refl _ | (simp; done) | (simp; omega)) (.int .u64 (uL r))
      all_goals first | exact hE | exact hE.drew
    · obtain ⟨ua, bq, br, hi, st1, st2⟩ := hI.out.facts HX.out HY.out
      obtain ⟨o1, k1, k2, z1, k3, k4⟩ := nx_w br ua
      obtain ⟨⟨z2, k5, k6⟩, k7⟩ := sh_w ua
      obtain ⟨⟨z3, k8, k9⟩, k10⟩ := sh_w (show UU q from ⟨bq.1, by omega⟩)
      rw [sh_lt bq] at k9 k10
      have R1 : UU (nx r a) := ⟨by unfold nx; have := ua.1; omega, by unfold nx; have := ua.2; omega⟩
      have W1 : IntKind.i64.wrap ((i : Int) + 1) = (i : Int) + 1 := by rw [IntKind.wrap_i64]; omega
      have hi2 : (i : Int) < 128 := by omega
      have hN := ((hD.setR (nx r a)).setA (sh a)).setQ (q * 2)
      have HB := Lib.hid (And.intro bq (And.intro br hi)); clear bq br
      by_cases c : nx r a < y
      · have ST := Lib.hid (st1 c); clear st1 st2
        have dc : decide (nx r a < y) = true := decide_eq_true c
        go_wp2_with (go_at_call 55; refine (less_h (nx r a) y _ _ _ _ _ R1 uy (by first | rfl | assumption) (by first | rfl | assumption) (by first | rfl | assumption) (by first | rfl | assumption)).mono ?_; rintro e w1 ⟨rfl, hb⟩; (first | (replace hN := (hN.drew).next hb) | (replace hN := hN.next hb)); clear a0 a1 a2 a3 b0 b1 b2 b3 q0 q1 q2 q3 r0 r1 r2 r3 x0 x1 x2 x3 y0 y1 y2 y3; obtain ⟨⟨a0, a1, a2, a3⟩, ⟨b0, b1, b2, b3⟩, ⟨q0, q1, q2, q3⟩, ⟨r0, r1, r2, r3⟩, ⟨x0, x1, x2, x3⟩, ⟨y0, y1, y2, y3⟩⟩ := hN.cells)
        exact ⟨⟨sh a, q * 2, nx r a, i + 1, n, rfl, hN, ST⟩, by simp [intOf]; omega⟩
      · have ST := Lib.hid (show DI x y (q * 2 + 1) (dU (nx r a) y) (sh a) (i + 1) n from st2 c); clear st1 st2
        have dc : decide (nx r a < y) = false := decide_eq_false c
        have le : y ≤ nx r a := by omega
        have k11 := (inc_w (q := q)).1
        clear c
        go_wp2_with (first | (go_at_call 55; refine (less_h (nx r a) y _ _ _ _ _ R1 uy (by first | rfl | assumption) (by first | rfl | assumption) (by first | rfl | assumption) (by first | rfl | assumption)).mono ?_; rintro e w1 ⟨rfl, hb⟩; (first | (replace hN := (hN.drew).next hb) | (replace hN := hN.next hb)); clear a0 a1 a2 a3 b0 b1 b2 b3 q0 q1 q2 q3 r0 r1 r2 r3 x0 x1 x2 x3 y0 y1 y2 y3; obtain ⟨⟨a0, a1, a2, a3⟩, ⟨b0, b1, b2, b3⟩, ⟨q0, q1, q2, q3⟩, ⟨r0, r1, r2, r3⟩, ⟨x0, x1, x2, x3⟩, ⟨y0, y1, y2, y3⟩⟩ := hN.cells) | (go_at_call 56; refine (minus_h (nx r a) y _ _ _ _ _ R1 uy le (by first | rfl | assumption) (by first | rfl | assumption) (by first | rfl | assumption) (by first | rfl | assumption)).mono ?_; rintro e w1 ⟨rfl, hb⟩; (first | (replace hN := (hN.drew).next hb) | (replace hN := hN.next hb)); clear a0 a1 a2 a3 b0 b1 b2 b3 q0 q1 q2 q3 r0 r1 r2 r3 x0 x1 x2 x3 y0 y1 y2 y3; obtain ⟨⟨a0, a1, a2, a3⟩, ⟨b0, b1, b2, b3⟩, ⟨q0, q1, q2, q3⟩, ⟨r0, r1, r2, r3⟩, ⟨x0, x1, x2, x3⟩, ⟨y0, y1, y2, y3⟩⟩ := hN.cells))
        exact ⟨⟨sh a, q * 2 + 1, dU (nx r a) y, i + 1, n, rfl, (hN.setR (dU (nx r a) y)).incQ, ST⟩, by simp [intOf]; omega⟩

end Go.Proofs.YtbbbmlnggehcdaaDoor
