/- The contract of scaled. -/
import Derived.Test.YtplepbaafamjfaaV3
import Derived.Test.YtplepbaafamjfaaWf
namespace Go.Proofs.Ytplepbaafamjfaa
open Go.ChangeShapes Go.WideShapes Go.ChangeAt Go.RowKit Go.Shelf
set_option linter.unusedVariables false
set_option linter.unusedSimpArgs false

theorem mul64_i (x y : Int) (w : World) (hx : 0 ≤ x ∧ x ≤ 18446744073709551615) (hy : 0 ≤ y ∧ y ≤ 18446744073709551615) :
    Calls Try.prog 67 #[.int .u64 x, .int .u64 y] w fun e w' => e = .returned (.tuple #[.int .u64 (x * y / 18446744073709551616), .int .u64 (x * y % 18446744073709551616)]) ∧ w = w' := by
  have h := Try.bits_Mul64 x.toNat y.toNat (by omega) (by omega) w
  have e1 : ((x.toNat : Nat) : Int) = x := by omega
  have e2 : ((y.toNat : Nat) : Int) = y := by omega
  simp only [Int.natCast_ediv, Int.natCast_emod, Int.natCast_mul, e1, e2] at h
  exact h.mono fun e w' k => ⟨k.1, k.2.symm⟩

/-- The words of the product, and what comes of dividing them. -/
theorem s_words {n num den : Int} (n1 : -1152921504606846976 ≤ n) (n2 : n ≤ 1152921504606846976) (m1 : -1152921504606846976 ≤ num) (m2 : num ≤ 1152921504606846976) (d1 : -1152921504606846976 ≤ den) (d2 : den ≤ 1152921504606846976) (d0 : den ≠ 0) :
    ∃ hi lo u : Int, ab n * ab num / 18446744073709551616 = hi ∧ ab n * ab num % 18446744073709551616 = lo ∧ ab den = u ∧ 0 ≤ hi ∧ 0 ≤ lo ∧ lo ≤ 18446744073709551615 ∧ 0 < u ∧ u ≤ 1152921504606846976 ∧ hi ≤ 18446744073709551615 ∧
      qI (hi * 18446744073709551616 + lo) u = sQ n num den ∧ rI (hi * 18446744073709551616 + lo) u = sR n num den ∧ (¬ hi < u → 1152921504606846976 < sQ n num den) ∧ (hi < u → sQ n num den ≤ 18446744073709551615) ∧ sR n num den < u := by
  have A0 : 0 ≤ ab n * ab num := Int.mul_nonneg (ab_nn _) (ab_nn _)
  have A1 : ab n * ab num ≤ 1152921504606846976 * 1152921504606846976 := Int.mul_le_mul (by unfold ab; omega) (by unfold ab; omega) (ab_nn _) (by omega)
  have D0 : 0 < ab den := by unfold ab; omega
  have D1 : ab den ≤ 1152921504606846976 := by unfold ab; omega
  refine ⟨_, _, _, rfl, rfl, rfl, ?_⟩
  unfold qI rI sQ sR
  generalize ab n * ab num = A at *
  generalize ab den = u at *
  rw [show A / 18446744073709551616 * 18446744073709551616 + A % 18446744073709551616 = A by omega]
  refine ⟨by omega, by omega, by omega, D0, D1, by omega, rfl, rfl, ?_, ?_, Int.emod_lt_of_pos _ D0⟩
  · intro h
    have : 18446744073709551616 ≤ A / u := (Int.le_ediv_iff_mul_le D0).2 (by omega)
    omega
  · intro h
    have : A / u < 18446744073709551616 := Int.ediv_lt_of_lt_mul D0 (by omega)
    omega

theorem sM_form (n num den : Int) (b : Bool) (h : sM n num den = b) : (!(!decide (n < 0) == decide (num < 0)) == decide (den < 0)) = b := by
  rw [← h]; unfold sM
  cases decide (n < 0) <;> cases decide (num < 0) <;> cases decide (den < 0) <;> rfl

theorem set3 {W : World} {g : Nat} {a b : Value} (h0 : W.cell? ⟨g, 0, none⟩ = some a) (h1 : W.cell? ⟨g, 1, none⟩ = some b) (x y z : Int) :
    (((W.setCell ⟨g, 0, none⟩ (.int .i64 x)).setCell ⟨g, 1, none⟩ (.int .i64 y)).setCell ⟨g, 1, none⟩ (.int .i64 z)).cell? ⟨g, 1, none⟩ = some (.int .i64 z) := by
  have k0 : (W.setCell ⟨g, 0, none⟩ (.int .i64 x)).cell? ⟨g, 1, none⟩ = some b := (World.cell?_setCell_other _ _ _ _ (by simp)).trans h1
  exact World.cell?_setCell_same _ _ _ (World.cell?_setCell_same _ _ _ k0)

set_option maxHeartbeats 8000000 in
theorem scaled_any (n num den : Int) (w : World) (n1 : -1152921504606846976 ≤ n) (n2 : n ≤ 1152921504606846976) (m1 : -1152921504606846976 ≤ num) (m2 : num ≤ 1152921504606846976) (d1 : -1152921504606846976 ≤ den) (d2 : den ≤ 1152921504606846976) (d0 : den ≠ 0) :
    Calls Try.prog 52 #[.int .i64 n, .int .i64 num, .int .i64 den] w fun e w' => e = .returned (.agg #[.int .i64 (sLo n num den), .int .i64 (sHi n num den)]) ∧ Below w.heap.size w w' := by
  obtain ⟨hi, lo, u, e1, e2, e3, h0, l0, l1, u0, u1, h1, q, r, big, sm, rb⟩ := s_words n1 n2 m1 m2 d1 d2 d0
  obtain ⟨q0, r0⟩ := sQ_nn n num den
  have hS := fun W => size2_any den W (by omega) (by omega)
  have hM := fun W => mul64_i (ab n) (ab num) W (by unfold ab; omega) (by unfold ab; omega)
  have hD := fun (c : hi < u) W => div64_i hi lo u W h0 c l0 l1 (by omega)
  rw [e3] at hS
  simp only [e1, e2] at hM
  simp only [q, r] at hD
  clear q r e1 e2 e3
  unfold sLo sHi s0L s0H
  cases hm : sM n num den
  · have hm' := sM_form n num den _ hm
    clear hm
    generalize sQ n num den = Q at *
    generalize sR n num den = R at *
    simp only [Bool.false_eq_true, if_false, if_true]
    by_cases c1 : hi < u
    · have hD' := hD c1
      have sm' := sm c1
      clear hD big sm
      by_cases c2 : Q ≤ 1152921504606846976
      · simp only [c2, if_true]
        by_cases c3 : 0 < R
        · simp only [c3, if_true]
          go_enter Try.func52, Try.ntmps52
          go_wp2_with (first | (go_at_call 66; first | (refine (hS _).mono ?_; rintro e w1 ⟨rfl, rfl⟩) | (refine (size2_any _ _ (by omega) (by omega)).mono ?_; rintro e w1 ⟨rfl, rfl⟩)) | (go_at_call 67; refine (hM _).mono ?_; rintro e w1 ⟨rfl, rfl⟩) | (go_at_call 68; refine (hD' _).mono ?_; rintro e w2 ⟨rfl, hd⟩; have E := (env_two w 0 0 1152921504606846977 1152921504606846977 23 23).dr hd; have C := E.cells; simp only [BC] at C; have C3 := set3 C.1.1 C.1.2.1 Q Q (Q + 1); clear hd))
          refine bodyPost_ret (v := .agg #[.int .i64 (Q), .int .i64 ((Q + 1))]) (by first | simp [results, Try.results52, go_sem, C] | simp [results, Try.results52, go_sem]) rfl ⟨rfl, ?_⟩
          repeat (refine Below.setCell ?_ (by first | (simp; done) | (simp; omega)) _)
          first | exact E.1 | exact al2 _ _ _
        · simp only [c3, if_false]
          go_enter Try.func52, Try.ntmps52
          go_wp2_with (first | (go_at_call 66; first | (refine (hS _).mono ?_; rintro e w1 ⟨rfl, rfl⟩) | (refine (size2_any _ _ (by omega) (by omega)).mono ?_; rintro e w1 ⟨rfl, rfl⟩)) | (go_at_call 67; refine (hM _).mono ?_; rintro e w1 ⟨rfl, rfl⟩) | (go_at_call 68; refine (hD' _).mono ?_; rintro e w2 ⟨rfl, hd⟩; have E := (env_two w 0 0 1152921504606846977 1152921504606846977 23 23).dr hd; have C := E.cells; simp only [BC] at C; clear hd))
          refine bodyPost_ret (v := .agg #[.int .i64 (Q), .int .i64 (Q)]) (by first | simp [results, Try.results52, go_sem, C] | simp [results, Try.results52, go_sem]) rfl ⟨rfl, ?_⟩
          repeat (refine Below.setCell ?_ (by first | (simp; done) | (simp; omega)) _)
          first | exact E.1 | exact al2 _ _ _
      · simp only [c2, if_false]
        go_enter Try.func52, Try.ntmps52
        go_wp2_with (first | (go_at_call 66; first | (refine (hS _).mono ?_; rintro e w1 ⟨rfl, rfl⟩) | (refine (size2_any _ _ (by omega) (by omega)).mono ?_; rintro e w1 ⟨rfl, rfl⟩)) | (go_at_call 67; refine (hM _).mono ?_; rintro e w1 ⟨rfl, rfl⟩) | (go_at_call 68; refine (hD' _).mono ?_; rintro e w2 ⟨rfl, hd⟩; have E := (env_two w 0 0 1152921504606846977 1152921504606846977 23 23).dr hd; have C := E.cells; simp only [BC] at C; clear hd))
        refine bodyPost_ret (v := .agg #[.int .i64 (1152921504606846977), .int .i64 (1152921504606846977)]) (by first | simp [results, Try.results52, go_sem, C] | simp [results, Try.results52, go_sem]) rfl ⟨rfl, ?_⟩
        repeat (refine Below.setCell ?_ (by first | (simp; done) | (simp; omega)) _)
        first | exact E.1 | exact al2 _ _ _
    · have c2 : ¬ Q ≤ 1152921504606846976 := by have := big c1; omega
      clear hD big sm
      simp only [c2, if_false]
      go_enter Try.func52, Try.ntmps52
      go_wp2_with (first | (go_at_call 66; first | (refine (hS _).mono ?_; rintro e w1 ⟨rfl, rfl⟩) | (refine (size2_any _ _ (by omega) (by omega)).mono ?_; rintro e w1 ⟨rfl, rfl⟩)) | (go_at_call 67; refine (hM _).mono ?_; rintro e w1 ⟨rfl, rfl⟩) | (go_at_call 68; refine (hD' _).mono ?_; rintro e w2 ⟨rfl, hd⟩; have E := (env_two w 0 0 1152921504606846977 1152921504606846977 23 23).dr hd; have C := E.cells; simp only [BC] at C; clear hd))
      refine bodyPost_ret (v := .agg #[.int .i64 (1152921504606846977), .int .i64 (1152921504606846977)]) (by first | simp [results, Try.results52, go_sem, C] | simp [results, Try.results52, go_sem]) rfl ⟨rfl, ?_⟩
      repeat (refine Below.setCell ?_ (by first | (simp; done) | (simp; omega)) _)
      first | exact E.1 | exact al2 _ _ _
  · have hm' := sM_form n num den _ hm
    clear hm
    generalize sQ n num den = Q at *
    generalize sR n num den = R at *
    simp only [Bool.false_eq_true, if_false, if_true]
    by_cases c1 : hi < u
    · have hD' := hD c1
      have sm' := sm c1
      clear hD big sm
      by_cases c2 : Q ≤ 1152921504606846976
      · simp only [c2, if_true]
        by_cases c3 : 0 < R
        · simp only [c3, if_true]
          go_enter Try.func52, Try.ntmps52
          go_wp2_with (first | (go_at_call 66; first | (refine (hS _).mono ?_; rintro e w1 ⟨rfl, rfl⟩) | (refine (size2_any _ _ (by omega) (by omega)).mono ?_; rintro e w1 ⟨rfl, rfl⟩)) | (go_at_call 67; refine (hM _).mono ?_; rintro e w1 ⟨rfl, rfl⟩) | (go_at_call 68; refine (hD' _).mono ?_; rintro e w2 ⟨rfl, hd⟩; have E := (env_two w 0 0 1152921504606846977 1152921504606846977 23 23).dr hd; have C := E.cells; simp only [BC] at C; have C3 := set3 C.1.1 C.1.2.1 Q Q (Q + 1); clear hd))
          refine bodyPost_ret (v := .agg #[.int .i64 (-(Q + 1)), .int .i64 (-Q)]) (by first | simp [results, Try.results52, go_sem, C] | simp [results, Try.results52, go_sem]) rfl ⟨rfl, ?_⟩
          repeat (refine Below.setCell ?_ (by first | (simp; done) | (simp; omega)) _)
          first | exact E.1 | exact al2 _ _ _
        · simp only [c3, if_false]
          go_enter Try.func52, Try.ntmps52
          go_wp2_with (first | (go_at_call 66; first | (refine (hS _).mono ?_; rintro e w1 ⟨rfl, rfl⟩) | (refine (size2_any _ _ (by omega) (by omega)).mono ?_; rintro e w1 ⟨rfl, rfl⟩)) | (go_at_call 67; refine (hM _).mono ?_; rintro e w1 ⟨rfl, rfl⟩) | (go_at_call 68; refine (hD' _).mono ?_; rintro e w2 ⟨rfl, hd⟩; have E := (env_two w 0 0 1152921504606846977 1152921504606846977 23 23).dr hd; have C := E.cells; simp only [BC] at C; clear hd))
          refine bodyPost_ret (v := .agg #[.int .i64 (-Q), .int .i64 (-Q)]) (by first | simp [results, Try.results52, go_sem, C] | simp [results, Try.results52, go_sem]) rfl ⟨rfl, ?_⟩
          repeat (refine Below.setCell ?_ (by first | (simp; done) | (simp; omega)) _)
          first | exact E.1 | exact al2 _ _ _
      · simp only [c2, if_false]
        go_enter Try.func52, Try.ntmps52
        go_wp2_with (first | (go_at_call 66; first | (refine (hS _).mono ?_; rintro e w1 ⟨rfl, rfl⟩) | (refine (size2_any _ _ (by omega) (by omega)).mono ?_; rintro e w1 ⟨rfl, rfl⟩)) | (go_at_call 67; refine (hM _).mono ?_; rintro e w1 ⟨rfl, rfl⟩) | (go_at_call 68; refine (hD' _).mono ?_; rintro e w2 ⟨rfl, hd⟩; have E := (env_two w 0 0 1152921504606846977 1152921504606846977 23 23).dr hd; have C := E.cells; simp only [BC] at C; clear hd))
        refine bodyPost_ret (v := .agg #[.int .i64 (-1152921504606846977), .int .i64 (-1152921504606846977)]) (by first | simp [results, Try.results52, go_sem, C] | simp [results, Try.results52, go_sem]) rfl ⟨rfl, ?_⟩
        repeat (refine Below.setCell ?_ (by first | (simp; done) | (simp; omega)) _)
        first | exact E.1 | exact al2 _ _ _
    · have c2 : ¬ Q ≤ 1152921504606846976 := by have := big c1; omega
      clear hD big sm
      simp only [c2, if_false]
      go_enter Try.func52, Try.ntmps52
      go_wp2_with (first | (go_at_call 66; first | (refine (hS _).mono ?_; rintro e w1 ⟨rfl, rfl⟩) | (refine (size2_any _ _ (by omega) (by omega)).mono ?_; rintro e w1 ⟨rfl, rfl⟩)) | (go_at_call 67; refine (hM _).mono ?_; rintro e w1 ⟨rfl, rfl⟩) | (go_at_call 68; refine (hD' _).mono ?_; rintro e w2 ⟨rfl, hd⟩; have E := (env_two w 0 0 1152921504606846977 1152921504606846977 23 23).dr hd; have C := E.cells; simp only [BC] at C; clear hd))
      refine bodyPost_ret (v := .agg #[.int .i64 (-1152921504606846977), .int .i64 (-1152921504606846977)]) (by first | simp [results, Try.results52, go_sem, C] | simp [results, Try.results52, go_sem]) rfl ⟨rfl, ?_⟩
      repeat (refine Below.setCell ?_ (by first | (simp; done) | (simp; omega)) _)
      first | exact E.1 | exact al2 _ _ _
end Go.Proofs.Ytplepbaafamjfaa
