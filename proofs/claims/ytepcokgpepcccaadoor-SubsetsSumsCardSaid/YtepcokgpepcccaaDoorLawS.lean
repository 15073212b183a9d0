/- SubsetsSums: the law's walk. -/
import Derived.Test.YtepcokgpepcccaaDoorRs1
namespace Go.Proofs.YtepcokgpepcccaaDoor
open Go.ChangeShapes Go.WideShapes Go.ChangeAt Go.RowKit
set_option linter.unusedVariables false
set_option linter.unusedSimpArgs false
theorem Least.cong {sum n : Int} {S T : List Int} (h : ∀ x, x ∈ S ↔ x ∈ T) (k : Least sum S n) : Least sum T n := ⟨(h n).1 k.1, fun x hx => k.2 x ((h x).2 hx)⟩
theorem near_b (u : Value) (zs : List Int) (sum : Int) (w : World) (hR : Rdz w u zs) (hT : Tab w) (h0 : fau zs = 0) (hl : zs.length ≤ 10) (ho : outR sum = false) :
    Calls Tryd.prog 12 #[u, .int .i64 sum] w fun e w' => ∃ n x b, e = .returned (.tuple #[.int .i64 n, x, .int .i64 0]) ∧ Hid (Least sum (smz zs) n) ∧ Hid (fst (bySum zs n) (2 ^ zs.length) = some b) ∧ b < 2 ^ zs.length ∧ Hid (Rdz w' x (toZ (ixs zs.length b))) ∧ Below w.heap.size w w' :=
  (near_ok u zs sum w hR hT h0 hl ho).mono fun e w' ⟨n, x, c, he, hL, hG, hb⟩ => by
    have hL2 := hL.out.cong fun x => ((smz_asc zs).2 x).symm
    have hi := bySum_is zs n
    rw [decide_eq_true hL2.1] at hi
    cases hoo : fst (bySum zs n) (2 ^ zs.length) with
    | none => rw [hoo] at hi; cases hi
    | some b =>
      rw [hoo] at hG
      obtain ⟨rfl, hb2, hx⟩ := hG
      rw [ixs_more _ _ _ hb2 hl] at hx
      exact ⟨n, x, b, he, Lib.hid hL2, Lib.hid hoo, hb2, Lib.hid hx, hb⟩
theorem rind_own (u : Value) (zs : List Int) (s : Nat) (w : World) (hR : Rdz w u zs) (hl : zs.length ≤ 10) (hs : s < 2 ^ zs.length) :
    Calls Tryd.prog 17 #[u, .int .i64 s] w fun e w' => ∃ v, e = .returned v ∧ Hid (Rdz w' v (toZ (ixs zs.length s))) ∧ Below w.heap.size w w' :=
  (rindices_any u zs s w hR hl (Nat.lt_of_lt_of_le hs (Nat.pow_le_pow_right (n := 2) (by omega) hl))).mono fun e w' ⟨v, a, b, c⟩ => ⟨v, a, Lib.hid b.rd, c⟩
theorem rfirst_b (u : Value) (zs : List Int) (n : Int) (b : Nat) (w : World) (hR : Rdz w u zs) (hl : zs.length ≤ 8) (hz : allZ zs = true) (ho : fst (bySum zs n) (2 ^ zs.length) = some b) :
    Calls Tryd.prog 18 #[u, .int .i64 n, .int .i64 0] w fun e w' => e = .returned (.int .i64 (b : Int)) ∧ Below w.heap.size w w' := by
  have := rfirst_0 u zs n w hR hl hz
  rw [ho] at this
  exact this
theorem equal_yes (v v' : Value) (xs : List Int) (w : World) (h1 : Rdz w v xs) (h2 : Rdz w v' xs) (hx : xs.length ≤ 100000) :
    Calls Tryd.prog 14 #[v, v'] w fun e w' => e = .returned (.bool true) ∧ Below w.heap.size w w' :=
  (equal_any v v' xs xs w h1 h2 hx).mono fun e w' ⟨a, n, b⟩ => ⟨by rw [a, decide_eq_true rfl], by subst b; exact below_drewN (Below.refl _ _) n⟩
theorem rnear_is (u : Value) (zs : List Int) (sum n : Int) (w : World) (hR : Rdz w u zs) (hl : zs.length ≤ 8) (hz : allZ zs = true) (hs : Sml sum) (hn : Least sum (smz zs) n) :
    Calls Tryd.prog 16 #[u, .int .i64 sum] w fun e w' => e = .returned (.int .i64 n) ∧ Below w.heap.size w w' :=
  (rnear_any u zs sum w hR hl hz hs).mono fun e w' ⟨m, a, b, c⟩ => ⟨by rw [a, b.out.uniq hn], c⟩
set_option maxRecDepth 100000 in
set_option maxHeartbeats 8000000 in
theorem sums_walk (u : Value) (zs : List Int) (sum : Int) (w : World) (hR : Rdz w u zs) (hI : I64 sum) (hT : Tab w) :
    Calls Tryd.prog 3 #[u, .int .i64 sum] w fun e w' => e = .returned (.bool true) ∧ Below w.heap.size w w' := by
  obtain ⟨uq, ucc, rfl, hq⟩ := hR
  have hR : Rdz w (.slice uq zs.length ucc) zs := ⟨uq, ucc, rfl, hq⟩
  clear hq
  go_enter Tryd.func3, Tryd.ntmps3
  have hL := fun w h => long_any (.slice uq zs.length ucc) zs w h
  by_cases hlo : longB zs.length = true
  · rw [hlo] at hL
    go_wp2_with (first
      | (go_at_call 9; (with_reducible refine (awake_any _ hT).mono ?_); rintro e1 w1 ⟨rfl, b1⟩; have R1 := hR.on b1)
      | (go_at_call 10; (with_reducible refine (hL _ R1).mono ?_); rintro e2 w2 ⟨rfl, hw⟩; subst w2))
    go_ret
    exact ⟨rfl, b1⟩
  have hlo : longB zs.length = false := by simpa using hlo
  rw [hlo] at hL
  have hG := fun w h => given_any (.slice uq zs.length ucc) zs w h
  by_cases h0 : fau zs ≠ 0
  · have HS := fun w h => sums_bad (.slice uq zs.length ucc) zs w h h0
    have HN := fun w h => near_bad (.slice uq zs.length ucc) zs sum w h h0
    obtain ⟨f, ef⟩ : ∃ f, fau zs = f := ⟨_, rfl⟩
    rw [ef] at hG h0 HS HN
    have g : (f != 0) = true := by simp [h0]
    clear ef
    go_wp2_with (first
      | (go_at_call 9; (with_reducible refine (awake_any _ hT).mono ?_); rintro e1 w1 ⟨rfl, b1⟩; have R1 := hR.on b1)
      | (go_at_call 10; (with_reducible refine (hL _ R1).mono ?_); rintro e2 w2 ⟨rfl, hw⟩; subst w2)
      | (go_at_call 11; (with_reducible refine (HS _ R1).mono ?_); rintro e2 w2 ⟨rfl, hw⟩; subst w2)
      | (go_at_call 12; (with_reducible refine (HN _ R1).mono ?_); rintro e3 w3 ⟨rfl, b3⟩; have R3 := R1.on b3)
      | (go_at_call 13; (with_reducible refine (hG _ R3).mono ?_); rintro e2 w2 ⟨rfl, hw⟩; subst w2))
    go_ret
    exact ⟨rfl, belows b1 b3⟩
  have h0 : fau zs = 0 := Classical.not_not.1 h0
  rw [h0] at hG
  have hl8 := short_of hlo h0
  have hl10 : zs.length ≤ 10 := by omega
  have hz := (fau_zero h0).2
  have HS := fun w h => sums_form (.slice uq zs.length ucc) zs w h h0 hl10
  have HRS := fun w h => rsums_any (.slice uq zs.length ucc) zs w h hl8 hz
  have hSl : (smz zs).length ≤ 100000 := by
    have := smz_len zs
    have := Nat.pow_le_pow_right (n := 2) (by omega) hl8
    omega
  have HE := fun v v' w h1 h2 => equal_yes v v' (smz zs) w h1 h2 hSl
  by_cases ho : outR sum = true
  · have HN := fun w h => near_out (.slice uq zs.length ucc) zs sum w h h0 ho
    by_cases h1 : sum < -1152921504606846976
    · have g2 : decide (sum < -1152921504606846976) = true := by simp [h1]
      go_wp2_with (first
        | (go_at_call 9; (with_reducible refine (awake_any _ hT).mono ?_); rintro e1 w1 ⟨rfl, b1⟩; have R1 := hR.on b1)
        | (go_at_call 10; (with_reducible refine (hL _ R1).mono ?_); rintro e2 w2 ⟨rfl, hw⟩; subst w2)
        | (go_at_call 11; (with_reducible refine (HS _ R1).mono ?_); rintro e2 w2 ⟨g, cap, rfl, o2, b2⟩; have R2 := R1.on b2)
        | (go_at_call 12; (with_reducible refine (HN _ R2).mono ?_); rintro e3 w3 ⟨rfl, b3⟩; have R3 := R2.on b3; have o3 := o2.on b3)
        | (go_at_call 13; (with_reducible refine (hG _ R3).mono ?_); rintro e4 w4 ⟨rfl, hw⟩; subst w4)
        | (go_at_call 15; (with_reducible refine (HRS _ R3).mono ?_); rintro e5 w5 ⟨v5, rfl, o5, b5⟩; have r5 := (o3.on b5).rd; have q5 := o5.rd)
        | (go_at_call 14; (with_reducible refine (HE _ _ _ r5 q5).mono ?_); rintro e6 w6 ⟨rfl, b6⟩))
      go_ret
      exact ⟨rfl, belows (belows (belows (belows b1 b2) b3) b5) b6⟩
    · have g2 : decide (sum < -1152921504606846976) = false := by simp; omega
      have g3 : decide (1152921504606846976 < sum) = true := by unfold outR at ho; rw [g2] at ho; simpa using ho
      go_wp2_with (first
        | (go_at_call 9; (with_reducible refine (awake_any _ hT).mono ?_); rintro e1 w1 ⟨rfl, b1⟩; have R1 := hR.on b1)
        | (go_at_call 10; (with_reducible refine (hL _ R1).mono ?_); rintro e2 w2 ⟨rfl, hw⟩; subst w2)
        | (go_at_call 11; (with_reducible refine (HS _ R1).mono ?_); rintro e2 w2 ⟨g, cap, rfl, o2, b2⟩; have R2 := R1.on b2)
        | (go_at_call 12; (with_reducible refine (HN _ R2).mono ?_); rintro e3 w3 ⟨rfl, b3⟩; have R3 := R2.on b3; have o3 := o2.on b3)
        | (go_at_call 13; (with_reducible refine (hG _ R3).mono ?_); rintro e4 w4 ⟨rfl, hw⟩; subst w4)
        | (go_at_call 15; (with_reducible refine (HRS _ R3).mono ?_); rintro e5 w5 ⟨v5, rfl, o5, b5⟩; have r5 := (o3.on b5).rd; have q5 := o5.rd)
        | (go_at_call 14; (with_reducible refine (HE _ _ _ r5 q5).mono ?_); rintro e6 w6 ⟨rfl, b6⟩))
      go_ret
      exact ⟨rfl, belows (belows (belows (belows b1 b2) b3) b5) b6⟩
  have ho : outR sum = false := by simpa using ho
  have g2 : decide (sum < -1152921504606846976) = false := by unfold outR at ho; simp at ho ⊢; omega
  have g3 : decide (1152921504606846976 < sum) = false := by unfold outR at ho; simp at ho ⊢; omega
  have hsum : Sml sum := by unfold outR at ho; simp at ho; unfold Sml; omega
  have HN := fun w h t => near_b (.slice uq zs.length ucc) zs sum w h t h0 hl10 ho
  have HRN := fun n w h k => rnear_is (.slice uq zs.length ucc) zs sum n w h hl8 hz hsum k
  have HRF := fun n b w h k => rfirst_b (.slice uq zs.length ucc) zs n b w h hl8 hz k
  have HRI := fun s w h k => rind_own (.slice uq zs.length ucc) zs s w h hl10 k
  have HE2 := fun v v' b w h1 h2 => equal_yes v v' (toZ (ixs zs.length b)) w h1 h2 (by rw [toZ_len]; exact Nat.le_trans (ixs_len _ _) (by omega))
  clear ho h0
  go_wp2_with (first
    | (go_at_call 9; (with_reducible refine (awake_any _ hT).mono ?_); rintro e1 w1 ⟨rfl, b1⟩; have R1 := hR.on b1; have T1 := hT.on b1)
    | (go_at_call 10; (with_reducible refine (hL _ R1).mono ?_); rintro e2 w2 ⟨rfl, hw⟩; subst w2)
    | (go_at_call 11; (with_reducible refine (HS _ R1).mono ?_); rintro e2 w2 ⟨g, cap, rfl, o2, b2⟩; have R2 := R1.on b2; have T2 := T1.on b2)
    | (go_at_call 12; (with_reducible refine (HN _ R2 T2).mono ?_); rintro e3 w3 ⟨n, x, b, rfl, hLe, hFs, hbb, hx, b3⟩; have R3 := R2.on b3; have o3 := o2.on b3; have gn : (n == n) = true := (by simp))
    | (go_at_call 13; (with_reducible refine (hG _ R3).mono ?_); rintro e4 w4 ⟨rfl, hw⟩; subst w4)
    | (go_at_call 15; (with_reducible refine (HRS _ R3).mono ?_); rintro e5 w5 ⟨v5, rfl, o5, b5⟩; have r5 := (o3.on b5).rd; have q5 := o5.rd; have R5 := R3.on b5)
    | (go_at_call 14; (with_reducible refine (HE _ _ _ r5 q5).mono ?_); rintro e6 w6 ⟨rfl, b6⟩; have R6 := R5.on b6)
    | (go_at_call 16; (with_reducible refine (HRN n _ R6 hLe.out).mono ?_); rintro e7 w7 ⟨rfl, b7⟩; have R7 := R6.on b7)
    | (go_at_call 18; (with_reducible refine (HRF n b _ R7 hFs.out).mono ?_); rintro e8 w8 ⟨rfl, b8⟩; have R8 := R7.on b8)
    | (go_at_call 17; (with_reducible refine (HRI b _ R8 hbb).mono ?_); rintro e9 w9 ⟨v9, rfl, r9, b9⟩; have x9 := ((((hx.out.on b5).on b6).on b7).on b8).on b9)
    | (go_at_call 14; (with_reducible refine (HE2 _ _ b _ x9 r9.out).mono ?_); rintro e10 w10 ⟨rfl, b10⟩))
  go_ret
  exact ⟨rfl, belows (belows (belows (belows (belows (belows (belows (belows b1 b2) b3) b5) b6) b7) b8) b9) b10⟩
end Go.Proofs.YtepcokgpepcccaaDoor
