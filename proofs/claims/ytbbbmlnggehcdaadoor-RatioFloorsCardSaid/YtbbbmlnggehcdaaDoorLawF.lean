/- RatioFloors returns true: the walk. -/
import Derived.Test.YtbbbmlnggehcdaaDoorEnv
namespace Go.Proofs.YtbbbmlnggehcdaaDoor
open Go.ChangeShapes Go.WideShapes Go.ChangeAt Go.RowKit Go.Shelf
set_option linter.unusedVariables false
set_option linter.unusedSimpArgs false

theorem V_one {p : Int} (h1 : -1152921504606846976 ≤ p) (h2 : p ≤ 1152921504606846976) : V p 1 := ⟨by omega, by omega, h1, h2, by simp⟩
theorem floor_facts {n d : Int} (v : V n d) : V (floorQ n d) 1 ∧ V (ceilQ n d) 1 ∧ (d = 1 → floorQ n d = n ∧ ceilQ n d = n) ∧
    (d ≠ 1 → cmpQ (floorQ n d) 1 n d = -1 ∧ cmpQ n d (ceilQ n d) 1 = -1 ∧ ceilQ n d = floorQ n d + 1) := by
  have d0 := V0 v
  have h1 := Int.mul_ediv_add_emod n d
  have h2 := Int.emod_nonneg n (show d ≠ 0 by omega)
  have h3 := Int.emod_lt_of_pos n d0
  have k1 := Int.mul_ediv_add_emod (-n) d
  have k2 := Int.emod_nonneg (-n) (show d ≠ 0 by omega)
  have k3 := Int.emod_lt_of_pos (-n) d0
  have b1 := Int.ediv_le_self (a := n) d
  have lo : ∀ m : Int, m ≤ 1152921504606846976 → -1152921504606846976 ≤ m → -1152921504606846976 ≤ m / d ∧ m / d ≤ 1152921504606846976 := fun m h h' => by
    constructor
    · refine (Int.le_ediv_iff_mul_le d0).2 ?_
      have : (1152921504606846976 : Int) * 1 ≤ 1152921504606846976 * d := Int.mul_le_mul_of_nonneg_left (by omega) (by omega)
      rw [Int.neg_mul]; omega
    · refine Int.lt_add_one_iff.1 ((Int.ediv_lt_iff_lt_mul d0).2 ?_)
      have : (1152921504606846976 + 1 : Int) * 1 ≤ (1152921504606846976 + 1) * d := Int.mul_le_mul_of_nonneg_left (by omega) (by omega)
      omega
  obtain ⟨a, b, c, e, f⟩ := v
  have l1 := lo n e c
  have l2 := lo (-n) (by omega) (by omega)
  have mm : d ≠ 1 → n % d ≠ 0 := fun h k => by
    have : d ∣ n := Int.dvd_of_emod_eq_zero k
    have g : d ∣ (Int.gcd n d : Int) := Int.dvd_coe_gcd this (Int.dvd_refl d)
    rw [f] at g
    have := Int.le_of_dvd (by omega) g
    omega
  unfold floorQ ceilQ
  refine ⟨V_one l1.1 l1.2, V_one (by omega) (by omega), fun h => ?_, fun h => ?_⟩
  · subst h; simp
  · have hm := mm h
    have hq : -((-n) / d) = n / d + 1 := by
      have : (-n) / d = -(n / d) - 1 := by
        refine Int.le_antisymm ?_ ?_
        · refine Int.lt_add_one_iff.1 ((Int.ediv_lt_iff_lt_mul d0).2 ?_)
          rw [Int.sub_add_cancel, Int.neg_mul, Int.mul_comm]; omega
        · refine (Int.le_ediv_iff_mul_le d0).2 ?_
          rw [Int.sub_mul, Int.neg_mul, Int.mul_comm]; omega
      omega
    rw [hq]
    unfold cmpQ
    rw [Int.mul_comm d, Int.add_mul] at *
    refine ⟨?_, ?_, rfl⟩
    · rw [if_pos (by omega)]
    · rw [if_pos (by omega)]

set_option maxHeartbeats 2000000 in
theorem floors_bad (n d : Int) (w : World) (n1 : -9223372036854775808 ≤ n) (n2 : n ≤ 9223372036854775807) (d1 : -9223372036854775808 ≤ d) (d2 : d ≤ 9223372036854775807) (ht : Tab w) (hv : vB n d = false) :
    Calls Tryd.prog 9 #[.agg #[.int .i64 n, .int .i64 d]] w (Yes w) := by
  have R1 : floorR n d = (0, 1) := by unfold floorR; rw [hv]; rfl
  have R2 : ceilR n d = (0, 1) := by unfold ceilR; rw [hv]; rfl
  go_enter Tryd.func9, Tryd.ntmps9
  go_wp2_with (first | (go_at_call 11; refine (awake_any _ (ht.on (al1 _ _))).mono ?_; rintro e w0 ⟨rfl, hb⟩; have E := (env_one w n d).on hb; have C := E.cells; simp only [BC] at C; clear hb) | (go_at_call 14; refine (floor_p _ _ _ (by omega) (by omega) (by omega) (by omega)).mono ?_; (try simp only [R1, R2, hv]); rintro e w1 ⟨rfl, hb⟩; (first | (replace E := (E.add _ _).on hb) | (replace E := E.on hb)); replace C := E.cells; simp only [BC] at C; clear hb) | (go_at_call 15; refine (ceil_p _ _ _ (by omega) (by omega) (by omega) (by omega)).mono ?_; (try simp only [R1, R2, hv]); rintro e w1 ⟨rfl, hb⟩; (first | (replace E := (E.add _ _).on hb) | (replace E := E.on hb)); replace C := E.cells; simp only [BC] at C; clear hb) | (go_at_call 12; refine (make_p _ _ _ (by omega) (by omega) (by omega) (by omega)).mono ?_; (try simp only [R1, R2, hv]); rintro e w1 ⟨rfl, hb⟩; (first | (replace E := (E.add _ _).on hb) | (replace E := E.on hb)); replace C := E.cells; simp only [BC] at C; clear hb) | (go_at_call 25; refine (cmp_p _ _ _ _ _ (by unfold All4 I64; omega)).mono ?_; (try simp only [R1, R2, hv]); rintro e w1 ⟨rfl, hb⟩; (first | (replace E := (E.add _ _).on hb) | (replace E := E.on hb)); replace C := E.cells; simp only [BC] at C; clear hb) | (go_at_call 17; refine (valid_any _ _ _ (by omega) (by omega) (by omega) (by omega)).mono ?_; (try simp only [R1, R2, hv]); rintro e w1 ⟨rfl, hb⟩; (first | (replace E := (E.add _ _).on hb) | (replace E := E.on hb)); replace C := E.cells; simp only [BC] at C; clear hb))
  go_ret
  exact ⟨rfl, E.1⟩
set_option maxHeartbeats 2000000 in
theorem floors_one (n : Int) (w : World) (ht : Tab w) (v : V n 1) :
    Calls Tryd.prog 9 #[.agg #[.int .i64 n, .int .i64 1]] w (Yes w) := by
  obtain ⟨v1, v2, h1, -⟩ := floor_facts v
  obtain ⟨f1, f2⟩ := h1 rfl
  have hv := vB_t.2 v
  have R1 : floorR n 1 = (n, 0) := by unfold floorR; rw [hv, f1]; rfl
  have R2 : ceilR n 1 = (n, 0) := by unfold ceilR; rw [hv, f2]; rfl
  have R3 : makeQ n 1 = (n, 1, 0) := by unfold makeQ; rw [if_neg (by omega), if_neg (by omega)]; exact mk_self v
  have R4 : cmpR n 1 n 1 = (0, 0) := by unfold cmpR okB; rw [hv]; simp [cmpQ]
  obtain ⟨-, -, b1, b2, -⟩ := v
  clear v1 v2 f1 f2 h1
  go_enter Tryd.func9, Tryd.ntmps9
  go_wp2_with (first | (go_at_call 11; refine (awake_any _ (ht.on (al1 _ _))).mono ?_; rintro e w0 ⟨rfl, hb⟩; have E := (env_one w n 1).on hb; have C := E.cells; simp only [BC] at C; clear hb) | (go_at_call 14; refine (floor_p _ _ _ (by omega) (by omega) (by omega) (by omega)).mono ?_; (try simp only [R1, R2, R3, R4]); rintro e w1 ⟨rfl, hb⟩; (first | (replace E := (E.add _ _).on hb) | (replace E := E.on hb)); replace C := E.cells; simp only [BC] at C; clear hb) | (go_at_call 15; refine (ceil_p _ _ _ (by omega) (by omega) (by omega) (by omega)).mono ?_; (try simp only [R1, R2, R3, R4]); rintro e w1 ⟨rfl, hb⟩; (first | (replace E := (E.add _ _).on hb) | (replace E := E.on hb)); replace C := E.cells; simp only [BC] at C; clear hb) | (go_at_call 12; refine (make_p _ _ _ (by omega) (by omega) (by omega) (by omega)).mono ?_; (try simp only [R1, R2, R3, R4]); rintro e w1 ⟨rfl, hb⟩; (first | (replace E := (E.add _ _).on hb) | (replace E := E.on hb)); replace C := E.cells; simp only [BC] at C; clear hb) | (go_at_call 25; refine (cmp_p _ _ _ _ _ (by unfold All4 I64; omega)).mono ?_; (try simp only [R1, R2, R3, R4]); rintro e w1 ⟨rfl, hb⟩; (first | (replace E := (E.add _ _).on hb) | (replace E := E.on hb)); replace C := E.cells; simp only [BC] at C; clear hb) | (go_at_call 17; refine (valid_any _ _ _ (by omega) (by omega) (by omega) (by omega)).mono ?_; (try simp only [R1, R2, R3, R4]); rintro e w1 ⟨rfl, hb⟩; (first | (replace E := (E.add _ _).on hb) | (replace E := E.on hb)); replace C := E.cells; simp only [BC] at C; clear hb))
  go_ret
  exact ⟨rfl, E.1⟩
set_option maxHeartbeats 2000000 in
theorem floors_frac (n d : Int) (w : World) (ht : Tab w) (v : V n d) (hd : d ≠ 1) :
    Calls Tryd.prog 9 #[.agg #[.int .i64 n, .int .i64 d]] w (Yes w) := by
  obtain ⟨v1, v2, -, h1⟩ := floor_facts v
  obtain ⟨f1, f2, f3⟩ := h1 hd
  have hv := vB_t.2 v
  have R1 : floorR n d = (floorQ n d, 0) := by unfold floorR; rw [hv]; rfl
  have R2 : ceilR n d = (floorQ n d + 1, 0) := by unfold ceilR; rw [hv, f3]; rfl
  have R3 : makeQ (floorQ n d) 1 = (floorQ n d, 1, 0) := by unfold makeQ; rw [if_neg (by omega), if_neg (by omega)]; exact mk_self v1
  have R4 : makeQ (floorQ n d + 1) 1 = (floorQ n d + 1, 1, 0) := by unfold makeQ; rw [← f3, if_neg (by omega), if_neg (by omega)]; exact mk_self v2
  have R5 : cmpR (floorQ n d) 1 n d = (-1, 0) := by unfold cmpR okB; rw [hv, vB_t.2 v1, f1]; rfl
  have R6 : cmpR n d (floorQ n d + 1) 1 = (-1, 0) := by rw [← f3]; unfold cmpR okB; rw [hv, vB_t.2 v2, f2]; rfl
  rw [f3] at v2
  obtain ⟨-, -, b1, b2, -⟩ := v1
  obtain ⟨-, -, b3, b4, -⟩ := v2
  obtain ⟨⟨n1, n2⟩, ⟨d1, d2⟩⟩ := V_b v
  have e1 : (d == 1) = false := by simp [hd]
  generalize floorQ n d = p at *
  clear v h1 f1 f2 f3
  have e2 : (p == p + 1) = false := by simp; omega
  go_enter Tryd.func9, Tryd.ntmps9
  have e3 : decide (p + 1 - p ≤ 1) = true := by simp; omega
  go_wp2_with (first | (go_at_call 11; refine (awake_any _ (ht.on (al1 _ _))).mono ?_; rintro e w0 ⟨rfl, hb⟩; have E := (env_one w n d).on hb; have C := E.cells; simp only [BC] at C; clear hb) | (go_at_call 14; refine (floor_p _ _ _ (by omega) (by omega) (by omega) (by omega)).mono ?_; (try simp only [R1, R2, R3, R4, R5, R6]); rintro e w1 ⟨rfl, hb⟩; (first | (replace E := (E.add _ _).on hb) | (replace E := E.on hb)); replace C := E.cells; simp only [BC] at C; clear hb) | (go_at_call 15; refine (ceil_p _ _ _ (by omega) (by omega) (by omega) (by omega)).mono ?_; (try simp only [R1, R2, R3, R4, R5, R6]); rintro e w1 ⟨rfl, hb⟩; (first | (replace E := (E.add _ _).on hb) | (replace E := E.on hb)); replace C := E.cells; simp only [BC] at C; clear hb) | (go_at_call 12; refine (make_p _ _ _ (by omega) (by omega) (by omega) (by omega)).mono ?_; (try simp only [R1, R2, R3, R4, R5, R6]); rintro e w1 ⟨rfl, hb⟩; (first | (replace E := (E.add _ _).on hb) | (replace E := E.on hb)); replace C := E.cells; simp only [BC] at C; clear hb) | (go_at_call 25; refine (cmp_p _ _ _ _ _ (by unfold All4 I64; omega)).mono ?_; (try simp only [R1, R2, R3, R4, R5, R6]); rintro e w1 ⟨rfl, hb⟩; (first | (replace E := (E.add _ _).on hb) | (replace E := E.on hb)); replace C := E.cells; simp only [BC] at C; clear hb) | (go_at_call 17; refine (valid_any _ _ _ (by omega) (by omega) (by omega) (by omega)).mono ?_; (try simp only [R1, R2, R3, R4, R5, R6]); rintro e w1 ⟨rfl, hb⟩; (first | (replace E := (E.add _ _).on hb) | (replace E := E.on hb)); replace C := E.cells; simp only [BC] at C; clear hb))
  go_ret
  refine ⟨?_, E.1⟩
  simp

theorem floors_walk (n d : Int) (w : World) (hn : I64 n) (hd : I64 d) (ht : Tab w) : Calls Tryd.prog 9 #[.agg #[.int .i64 n, .int .i64 d]] w (Yes w) := by
  cases h : vB n d
  · exact floors_bad n d w hn.1 hn.2 hd.1 hd.2 ht h
  · have v := vB_t.1 h
    by_cases k : d = 1
    · subst k; exact floors_one n w ht v
    · exact floors_frac n d w ht v k
end Go.Proofs.YtbbbmlnggehcdaaDoor
