/- The reference's Div at one word, Neg, Floor and Ceil. -/
import Derived.Test.YtbbbmlnggehcdaaDoorRu
import Derived.Test.YtbbbmlnggehcdaaDoorMk
namespace Go.Proofs.YtbbbmlnggehcdaaDoor
open Go.ChangeShapes Go.WideShapes Go.ChangeAt Go.RowKit
set_option linter.unusedVariables false

theorem div_small (x y : Int) (w : World) (hx : 0 ≤ x ∧ x ≤ 18446744073709551615) (hy : 0 < y ∧ y ≤ 18446744073709551615) :
    Calls Tryd.prog 63 #[.agg #[.int .u64 0, .int .u64 x], .agg #[.int .u64 0, .int .u64 y]] w fun e w' => e = .returned (.tuple #[.agg #[.int .u64 0, .int .u64 (qI x y)], .agg #[.int .u64 0, .int .u64 (rI x y)]]) ∧ Below w.heap.size w w' := by
  have q := qI_w hx.1 hx.2 hy.1
  have r := rI_b (a := x) hy.1
  have T1 : IntKind.u64.wrap (x.tdiv y) = qI x y := by rw [Int.tdiv_eq_ediv_of_nonneg hx.1, q]
  have T2 : IntKind.u64.wrap (x % y) = rI x y := by show IntKind.u64.wrap (rI x y) = _; rw [IntKind.wrap_u64]; omega
  have T3 : IntKind.u64.wrap (x.tmod y) = rI x y := by rw [Int.tmod_eq_emod_of_nonneg hx.1, T2]
  have T4 : x.tmod y = rI x y := Int.tmod_eq_emod_of_nonneg hx.1
  have V1 : x / y = qI x y := rfl
  have V2 : x % y = rI x y := rfl
  have g1 : ¬ y = 0 := by omega
  have g2 : (y == 0) = false := by simp; omega
  go_enter Tryd.func63, Tryd.ntmps63
  go_wp2
  go_region_held3 (fun w' => w'.cell? ⟨w.heap.size, 1, none⟩ = some (.int .u64 x) ∧ w'.cell? ⟨w.heap.size + 1, 1, none⟩ = some (.int .u64 y)) (go_keep) (fail)
  all_goals go_wp2
  all_goals refine bodyPost_ret (v := .tuple #[.agg #[.int .u64 0, .int .u64 (qI x y)], .agg #[.int .u64 0, .int .u64 (rI x y)]]) (by simp [results, Tryd.results63, go_sem]) rfl ⟨rfl, ?_⟩
  all_goals first | exact al (al (al2 _ _ _) _) _ | exact (al (al (al2 _ _ _) _) _).drew

theorem neg_any (n d m : Int) (w : World) (hm : IntKind.i64.wrap (-n) = m) :
    Calls Tryd.prog 46 #[.agg #[.int .i64 n, .int .i64 d]] w fun e w' => e = .returned (.agg #[.int .i64 m, .int .i64 d]) ∧ Below w.heap.size w w' := by
  go_enter Tryd.func46, Tryd.ntmps46
  go_wp2
  refine bodyPost_ret (v := .agg #[.int .i64 m, .int .i64 d]) (by simp [results, Tryd.results46, go_sem]) rfl ⟨rfl, al2 _ _ _⟩

theorem mul_i64 {q d n : Int} (h : -1152921504606846976 ≤ q * d ∧ q * d ≤ 1152921504606846976) : IntKind.i64.wrap (q * d) = q * d := IntWalk.i64_in (q * d) (by omega)
theorem rfloor_any (n d : Int) (w : World) (n1 : -1152921504606846976 ≤ n) (n2 : n ≤ 1152921504606846976) (d1 : 1 ≤ d) (d2 : d ≤ 1152921504606846976) :
    Calls Tryd.prog 19 #[.agg #[.int .i64 n, .int .i64 d]] w fun e w' => e = .returned (.int .i64 (floorQ n d)) ∧ Below w.heap.size w w' := by
  have h1 := Int.tdiv_mul_add_tmod n d
  have h2 := Int.tmod_lt_of_pos n (show 0 < d by omega)
  have h3 := Int.lt_tmod_of_pos n (show 0 < d by omega)
  have h4 := Int.natAbs_tdiv_le_natAbs n d
  have key : ∀ z : Int, z * d ≤ n → n < z * d + d → floorQ n d = z := fun z h k => by
    unfold floorQ
    refine Int.le_antisymm ?_ ?_
    · refine Int.lt_add_one_iff.1 ((Int.ediv_lt_iff_lt_mul (by omega)).2 ?_); rw [Int.add_mul]; omega
    · exact (Int.le_ediv_iff_mul_le (by omega)).2 h
  have W2 : (d == 0) = false := by simp; omega
  have W3 : ¬ d = 0 := by omega
  have W1 := IntWalk.i64_in (n.tdiv d) (by omega)
  have key1 := key (n.tdiv d)
  have key2 := key (n.tdiv d - 1)
  rw [Int.sub_mul] at key2
  obtain ⟨p, hp⟩ : ∃ p, p = n.tdiv d * d := ⟨_, rfl⟩
  have W4 : IntKind.i64.wrap (n.tdiv d * d) = p := by rw [hp]; exact IntWalk.i64_in _ (by omega)
  rw [← hp] at h1 key1 key2
  have b1 : -1152921504606846976 ≤ n.tdiv d ∧ n.tdiv d ≤ 1152921504606846976 := by omega
  clear key hp h4
  generalize floorQ n d = F at *
  by_cases c : n < p
  · have e := key2 (by omega) (by omega)
    have W5 := IntWalk.i64_in (n.tdiv d - 1) (by omega)
    clear key1 key2 h1 h2 h3
    go_enter Tryd.func19, Tryd.ntmps19
    go_wp2
    all_goals go_ret
    all_goals exact ⟨ret_one (by omega), al1 _ _⟩
  · have e := key1 (by omega) (by omega)
    clear key1 key2 h1 h2 h3
    go_enter Tryd.func19, Tryd.ntmps19
    go_wp2
    all_goals go_ret
    all_goals exact ⟨ret_one (by omega), al1 _ _⟩
theorem rceil_any (n d : Int) (w : World) (n1 : -1152921504606846976 ≤ n) (n2 : n ≤ 1152921504606846976) (d1 : 1 ≤ d) (d2 : d ≤ 1152921504606846976) :
    Calls Tryd.prog 20 #[.agg #[.int .i64 n, .int .i64 d]] w fun e w' => e = .returned (.int .i64 (ceilQ n d)) ∧ Below w.heap.size w w' := by
  have N1 := IntWalk.i64_in (-n) (by omega)
  have hN := fun w => neg_any n d (-n) w N1
  have hF := fun w => rfloor_any (-n) d w (by omega) (by omega) d1 d2
  have hc : ceilQ n d = -(floorQ (-n) d) := rfl
  have lo : ∀ m : Int, m ≤ 1152921504606846976 → -1152921504606846976 ≤ m → -1152921504606846976 ≤ m / d ∧ m / d ≤ 1152921504606846976 := fun m h h' => by
    constructor
    · refine (Int.le_ediv_iff_mul_le (by omega)).2 ?_
      have : (1152921504606846976 : Int) * 1 ≤ 1152921504606846976 * d := Int.mul_le_mul_of_nonneg_left (by omega) (by omega)
      rw [Int.neg_mul]; omega
    · refine Int.lt_add_one_iff.1 ((Int.ediv_lt_iff_lt_mul (by omega)).2 ?_)
      have : (1152921504606846976 + 1 : Int) * 1 ≤ (1152921504606846976 + 1) * d := Int.mul_le_mul_of_nonneg_left (by omega) (by omega)
      omega
  have b : -1152921504606846976 ≤ floorQ (-n) d ∧ floorQ (-n) d ≤ 1152921504606846976 := lo (-n) (by omega) (by omega)
  rw [hc]
  clear hc lo
  generalize floorQ (-n) d = F at *
  have W1 : IntKind.i64.wrap (0 - F) = -F := by rw [IntWalk.i64_in (0 - F) (by omega)]; omega
  go_enter Tryd.func20, Tryd.ntmps20
  go_wp2_with (first | (go_at_call 46; refine (hN _).mono ?_; rintro e w1 ⟨rfl, hb1⟩) | (go_at_call 19; refine (hF _).mono ?_; rintro e w2 ⟨rfl, hb2⟩))
  go_ret
  exact ⟨ret_one (by omega), belows (belows (al1 _ _) hb1) hb2⟩
end Go.Proofs.YtbbbmlnggehcdaaDoor
