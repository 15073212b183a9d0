/- Contracts of Make, Floor and Ceil. -/
import Derived.Test.YtbbbmlnggehcdaaDoorWf
namespace Go.Proofs.YtbbbmlnggehcdaaDoor
open Go.ChangeShapes Go.WideShapes Go.ChangeAt Go.RowKit Go.Shelf
set_option linter.unusedVariables false

theorem qI_b {a b : Int} (ha : 0 ≤ a) (hb : 0 < b) : 0 ≤ qI a b ∧ qI a b ≤ a := ⟨Int.ediv_nonneg ha (by omega), Int.ediv_le_self _ ha⟩
theorem qI_w {a b : Int} (ha : 0 ≤ a) (h2 : a ≤ 18446744073709551615) (hb : 0 < b) : IntKind.u64.wrap (a / b) = qI a b := by
  have := qI_b ha hb
  show IntKind.u64.wrap (qI a b) = _
  rw [IntKind.wrap_u64]; omega
theorem Has.two {w : World} {g : Nat} {t : TypeId} {a b : Value} (h : Has w g t #[a, b]) :
    w.cell? ⟨g, 0, none⟩ = some a ∧ w.cell? ⟨g, 1, none⟩ = some b ∧ w.frozen? ⟨g, 0, none⟩ = false ∧ w.frozen? ⟨g, 1, none⟩ = false := ⟨h.read 0, h.read 1, h.open_ 0, h.open_ 1⟩

theorem make_fit (n d : Int) (hd : d ≠ 0) : fitQ (decide (n < 0) != decide (d < 0)) (qI (ab n) (gd (ab n) (ab d))) (qI (ab d) (gd (ab n) (ab d))) = makeQ n d := by
  rw [gd_ab]
  unfold makeQ qI
  rw [if_neg hd]
  by_cases h : d < 0
  · rw [if_pos h]
    have e1 : ab n = ab (-n) := by unfold ab; omega
    have e2 : gd n d = gd (-n) (-d) := by unfold gd; simp
    rw [e1, e2, ab_neg (n := d) (by omega)]
    refine fit_mk (by omega) ?_
    by_cases k : n < 0
    · rw [ab_pos (by omega)]; simp [h, k]
    · simp only [h, k, decide_true, decide_false]
      rw [ab_neg (by omega)]; simp
  · rw [if_neg h, ab_pos (n := d) (by omega)]
    refine fit_mk (by omega) ?_
    by_cases k : n < 0
    · simp only [h, k, decide_true, decide_false]
      rw [ab_neg (by omega)]; simp
    · rw [ab_pos (by omega)]; simp [h, k]

set_option maxHeartbeats 2000000 in
theorem make_any (n d : Int) (w : World) (n1 : -9223372036854775808 ≤ n) (n2 : n ≤ 9223372036854775807) (d1 : -9223372036854775808 ≤ d) (d2 : d ≤ 9223372036854775807) {x q e0 : Int} (hr : makeQ n d = (x, q, e0)) :
    Calls Tryd.prog 12 #[.int .i64 n, .int .i64 d] w fun e w' => e = .returned (.tuple #[.agg #[.int .i64 x, .int .i64 q], .int .i64 e0]) ∧ Below w.heap.size w w' := by
  by_cases h0 : d = 0
  · have e : (x, q, e0) = (0, 0, 16) := by rw [← hr]; unfold makeQ; rw [if_pos h0]
    simp only [Prod.mk.injEq] at e; obtain ⟨rfl, rfl, rfl⟩ := e
    subst h0
    clear hr
    go_enter Tryd.func12, Tryd.ntmps12
    go_wp2
    refine bodyPost_ret (v := .tuple #[.agg #[.int .i64 0, .int .i64 0], .int .i64 16]) (by simp [results, Tryd.results12, go_sem]) rfl ⟨rfl, al1 _ _⟩
  · have hz : (d == 0) = false := by simp [h0]
    have an := ab_u (n := n) ⟨n1, n2⟩
    have ad := ab_u (n := d) ⟨d1, d2⟩
    have gp : 0 < gd (ab n) (ab d) := gd_pos (by rw [Ne, ab_0]; exact h0)
    have hF := make_fit n d h0
    rw [hr] at hF
    have q1 := qI_b an.1 gp
    have q2 := qI_b ad.1 gp
    have W1 := qI_w an.1 (by omega) gp
    have W2 := qI_w ad.1 (by omega) gp
    obtain ⟨m, hm⟩ : ∃ m, m = (decide (n < 0) != decide (d < 0)) := ⟨_, rfl⟩
    rw [← hm] at hF
    have hm2 : (!(decide (n < 0) == decide (d < 0))) = m := hm.symm
    have V1 : ab n / gd (ab n) (ab d) = qI (ab n) (gd (ab n) (ab d)) := rfl
    have V2 : ab d / gd (ab n) (ab d) = qI (ab d) (gd (ab n) (ab d)) := rfl
    have U1 : IntKind.u64.wrap ((ab n).tdiv (gd (ab n) (ab d))) = qI (ab n) (gd (ab n) (ab d)) := by rw [Int.tdiv_eq_ediv_of_nonneg an.1, W1]
    have U2 : IntKind.u64.wrap ((ab d).tdiv (gd (ab n) (ab d))) = qI (ab d) (gd (ab n) (ab d)) := by rw [Int.tdiv_eq_ediv_of_nonneg ad.1, W2]
    have hg0 : (gd (ab n) (ab d) == 0) = false := by simp; omega
    have hg1 : ¬ gd (ab n) (ab d) = 0 := by omega
    have hD := fun w => divisor_dr (ab n) (ab d) w an.1 (by omega) ad.1 (by omega)
    have hFit := fun w => fit_any m _ _ w q1.1 (by omega) q2.1 (by omega) hF
    generalize gd (ab n) (ab d) = g at *
    generalize qI (ab n) g = nn at *
    generalize qI (ab d) g = dd at *
    clear hr hF h0 hm
    go_enter Tryd.func12, Tryd.ntmps12
    go_wp2_with (first | (go_at_call 40; refine (hD _).mono ?_; rintro e w1 ⟨rfl, k, rfl⟩) | (go_at_call 41; refine (size_any _ _ (by omega) (by omega)).mono ?_; rintro e w1 ⟨rfl, rfl⟩))
    go_region_held3 (fun _ => True) (exact trivial) (first | (go_at_call 41; refine (size_any _ _ (by omega) (by omega)).mono ?_; rintro e w1 ⟨rfl, rfl⟩) | (go_at_call 42; refine (hFit _).mono ?_; rintro e w1 ⟨rfl, hb⟩; obtain ⟨c0, c1, f0, f1⟩ := Has.two (Has.below_ ((Has.new_ w 23 #[.int .i64 0, .int .i64 0]).drewN_ _) hb (by simp))))
    all_goals (
      go_wp2
      refine bodyPost_ret (v := .tuple #[.agg #[.int .i64 x, .int .i64 q], .int .i64 e0]) (by simp [results, Tryd.results12, go_sem, c0, c1]) rfl ⟨rfl, ?_⟩
      repeat (refine Below.setCell ?_ (by first | (simp; done) | (simp; omega)) _)
      exact belows (Dr.below (al1 _ _) ⟨_, rfl⟩) hb)

theorem V_b {n d : Int} (v : V n d) : I64 n ∧ I64 d := by obtain ⟨a, b, c, e, f⟩ := v; unfold I64; omega
def floorQ (n d : Int) : Int := n / d
def ceilQ (n d : Int) : Int := -((-n) / d)

theorem floor_bad (n d : Int) (w : World) (n1 : -9223372036854775808 ≤ n) (n2 : n ≤ 9223372036854775807) (d1 : -9223372036854775808 ≤ d) (d2 : d ≤ 9223372036854775807) (hv : vB n d = false) :
    Calls Tryd.prog 14 #[.agg #[.int .i64 n, .int .i64 d]] w fun e w' => e = .returned (.tuple #[.int .i64 0, .int .i64 1]) ∧ Below w.heap.size w w' := by
  have hV := fun w => valid_any n d w n1 n2 d1 d2
  rw [hv] at hV
  clear hv
  go_enter Tryd.func14, Tryd.ntmps14
  go_wp2_with (first | (go_at_call 17; refine (hV _).mono ?_; rintro e w1 ⟨rfl, hb⟩))
  go_ret2
  exact ⟨rfl, belows (al1 _ _) hb⟩
theorem ceil_bad (n d : Int) (w : World) (n1 : -9223372036854775808 ≤ n) (n2 : n ≤ 9223372036854775807) (d1 : -9223372036854775808 ≤ d) (d2 : d ≤ 9223372036854775807) (hv : vB n d = false) :
    Calls Tryd.prog 15 #[.agg #[.int .i64 n, .int .i64 d]] w fun e w' => e = .returned (.tuple #[.int .i64 0, .int .i64 1]) ∧ Below w.heap.size w w' := by
  have hV := fun w => valid_any n d w n1 n2 d1 d2
  rw [hv] at hV
  clear hv
  go_enter Tryd.func15, Tryd.ntmps15
  go_wp2_with (first | (go_at_call 17; refine (hV _).mono ?_; rintro e w1 ⟨rfl, hb⟩))
  go_ret2
  exact ⟨rfl, belows (al1 _ _) hb⟩
theorem tdiv_facts {n d : Int} (v : V n d) : (n.tdiv d * d + n.tmod d = n) ∧ -d < n.tmod d ∧ n.tmod d < d ∧ -1152921504606846976 ≤ n.tdiv d ∧ n.tdiv d ≤ 1152921504606846976 ∧ (n.tmod d < 0 → floorQ n d = n.tdiv d - 1) ∧ (¬ n.tmod d < 0 → floorQ n d = n.tdiv d) ∧ (0 < n.tmod d → ceilQ n d = n.tdiv d + 1) ∧ (¬ 0 < n.tmod d → ceilQ n d = n.tdiv d) := by
  have d0 := V0 v
  have h1 := Int.tdiv_mul_add_tmod n d
  have h2 := Int.tmod_lt_of_pos n d0
  have h3 := Int.lt_tmod_of_pos n d0
  have h4 := Int.natAbs_tdiv_le_natAbs n d
  obtain ⟨a, b, c, e, f⟩ := v
  have key : ∀ z : Int, z * d ≤ n → n < z * d + d → n / d = z := fun z h k => by
    refine Int.le_antisymm ?_ ?_
    · refine Int.lt_add_one_iff.1 ((Int.ediv_lt_iff_lt_mul d0).2 ?_); rw [Int.add_mul]; omega
    · exact (Int.le_ediv_iff_mul_le d0).2 h
  have key2 : ∀ z : Int, z * d ≤ -n → -n < z * d + d → (-n) / d = z := fun z h k => by
    refine Int.le_antisymm ?_ ?_
    · refine Int.lt_add_one_iff.1 ((Int.ediv_lt_iff_lt_mul d0).2 ?_); rw [Int.add_mul]; omega
    · exact (Int.le_ediv_iff_mul_le d0).2 h
  unfold floorQ ceilQ
  generalize n.tdiv d = q at *
  generalize n.tmod d = r at *
  refine ⟨h1, h3, h2, by omega, by omega, fun h => ?_, fun h => ?_, fun h => ?_, fun h => ?_⟩
  · refine key (q - 1) ?_ ?_ <;> rw [Int.sub_mul] <;> omega
  · refine key q ?_ ?_ <;> omega
  · rw [key2 (-q - 1) (by rw [Int.sub_mul, Int.neg_mul]; omega) (by rw [Int.sub_mul, Int.neg_mul]; omega)]; omega
  · rw [key2 (-q) (by rw [Int.neg_mul]; omega) (by rw [Int.neg_mul]; omega)]; omega

theorem floor_ok (n d : Int) (w : World) (v : V n d) :
    Calls Tryd.prog 14 #[.agg #[.int .i64 n, .int .i64 d]] w fun e w' => e = .returned (.tuple #[.int .i64 (floorQ n d), .int .i64 0]) ∧ Below w.heap.size w w' := by
  obtain ⟨⟨n1, n2⟩, ⟨d1, d2⟩⟩ := V_b v
  have hV := fun w => valid_any n d w n1 n2 d1 d2
  rw [vB_t.2 v] at hV
  obtain ⟨-, r1, r2, b1, b2, k1, k2, -, -⟩ := tdiv_facts v
  have d0 := V0 v
  have W1 := IntWalk.i64_in (n.tdiv d) (by omega)
  have W2 : (d == 0) = false := by simp; omega
  have W3 := IntWalk.i64_in (n.tmod d) (by omega)
  by_cases h : n.tmod d < 0
  · rw [k1 h]
    clear k1 k2 v
    go_enter Tryd.func14, Tryd.ntmps14
    go_wp2_with (first | (go_at_call 17; refine (hV _).mono ?_; rintro e w1 ⟨rfl, hb⟩; obtain ⟨c0, c1, f0, f1⟩ := Has.two (Has.below_ (Has.new_ w 23 #[.int .i64 n, .int .i64 d]) hb (by simp))))
    all_goals go_ret2
    all_goals exact ⟨rfl, belows (al1 _ _) hb⟩
  · rw [k2 h]
    clear k1 k2 v
    go_enter Tryd.func14, Tryd.ntmps14
    go_wp2_with (first | (go_at_call 17; refine (hV _).mono ?_; rintro e w1 ⟨rfl, hb⟩; obtain ⟨c0, c1, f0, f1⟩ := Has.two (Has.below_ (Has.new_ w 23 #[.int .i64 n, .int .i64 d]) hb (by simp))))
    all_goals go_ret2
    all_goals exact ⟨rfl, belows (al1 _ _) hb⟩
theorem ceil_ok (n d : Int) (w : World) (v : V n d) :
    Calls Tryd.prog 15 #[.agg #[.int .i64 n, .int .i64 d]] w fun e w' => e = .returned (.tuple #[.int .i64 (ceilQ n d), .int .i64 0]) ∧ Below w.heap.size w w' := by
  obtain ⟨⟨n1, n2⟩, ⟨d1, d2⟩⟩ := V_b v
  have hV := fun w => valid_any n d w n1 n2 d1 d2
  rw [vB_t.2 v] at hV
  obtain ⟨-, r1, r2, b1, b2, -, -, k1, k2⟩ := tdiv_facts v
  have d0 := V0 v
  have W1 := IntWalk.i64_in (n.tdiv d) (by omega)
  have W2 : (d == 0) = false := by simp; omega
  have W3 := IntWalk.i64_in (n.tmod d) (by omega)
  by_cases h : 0 < n.tmod d
  · rw [k1 h]
    clear k1 k2 v
    go_enter Tryd.func15, Tryd.ntmps15
    go_wp2_with (first | (go_at_call 17; refine (hV _).mono ?_; rintro e w1 ⟨rfl, hb⟩; obtain ⟨c0, c1, f0, f1⟩ := Has.two (Has.below_ (Has.new_ w 23 #[.int .i64 n, .int .i64 d]) hb (by simp))))
    all_goals go_ret2
    all_goals exact ⟨rfl, belows (al1 _ _) hb⟩
  · rw [k2 h]
    clear k1 k2 v
    go_enter Tryd.func15, Tryd.ntmps15
    go_wp2_with (first | (go_at_call 17; refine (hV _).mono ?_; rintro e w1 ⟨rfl, hb⟩; obtain ⟨c0, c1, f0, f1⟩ := Has.two (Has.below_ (Has.new_ w 23 #[.int .i64 n, .int .i64 d]) hb (by simp))))
    all_goals go_ret2
    all_goals exact ⟨rfl, belows (al1 _ _) hb⟩
end Go.Proofs.YtbbbmlnggehcdaaDoor
