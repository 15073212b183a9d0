/- Contracts of Make, Floor and Ceil. -/
import Derived.Test.YtplepbaafamjfaaWf
namespace Go.Proofs.Ytplepbaafamjfaa
open Go.ChangeShapes Go.WideShapes Go.ChangeAt Go.RowKit Go.Shelf
set_option linter.unusedVariables false

theorem qI_b {a b : Int} (ha : 0 ≤ a) (hb : 0 < b) : 0 ≤ qI a b ∧ qI a b ≤ a := ⟨Int.ediv_nonneg ha (by omega), Int.ediv_le_self _ ha⟩
theorem qI_w {a b : Int} (ha : 0 ≤ a) (h2 : a ≤ 18446744073709551615) (hb : 0 < b) : IntKind.u64.wrap (a / b) = qI a b := by
  have := qI_b ha hb
  show IntKind.u64.wrap (qI a b) = _
  rw [IntKind.wrap_u64]; omega
theorem Has.two {w : World} {g : Nat} {t : TypeId} {a b : Value} (h : Has w g t #[a, b]) :
    w.cell? ⟨g, 0, none⟩ = some a ∧ w.cell? ⟨g, 1, none⟩ = some b ∧ w.frozen? ⟨g, 0, none⟩ = false ∧ w.frozen? ⟨g, 1, none⟩ = false := ⟨h.read 0, h.read 1, h.open_ 0, h.open_ 1⟩

theorem make_fit (n d : Int) (hd : d ≠ 0) : fitQ (decide (n < 0) != decide (d < 0)) (qI (ab n) (gd (ab n) (ab d))) (qI (ab d) (gd (ab n) (ab d))) = makeQ n d := by
  rw [gd_ab]
  unfold makeQ qI
  rw [if_neg hd]
  by_cases h : d < 0
  · rw [if_pos h]
    have e1 : ab n = ab (-n) := by unfold ab; omega
    have e2 : gd n d = gd (-n) (-d) := by unfold gd; simp
    rw [e1, e2, ab_neg (n := d) (by omega)]
    refine fit_mk (by omega) ?_
    by_cases k : n < 0
    · rw [ab_pos (by omega)]; simp [h, k]
    · simp only [h, k, decide_true, decide_false]
      rw [ab_neg (by omega)]; simp
  · rw [if_neg h, ab_pos (n := d) (by omega)]
    refine fit_mk (by omega) ?_
    by_cases k : n < 0
    · simp only [h, k, decide_true, decide_false]
      rw [ab_neg (by omega)]; simp
    · rw [ab_pos (by omega)]; simp [h, k]

theorem V_b {n d : Int} (v : V n d) : I64 n ∧ I64 d := by obtain ⟨a, b, c, e, f⟩ := v; unfold I64; omega
def floorQ (n d : Int) : Int := n / d
def ceilQ (n d : Int) : Int := -((-n) / d)

theorem floor_bad (n d : Int) (w : World) (n1 : -9223372036854775808 ≤ n) (n2 : n ≤ 9223372036854775807) (d1 : -9223372036854775808 ≤ d) (d2 : d ≤ 9223372036854775807) (hv : vB n d = false) :
    Calls Try.prog 43 #[.agg #[.int .i64 n, .int .i64 d]] w fun e w' => e = .returned (.tuple #[.int .i64 0, .int .i64 1]) ∧ Below w.heap.size w w' := by
  have hV := fun w => valid_any n d w n1 n2 d1 d2
  rw [hv] at hV
  clear hv
  go_enter Try.func43, Try.ntmps43
  go_wp2_with (first | (go_at_call 55; refine (hV _).mono ?_; rintro e w1 ⟨rfl, hb⟩))
  go_ret2
  exact ⟨rfl, belows (al1 _ _) hb⟩
theorem ceil_bad (n d : Int) (w : World) (n1 : -9223372036854775808 ≤ n) (n2 : n ≤ 9223372036854775807) (d1 : -9223372036854775808 ≤ d) (d2 : d ≤ 9223372036854775807) (hv : vB n d = false) :
    Calls Try.prog 44 #[.agg #[.int .i64 n, .int .i64 d]] w fun e w' => e = .returned (.tuple #[.int .i64 0, .int .i64 1]) ∧ Below w.heap.size w w' := by
  have hV := fun w => valid_any n d w n1 n2 d1 d2
  rw [hv] at hV
  clear hv
  go_enter Try.func44, Try.ntmps44
  go_wp2_with (first | (go_at_call 55; refine (hV _).mono ?_; rintro e w1 ⟨rfl, hb⟩))
  go_ret2
  exact ⟨rfl, belows (al1 _ _) hb⟩
theorem tdiv_facts {n d : Int} (v : V n d) : (n.tdiv d * d + n.tmod d = n) ∧ -d < n.tmod d ∧ n.tmod d < d ∧ -1152921504606846976 ≤ n.tdiv d ∧ n.tdiv d ≤ 1152921504606846976 ∧ (n.tmod d < 0 → floorQ n d = n.tdiv d - 1) ∧ (¬ n.tmod d < 0 → floorQ n d = n.tdiv d) ∧ (0 < n.tmod d → ceilQ n d = n.tdiv d + 1) ∧ (¬ 0 < n.tmod d → ceilQ n d = n.tdiv d) := by
  have d0 := V0 v
  have h1 := Int.tdiv_mul_add_tmod n d
  have h2 := Int.tmod_lt_of_pos n d0
  have h3 := Int.lt_tmod_of_pos n d0
  have h4 := Int.natAbs_tdiv_le_natAbs n d
  obtain ⟨a, b, c, e, f⟩ := v
  have key : ∀ z : Int, z * d ≤ n → n < z * d + d → n / d = z := fun z h k => by
    refine Int.le_antisymm ?_ ?_
    · refine Int.lt_add_one_iff.1 ((Int.ediv_lt_iff_lt_mul d0).2 ?_); rw [Int.add_mul]; omega
    · exact (Int.le_ediv_iff_mul_le d0).2 h
  have key2 : ∀ z : Int, z * d ≤ -n → -n < z * d + d → (-n) / d = z := fun z h k => by
    refine Int.le_antisymm ?_ ?_
    · refine Int.lt_add_one_iff.1 ((Int.ediv_lt_iff_lt_mul d0).2 ?_); rw [Int.add_mul]; omega
    · exact (Int.le_ediv_iff_mul_le d0).2 h
  unfold floorQ ceilQ
  generalize n.tdiv d = q at *
  generalize n.tmod d = r at *
  refine ⟨h1, h3, h2, by omega, by omega, fun h => ?_, fun h => ?_, fun h => ?_, fun h => ?_⟩
  · refine key (q - 1) ?_ ?_ <;> rw [Int.sub_mul] <;> omega
  · refine key q ?_ ?_ <;> omega
  · rw [key2 (-q - 1) (by rw [Int.sub_mul, Int.neg_mul]; omega) (by rw [Int.sub_mul, Int.neg_mul]; omega)]; omega
  · rw [key2 (-q) (by rw [Int.neg_mul]; omega) (by rw [Int.neg_mul]; omega)]; omega

theorem floor_ok (n d : Int) (w : World) (v : V n d) :
    Calls Try.prog 43 #[.agg #[.int .i64 n, .int .i64 d]] w fun e w' => e = .returned (.tuple #[.int .i64 (floorQ n d), .int .i64 0]) ∧ Below w.heap.size w w' := by
  obtain ⟨⟨n1, n2⟩, ⟨d1, d2⟩⟩ := V_b v
  have hV := fun w => valid_any n d w n1 n2 d1 d2
  rw [vB_t.2 v] at hV
  obtain ⟨-, r1, r2, b1, b2, k1, k2, -, -⟩ := tdiv_facts v
  have d0 := V0 v
  have W1 := IntWalk.i64_in (n.tdiv d) (by omega)
  have W2 : (d == 0) = false := by simp; omega
  have W3 := IntWalk.i64_in (n.tmod d) (by omega)
  by_cases h : n.tmod d < 0
  · rw [k1 h]
    clear k1 k2 v
    go_enter Try.func43, Try.ntmps43
    go_wp2_with (first | (go_at_call 55; refine (hV _).mono ?_; rintro e w1 ⟨rfl, hb⟩; obtain ⟨c0, c1, f0, f1⟩ := Has.two (Has.below_ (Has.new_ w 35 #[.int .i64 n, .int .i64 d]) hb (by simp))))
    all_goals go_ret2
    all_goals exact ⟨rfl, belows (al1 _ _) hb⟩
  · rw [k2 h]
    clear k1 k2 v
    go_enter Try.func43, Try.ntmps43
    go_wp2_with (first | (go_at_call 55; refine (hV _).mono ?_; rintro e w1 ⟨rfl, hb⟩; obtain ⟨c0, c1, f0, f1⟩ := Has.two (Has.below_ (Has.new_ w 35 #[.int .i64 n, .int .i64 d]) hb (by simp))))
    all_goals go_ret2
    all_goals exact ⟨rfl, belows (al1 _ _) hb⟩
theorem ceil_ok (n d : Int) (w : World) (v : V n d) :
    Calls Try.prog 44 #[.agg #[.int .i64 n, .int .i64 d]] w fun e w' => e = .returned (.tuple #[.int .i64 (ceilQ n d), .int .i64 0]) ∧ Below w.heap.size w w' := by
  obtain ⟨⟨n1, n2⟩, ⟨d1, d2⟩⟩ := V_b v
  have hV := fun w => valid_any n d w n1 n2 d1 d2
  rw [vB_t.2 v] at hV
  obtain ⟨-, r1, r2, b1, b2, -, -, k1, k2⟩ := tdiv_facts v
  have d0 := V0 v
  have W1 := IntWalk.i64_in (n.tdiv d) (by omega)
  have W2 : (d == 0) = false := by simp; omega
  have W3 := IntWalk.i64_in (n.tmod d) (by omega)
  by_cases h : 0 < n.tmod d
  · rw [k1 h]
    clear k1 k2 v
    go_enter Try.func44, Try.ntmps44
    go_wp2_with (first | (go_at_call 55; refine (hV _).mono ?_; rintro e w1 ⟨rfl, hb⟩; obtain ⟨c0, c1, f0, f1⟩ := Has.two (Has.below_ (Has.new_ w 35 #[.int .i64 n, .int .i64 d]) hb (by simp))))
    all_goals go_ret2
    all_goals exact ⟨rfl, belows (al1 _ _) hb⟩
  · rw [k2 h]
    clear k1 k2 v
    go_enter Try.func44, Try.ntmps44
    go_wp2_with (first | (go_at_call 55; refine (hV _).mono ?_; rintro e w1 ⟨rfl, hb⟩; obtain ⟨c0, c1, f0, f1⟩ := Has.two (Has.below_ (Has.new_ w 35 #[.int .i64 n, .int .i64 d]) hb (by simp))))
    all_goals go_ret2
    all_goals exact ⟨rfl, belows (al1 _ _) hb⟩
end Go.Proofs.Ytplepbaafamjfaa
