/- The contracts of Mul and Div. -/
import Derived.Test.YtbbbmlnggehcdaaDoorCm
import Derived.Test.YtbbbmlnggehcdaaDoorQA
namespace Go.Proofs.YtbbbmlnggehcdaaDoor
open Go.ChangeShapes Go.WideShapes Go.ChangeAt Go.RowKit Go.Shelf
set_option linter.unusedVariables false

/-- The arguments and the result of a call, in their three blocks. -/
def Three (w0 w : World) (an ad bn bd : Int) : Prop := Two w0 w an ad bn bd ∧ Has w (w0.heap.size + 1 + 1) 23 #[.int .i64 0, .int .i64 0]
theorem three_start (w : World) (an ad bn bd : Int) : Three w (((w.alloc (.cells #[.int .i64 an, .int .i64 ad] 23)).alloc (.cells #[.int .i64 bn, .int .i64 bd] 23)).alloc (.cells #[.int .i64 0, .int .i64 0] 23)) an ad bn bd :=
  ⟨(two_start w an ad bn bd).alloc _, (has3 w 23 23 23 _ _ _).2.2.1⟩
theorem Three.next {w0 w w1 : World} {an ad bn bd : Int} (h : Three w0 w an ad bn bd) (hb : Below w.heap.size w w1) : Three w0 w1 an ad bn bd :=
  ⟨h.1.next hb, h.2.below_ hb h.2.size_⟩
theorem Three.drewN {w0 w : World} {an ad bn bd : Int} (h : Three w0 w an ad bn bd) (n : Nat) : Three w0 (w.drewN n) an ad bn bd := ⟨h.1.drewN n, h.2⟩
theorem Three.drew {w0 w : World} {an ad bn bd : Int} (h : Three w0 w an ad bn bd) : Three w0 w.drew an ad bn bd := ⟨h.1.drew, h.2⟩

/-- What product returns. -/
def pL (a b : Int) : Int := a * b % 18446744073709551616
def pB (a b : Int) : Bool := decide (a * b ≤ 18446744073709551615)
theorem product_dr (a b : Int) (w : World) (ha : 0 ≤ a) (ha2 : a ≤ 18446744073709551615) (hb : 0 ≤ b) (hb2 : b ≤ 18446744073709551615) :
    Calls Tryd.prog 51 #[.int .u64 a, .int .u64 b] w fun e w' => e = .returned (.tuple #[.int .u64 (pL a b), .bool (pB a b)]) ∧ Dr w w' :=
  (product_any a b w ha ha2 hb hb2).mono fun e w' h => ⟨h.1, by rw [h.2]; exact Dr.refl _⟩

theorem mul_fit {an ad bn bd : Int} (va : V an ad) (vb : V bn bd) :
    fitQ (decide (an < 0) != decide (bn < 0)) (qI (ab an) (gd (ab an) (ab bd)) * qI (ab bn) (gd (ab bn) (ab ad))) (qI (ab ad) (gd (ab bn) (ab ad)) * qI (ab bd) (gd (ab an) (ab bd))) = mulQ an ad bn bd := by
  rw [gd_ab, gd_ab]
  obtain ⟨f0, s0, d1, d3, d4, d2, g, eX, eQ⟩ := mul_red va vb rfl rfl
  have a0 := V0 va
  have b0 := V0 vb
  have e3 : ab (an * bn) = ab an * ab bn := by unfold ab; rw [Int.natAbs_mul, Int.natCast_mul]
  have k := fit_mk (x := an * bn) (q := ad * bd) (minus := decide (an < 0) != decide (bn < 0)) (VV va vb) ?_
  · rw [show gd (an * bn) (ad * bd) = gd an bd * gd bn ad from g] at k
    rw [show gd an bd = (Int.gcd an bd : Int) from rfl, show gd bn ad = (Int.gcd bn ad : Int) from rfl] at *
    rw [eQ, e3] at k
    unfold mulQ qI
    rw [ab_pos (n := ad) (by omega), ab_pos (n := bd) (by omega), ← k]
    congr 1
    have x1 : (Int.gcd an bd : Int) ∣ ab an := by unfold ab; exact Int.dvd_natAbs.2 d1
    have x2 : (Int.gcd bn ad : Int) ∣ ab bn := by unfold ab; exact Int.dvd_natAbs.2 d3
    have y1 := dvd_div x1
    have y2 := dvd_div x2
    generalize ab an / (Int.gcd an bd : Int) = p at *
    generalize ab bn / (Int.gcd bn ad : Int) = r at *
    have : ab an * ab bn = ((Int.gcd an bd : Int) * (Int.gcd bn ad : Int)) * (p * r) := by rw [← y1, ← y2]; grind
    rw [this, Int.mul_ediv_cancel_left _ (by have := Int.mul_pos f0 s0; omega)]
  · rw [e3]
    by_cases h1 : an < 0
    · by_cases h2 : bn < 0
      · rw [ab_neg (n := an) (by omega), ab_neg (n := bn) (by omega)]; simp [h1, h2, Int.neg_mul_neg]
      · rw [ab_neg (n := an) (by omega), ab_pos (n := bn) (by omega)]; simp [h1, h2, Int.neg_mul]
    · by_cases h2 : bn < 0
      · rw [ab_pos (n := an) (by omega), ab_neg (n := bn) (by omega)]; simp [h1, h2, Int.mul_neg]
      · rw [ab_pos (n := an) (by omega), ab_pos (n := bn) (by omega)]; simp [h1, h2]

theorem mul_bad (an ad bn bd : Int) (w : World) (x1 : -9223372036854775808 ≤ an) (x2 : an ≤ 9223372036854775807) (x3 : -9223372036854775808 ≤ ad) (x4 : ad ≤ 9223372036854775807)
    (y1 : -9223372036854775808 ≤ bn) (y2 : bn ≤ 9223372036854775807) (y3 : -9223372036854775808 ≤ bd) (y4 : bd ≤ 9223372036854775807) (hv : vB an ad = true → vB bn bd = false) :
    Calls Tryd.prog 23 #[.agg #[.int .i64 an, .int .i64 ad], .agg #[.int .i64 bn, .int .i64 bd]] w fun e w' => e = .returned (.tuple #[.agg #[.int .i64 0, .int .i64 0], .int .i64 1]) ∧ Below w.heap.size w w' := by
  cases hA : vB an ad
  · clear hv
    go_enter Tryd.func23, Tryd.ntmps23
    go_wp2_with (first | (go_at_call 17; refine (valid_any _ _ _ (by omega) (by omega) (by omega) (by omega)).mono ?_; rw [hA]; rintro e w1 ⟨rfl, hb⟩; have B1 := (three_start w an ad bn bd).next hb; clear hb; obtain ⟨r0, r1, k0, k1⟩ := Has.two B1.2))
    refine bodyPost_ret (v := .tuple #[.agg #[.int .i64 0, .int .i64 0], .int .i64 1]) (by simp [results, Tryd.results23, go_sem, r0, r1]) rfl ⟨rfl, ?_⟩
    repeat (refine Below.setCell ?_ (by first | (simp; done) | (simp; omega)) _)
    exact B1.1.2.2.1
  · have hB := hv hA
    clear hv
    go_enter Tryd.func23, Tryd.ntmps23
    go_wp2_with (first | (go_at_call 17; refine (valid_any _ _ _ (by omega) (by omega) (by omega) (by omega)).mono ?_; (first | (rw [hA]; rintro e w1 ⟨rfl, hb⟩; have B1 := (three_start w an ad bn bd).next hb; clear hb; obtain ⟨c0, c1, d0, d1⟩ := B1.1.cells; obtain ⟨r0, r1, k0, k1⟩ := Has.two B1.2) | (rw [hB]; rintro e w2 ⟨rfl, hb⟩; have B2 := B1.next hb; clear hb c0 c1 d0 d1 r0 r1 k0 k1; obtain ⟨c0, c1, d0, d1⟩ := B2.1.cells; obtain ⟨r0, r1, k0, k1⟩ := Has.two B2.2))))
    refine bodyPost_ret (v := .tuple #[.agg #[.int .i64 0, .int .i64 0], .int .i64 1]) (by simp [results, Tryd.results23, go_sem, r0, r1]) rfl ⟨rfl, ?_⟩
    repeat (refine Below.setCell ?_ (by first | (simp; done) | (simp; omega)) _)
    exact B2.1.2.2.1

theorem div_bad (an ad bn bd : Int) (w : World) (x1 : -9223372036854775808 ≤ an) (x2 : an ≤ 9223372036854775807) (x3 : -9223372036854775808 ≤ ad) (x4 : ad ≤ 9223372036854775807)
    (y1 : -9223372036854775808 ≤ bn) (y2 : bn ≤ 9223372036854775807) (y3 : -9223372036854775808 ≤ bd) (y4 : bd ≤ 9223372036854775807) (hv : vB an ad = true → vB bn bd = false) :
    Calls Tryd.prog 24 #[.agg #[.int .i64 an, .int .i64 ad], .agg #[.int .i64 bn, .int .i64 bd]] w fun e w' => e = .returned (.tuple #[.agg #[.int .i64 0, .int .i64 0], .int .i64 1]) ∧ Below w.heap.size w w' := by
  cases hA : vB an ad
  · clear hv
    go_enter Tryd.func24, Tryd.ntmps24
    go_wp2_with (first | (go_at_call 17; refine (valid_any _ _ _ (by omega) (by omega) (by omega) (by omega)).mono ?_; rw [hA]; rintro e w1 ⟨rfl, hb⟩; have B1 := (three_start w an ad bn bd).next hb; clear hb; obtain ⟨r0, r1, k0, k1⟩ := Has.two B1.2))
    refine bodyPost_ret (v := .tuple #[.agg #[.int .i64 0, .int .i64 0], .int .i64 1]) (by simp [results, Tryd.results24, go_sem, r0, r1]) rfl ⟨rfl, ?_⟩
    repeat (refine Below.setCell ?_ (by first | (simp; done) | (simp; omega)) _)
    exact B1.1.2.2.1
  · have hB := hv hA
    clear hv
    go_enter Tryd.func24, Tryd.ntmps24
    go_wp2_with (first | (go_at_call 17; refine (valid_any _ _ _ (by omega) (by omega) (by omega) (by omega)).mono ?_; (first | (rw [hA]; rintro e w1 ⟨rfl, hb⟩; have B1 := (three_start w an ad bn bd).next hb; clear hb; obtain ⟨c0, c1, d0, d1⟩ := B1.1.cells; obtain ⟨r0, r1, k0, k1⟩ := Has.two B1.2) | (rw [hB]; rintro e w2 ⟨rfl, hb⟩; have B2 := B1.next hb; clear hb c0 c1 d0 d1 r0 r1 k0 k1; obtain ⟨c0, c1, d0, d1⟩ := B2.1.cells; obtain ⟨r0, r1, k0, k1⟩ := Has.two B2.2))))
    refine bodyPost_ret (v := .tuple #[.agg #[.int .i64 0, .int .i64 0], .int .i64 1]) (by simp [results, Tryd.results24, go_sem, r0, r1]) rfl ⟨rfl, ?_⟩
    repeat (refine Below.setCell ?_ (by first | (simp; done) | (simp; omega)) _)
    exact B2.1.2.2.1

set_option maxHeartbeats 2000000 in
theorem mul_ok (an ad bn bd : Int) (w : World) (va : V an ad) (vb : V bn bd) {x q e0 : Int} (hr : mulQ an ad bn bd = (x, q, e0)) :
    Calls Tryd.prog 23 #[.agg #[.int .i64 an, .int .i64 ad], .agg #[.int .i64 bn, .int .i64 bd]] w fun e w' => e = .returned (.tuple #[.agg #[.int .i64 x, .int .i64 q], .int .i64 e0]) ∧ Below w.heap.size w w' := by
  have hA := vB_t.2 va
  have hB := vB_t.2 vb
  have hF := mul_fit va vb
  rw [hr] at hF
  have f0 : 0 < gd (ab an) (ab bd) := gd_pos (by rw [Ne, ab_0]; have := V0 vb; omega)
  have s0 : 0 < gd (ab bn) (ab ad) := gd_pos (by rw [Ne, ab_0]; have := V0 va; omega)
  obtain ⟨⟨x1, x2⟩, ⟨x3, x4⟩⟩ := V_b va
  obtain ⟨⟨y1, y2⟩, ⟨y3, y4⟩⟩ := V_b vb
  have za := ab_u (n := an) ⟨x1, x2⟩
  have zb := ab_u (n := ad) ⟨x3, x4⟩
  have zc := ab_u (n := bn) ⟨y1, y2⟩
  have zd := ab_u (n := bd) ⟨y3, y4⟩
  have V1 : ab an / gd (ab an) (ab bd) = qI (ab an) (gd (ab an) (ab bd)) := rfl
  have V2 : ab bn / gd (ab bn) (ab ad) = qI (ab bn) (gd (ab bn) (ab ad)) := rfl
  have V3 : ab ad / gd (ab bn) (ab ad) = qI (ab ad) (gd (ab bn) (ab ad)) := rfl
  have V4 : ab bd / gd (ab an) (ab bd) = qI (ab bd) (gd (ab an) (ab bd)) := rfl
  have T1 : IntKind.u64.wrap ((ab an).tdiv (gd (ab an) (ab bd))) = qI (ab an) (gd (ab an) (ab bd)) := by rw [Int.tdiv_eq_ediv_of_nonneg za.1, qI_w za.1 (by omega) f0]
  have T2 : IntKind.u64.wrap ((ab bn).tdiv (gd (ab bn) (ab ad))) = qI (ab bn) (gd (ab bn) (ab ad)) := by rw [Int.tdiv_eq_ediv_of_nonneg zc.1, qI_w zc.1 (by omega) s0]
  have T3 : IntKind.u64.wrap ((ab ad).tdiv (gd (ab bn) (ab ad))) = qI (ab ad) (gd (ab bn) (ab ad)) := by rw [Int.tdiv_eq_ediv_of_nonneg zb.1, qI_w zb.1 (by omega) s0]
  have T4 : IntKind.u64.wrap ((ab bd).tdiv (gd (ab an) (ab bd))) = qI (ab bd) (gd (ab an) (ab bd)) := by rw [Int.tdiv_eq_ediv_of_nonneg zd.1, qI_w zd.1 (by omega) f0]
  have U1 := qI_w za.1 (by omega) f0
  have U2 := qI_w zc.1 (by omega) s0
  have U3 := qI_w zb.1 (by omega) s0
  have U4 := qI_w zd.1 (by omega) f0
  have q1 := qI_b za.1 f0
  have q2 := qI_b zc.1 s0
  have q3 := qI_b zb.1 s0
  have q4 := qI_b zd.1 f0
  have g1 : ¬ gd (ab an) (ab bd) = 0 := by omega
  have g2 : ¬ gd (ab bn) (ab ad) = 0 := by omega
  have g3 : (gd (ab an) (ab bd) == 0) = false := by simp; omega
  have g4 : (gd (ab bn) (ab ad) == 0) = false := by simp; omega
  generalize qI (ab an) (gd (ab an) (ab bd)) = p at *
  generalize qI (ab bn) (gd (ab bn) (ab ad)) = r at *
  generalize qI (ab ad) (gd (ab bn) (ab ad)) = t at *
  generalize qI (ab bd) (gd (ab an) (ab bd)) = z at *
  have n1 : 0 ≤ p * r := Int.mul_nonneg q1.1 q2.1
  have n2 : 0 ≤ t * z := Int.mul_nonneg q3.1 q4.1
  have m1 : ¬ p * r ≤ 18446744073709551615 → (x, q, e0) = (0, 0, 5) := fun h => by rw [← hF]; unfold fitQ; rw [if_pos (by omega)]
  have m2 : ¬ t * z ≤ 18446744073709551615 → (x, q, e0) = (0, 0, 5) := fun h => by rw [← hF]; unfold fitQ; rw [if_pos (by omega)]
  have m3 : p * r ≤ 18446744073709551615 → pL p r = p * r := fun h => Int.emod_eq_of_lt n1 (by omega)
  have m4 : t * z ≤ 18446744073709551615 → pL t z = t * z := fun h => Int.emod_eq_of_lt n2 (by omega)
  have m5 : p * r ≤ 18446744073709551615 → pB p r = true := fun h => decide_eq_true h
  have m6 : t * z ≤ 18446744073709551615 → pB t z = true := fun h => decide_eq_true h
  have m7 : ¬ p * r ≤ 18446744073709551615 → pB p r = false := fun h => decide_eq_false h
  have m8 : ¬ t * z ≤ 18446744073709551615 → pB t z = false := fun h => decide_eq_false h
  generalize p * r = pr at *
  generalize t * z = tz at *
  have hm2 : (!(decide (an < 0) == decide (bn < 0))) = (decide (an < 0) != decide (bn < 0)) := rfl
  clear hr V1 V2 V3 V4 va vb
  by_cases h1 : pr ≤ 18446744073709551615
  · have E1 := m3 h1
    have E2 := m5 h1
    by_cases h2 : tz ≤ 18446744073709551615
    · have E3 := m4 h2
      have E4 := m6 h2
      have hFit := fun w => fit_any _ pr tz w n1 h1 n2 h2 hF
      generalize (decide (an < 0) != decide (bn < 0)) = m at *
      clear m1 m2 m3 m4 m5 m6 m7 m8 hF
      go_enter Tryd.func23, Tryd.ntmps23
      go_wp2_with (first | (go_at_call 17; refine (valid_any _ _ _ (by omega) (by omega) (by omega) (by omega)).mono ?_; (first | (rw [hA]; rintro e w1 ⟨rfl, hb⟩; have B1 := (three_start w an ad bn bd).next hb; clear hb; obtain ⟨c0, c1, d0, d1⟩ := B1.1.cells; obtain ⟨r0, r1, k0, k1⟩ := Has.two B1.2) | (rw [hB]; rintro e w2 ⟨rfl, hb⟩; have B2 := B1.next hb; clear hb c0 c1 d0 d1 r0 r1 k0 k1; obtain ⟨c0, c1, d0, d1⟩ := B2.1.cells; obtain ⟨r0, r1, k0, k1⟩ := Has.two B2.2))))
      go_quiet (first | (go_at_call 40; exact (divisor_dr _ _ _ (by omega) (by omega) (by omega) (by omega)).mono fun e w' h => ⟨h.1, qui h.2⟩) | (go_at_call 41; exact (size_dr _ _ (by omega) (by omega)).mono fun e w' h => ⟨h.1, qui h.2⟩))
      have B3 := B2.drewN nq; clear c0 c1 d0 d1 r0 r1 k0 k1; obtain ⟨c0, c1, d0, d1⟩ := B3.1.cells; obtain ⟨r0, r1, k0, k1⟩ := Has.two B3.2; generalize w2.drewN nq = w3 at *
      go_wp2
      go_quiet (first | (go_at_call 40; exact (divisor_dr _ _ _ (by omega) (by omega) (by omega) (by omega)).mono fun e w' h => ⟨h.1, qui h.2⟩) | (go_at_call 41; exact (size_dr _ _ (by omega) (by omega)).mono fun e w' h => ⟨h.1, qui h.2⟩))
      have B4 := B3.drewN nq; clear c0 c1 d0 d1 r0 r1 k0 k1; obtain ⟨c0, c1, d0, d1⟩ := B4.1.cells; obtain ⟨r0, r1, k0, k1⟩ := Has.two B4.2; generalize w3.drewN nq = w4 at *
      go_wp2
      go_quiet (first | (go_at_call 40; exact (divisor_dr _ _ _ (by omega) (by omega) (by omega) (by omega)).mono fun e w' h => ⟨h.1, qui h.2⟩) | (go_at_call 41; exact (size_dr _ _ (by omega) (by omega)).mono fun e w' h => ⟨h.1, qui h.2⟩) | (go_at_call 51; exact (product_dr _ _ _ (by omega) (by omega) (by omega) (by omega)).mono fun e w' h => ⟨h.1, qui h.2⟩))
      have B5 := B4.drewN nq; clear c0 c1 d0 d1 r0 r1 k0 k1; obtain ⟨c0, c1, d0, d1⟩ := B5.1.cells; obtain ⟨r0, r1, k0, k1⟩ := Has.two B5.2; generalize w4.drewN nq = w5 at *
      go_wp2
      go_quiet (first | (go_at_call 40; exact (divisor_dr _ _ _ (by omega) (by omega) (by omega) (by omega)).mono fun e w' h => ⟨h.1, qui h.2⟩) | (go_at_call 41; exact (size_dr _ _ (by omega) (by omega)).mono fun e w' h => ⟨h.1, qui h.2⟩) | (go_at_call 51; exact (product_dr _ _ _ (by omega) (by omega) (by omega) (by omega)).mono fun e w' h => ⟨h.1, qui h.2⟩))
      have B6 := B5.drewN nq; clear c0 c1 d0 d1 r0 r1 k0 k1; obtain ⟨c0, c1, d0, d1⟩ := B6.1.cells; obtain ⟨r0, r1, k0, k1⟩ := Has.two B6.2; generalize w5.drewN nq = w6 at *
      go_wp2_with (first | (go_at_call 42; refine (hFit _).mono ?_; rintro e w9 ⟨rfl, hb⟩; have B9 := B6.next hb; clear hb c0 c1 d0 d1 r0 r1 k0 k1; obtain ⟨c0, c1, d0, d1⟩ := B9.1.cells; obtain ⟨r0, r1, k0, k1⟩ := Has.two B9.2) | (go_at_call 41; refine (size_any _ _ (by omega) (by omega)).mono ?_; rintro e w1 ⟨rfl, rfl⟩))
      refine bodyPost_ret (v := .tuple #[.agg #[.int .i64 x, .int .i64 q], .int .i64 e0]) (by simp [results, Tryd.results23, go_sem, r0, r1]) rfl ⟨rfl, ?_⟩
      repeat (refine Below.setCell ?_ (by first | (simp; done) | (simp; omega)) _)
      exact B9.1.2.2.1
    · have E4 := m8 h2
      have e := m2 h2
      simp only [Prod.mk.injEq] at e; obtain ⟨rfl, rfl, rfl⟩ := e
      clear m1 m2 m3 m4 m5 m6 m7 m8 hF hm2
      go_enter Tryd.func23, Tryd.ntmps23
      go_wp2_with (first | (go_at_call 17; refine (valid_any _ _ _ (by omega) (by omega) (by omega) (by omega)).mono ?_; (first | (rw [hA]; rintro e w1 ⟨rfl, hb⟩; have B1 := (three_start w an ad bn bd).next hb; clear hb; obtain ⟨c0, c1, d0, d1⟩ := B1.1.cells; obtain ⟨r0, r1, k0, k1⟩ := Has.two B1.2) | (rw [hB]; rintro e w2 ⟨rfl, hb⟩; have B2 := B1.next hb; clear hb c0 c1 d0 d1 r0 r1 k0 k1; obtain ⟨c0, c1, d0, d1⟩ := B2.1.cells; obtain ⟨r0, r1, k0, k1⟩ := Has.two B2.2))))
      go_quiet (first | (go_at_call 40; exact (divisor_dr _ _ _ (by omega) (by omega) (by omega) (by omega)).mono fun e w' h => ⟨h.1, qui h.2⟩) | (go_at_call 41; exact (size_dr _ _ (by omega) (by omega)).mono fun e w' h => ⟨h.1, qui h.2⟩))
      have B3 := B2.drewN nq; clear c0 c1 d0 d1 r0 r1 k0 k1; obtain ⟨c0, c1, d0, d1⟩ := B3.1.cells; obtain ⟨r0, r1, k0, k1⟩ := Has.two B3.2; generalize w2.drewN nq = w3 at *
      go_wp2
      go_quiet (first | (go_at_call 40; exact (divisor_dr _ _ _ (by omega) (by omega) (by omega) (by omega)).mono fun e w' h => ⟨h.1, qui h.2⟩) | (go_at_call 41; exact (size_dr _ _ (by omega) (by omega)).mono fun e w' h => ⟨h.1, qui h.2⟩))
      have B4 := B3.drewN nq; clear c0 c1 d0 d1 r0 r1 k0 k1; obtain ⟨c0, c1, d0, d1⟩ := B4.1.cells; obtain ⟨r0, r1, k0, k1⟩ := Has.two B4.2; generalize w3.drewN nq = w4 at *
      go_wp2
      go_quiet (first | (go_at_call 40; exact (divisor_dr _ _ _ (by omega) (by omega) (by omega) (by omega)).mono fun e w' h => ⟨h.1, qui h.2⟩) | (go_at_call 41; exact (size_dr _ _ (by omega) (by omega)).mono fun e w' h => ⟨h.1, qui h.2⟩) | (go_at_call 51; exact (product_dr _ _ _ (by omega) (by omega) (by omega) (by omega)).mono fun e w' h => ⟨h.1, qui h.2⟩))
      have B5 := B4.drewN nq; clear c0 c1 d0 d1 r0 r1 k0 k1; obtain ⟨c0, c1, d0, d1⟩ := B5.1.cells; obtain ⟨r0, r1, k0, k1⟩ := Has.two B5.2; generalize w4.drewN nq = w5 at *
      go_wp2
      go_quiet (first | (go_at_call 40; exact (divisor_dr _ _ _ (by omega) (by omega) (by omega) (by omega)).mono fun e w' h => ⟨h.1, qui h.2⟩) | (go_at_call 41; exact (size_dr _ _ (by omega) (by omega)).mono fun e w' h => ⟨h.1, qui h.2⟩) | (go_at_call 51; exact (product_dr _ _ _ (by omega) (by omega) (by omega) (by omega)).mono fun e w' h => ⟨h.1, qui h.2⟩))
      have B6 := B5.drewN nq; clear c0 c1 d0 d1 r0 r1 k0 k1; obtain ⟨c0, c1, d0, d1⟩ := B6.1.cells; obtain ⟨r0, r1, k0, k1⟩ := Has.two B6.2; generalize w5.drewN nq = w6 at *
      go_wp2
      refine bodyPost_ret (v := .tuple #[.agg #[.int .i64 0, .int .i64 0], .int .i64 5]) (by simp [results, Tryd.results23, go_sem, r0, r1]) rfl ⟨rfl, ?_⟩
      repeat (refine Below.setCell ?_ (by first | (simp; done) | (simp; omega)) _)
      exact B6.1.2.2.1
  · have E2 := m7 h1
    have e := m1 h1
    simp only [Prod.mk.injEq] at e; obtain ⟨rfl, rfl, rfl⟩ := e
    clear m1 m2 m3 m4 m5 m6 m7 m8 hF hm2
    go_enter Tryd.func23, Tryd.ntmps23
    go_wp2_with (first | (go_at_call 17; refine (valid_any _ _ _ (by omega) (by omega) (by omega) (by omega)).mono ?_; (first | (rw [hA]; rintro e w1 ⟨rfl, hb⟩; have B1 := (three_start w an ad bn bd).next hb; clear hb; obtain ⟨c0, c1, d0, d1⟩ := B1.1.cells; obtain ⟨r0, r1, k0, k1⟩ := Has.two B1.2) | (rw [hB]; rintro e w2 ⟨rfl, hb⟩; have B2 := B1.next hb; clear hb c0 c1 d0 d1 r0 r1 k0 k1; obtain ⟨c0, c1, d0, d1⟩ := B2.1.cells; obtain ⟨r0, r1, k0, k1⟩ := Has.two B2.2))))
    go_quiet (first | (go_at_call 40; exact (divisor_dr _ _ _ (by omega) (by omega) (by omega) (by omega)).mono fun e w' h => ⟨h.1, qui h.2⟩) | (go_at_call 41; exact (size_dr _ _ (by omega) (by omega)).mono fun e w' h => ⟨h.1, qui h.2⟩))
    have B3 := B2.drewN nq; clear c0 c1 d0 d1 r0 r1 k0 k1; obtain ⟨c0, c1, d0, d1⟩ := B3.1.cells; obtain ⟨r0, r1, k0, k1⟩ := Has.two B3.2; generalize w2.drewN nq = w3 at *
    go_wp2
    go_quiet (first | (go_at_call 40; exact (divisor_dr _ _ _ (by omega) (by omega) (by omega) (by omega)).mono fun e w' h => ⟨h.1, qui h.2⟩) | (go_at_call 41; exact (size_dr _ _ (by omega) (by omega)).mono fun e w' h => ⟨h.1, qui h.2⟩))
    have B4 := B3.drewN nq; clear c0 c1 d0 d1 r0 r1 k0 k1; obtain ⟨c0, c1, d0, d1⟩ := B4.1.cells; obtain ⟨r0, r1, k0, k1⟩ := Has.two B4.2; generalize w3.drewN nq = w4 at *
    go_wp2
    go_quiet (first | (go_at_call 40; exact (divisor_dr _ _ _ (by omega) (by omega) (by omega) (by omega)).mono fun e w' h => ⟨h.1, qui h.2⟩) | (go_at_call 41; exact (size_dr _ _ (by omega) (by omega)).mono fun e w' h => ⟨h.1, qui h.2⟩) | (go_at_call 51; exact (product_dr _ _ _ (by omega) (by omega) (by omega) (by omega)).mono fun e w' h => ⟨h.1, qui h.2⟩))
    have B5 := B4.drewN nq; clear c0 c1 d0 d1 r0 r1 k0 k1; obtain ⟨c0, c1, d0, d1⟩ := B5.1.cells; obtain ⟨r0, r1, k0, k1⟩ := Has.two B5.2; generalize w4.drewN nq = w5 at *
    go_wp2
    refine bodyPost_ret (v := .tuple #[.agg #[.int .i64 0, .int .i64 0], .int .i64 5]) (by simp [results, Tryd.results23, go_sem, r0, r1]) rfl ⟨rfl, ?_⟩
    repeat (refine Below.setCell ?_ (by first | (simp; done) | (simp; omega)) _)
    exact B5.1.2.2.1
end Go.Proofs.YtbbbmlnggehcdaaDoor
