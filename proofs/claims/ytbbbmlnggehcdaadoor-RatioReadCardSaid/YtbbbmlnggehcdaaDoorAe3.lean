/- The contract of Add: the denominator is too great. -/
import Derived.Test.YtbbbmlnggehcdaaDoorAe0
namespace Go.Proofs.YtbbbmlnggehcdaaDoor
open Go.ChangeShapes Go.WideShapes Go.ChangeAt Go.RowKit Go.Shelf
set_option linter.unusedVariables false

set_option maxHeartbeats 8000000 in
theorem add_3 (an ad bn bd : Int) (w : World) (va : V an ad) (vb : V bn bd) {x q e0 : Int} (hs : ¬ lG an ad bn bd ≤ wH (xN an ad bn bd)) (h2 : ¬ qI (ab ad) (cG ad bd) * qI (ab bd) (lG an ad bn bd) ≤ 18446744073709551615) (hr : addQ an ad bn bd = (x, q, e0)) :
    Calls Tryd.prog 21 #[.agg #[.int .i64 an, .int .i64 ad], .agg #[.int .i64 bn, .int .i64 bd]] w fun e w' => e = .returned (.tuple #[.agg #[.int .i64 x, .int .i64 q], .int .i64 e0]) ∧ Below w.heap.size w w' := by
  have hA := vB_t.2 va
  have hB := vB_t.2 vb
  obtain ⟨f1, f2, f3, f4, f5, f6, f7, f8, f9, f10, f11, hF, hbig⟩ := add_facts va vb
  rw [hr] at hF hbig
  obtain ⟨⟨x1, x2⟩, ⟨x3, x4⟩⟩ := V_b va
  obtain ⟨⟨y1, y2⟩, ⟨y3, y4⟩⟩ := V_b vb
  have za := ab_u (n := an) ⟨x1, x2⟩
  have zb := ab_u (n := ad) ⟨x3, x4⟩
  have zc := ab_u (n := bn) ⟨y1, y2⟩
  have zd := ab_u (n := bd) ⟨y3, y4⟩
  have T1 : IntKind.u64.wrap ((ab ad).tdiv (cG ad bd)) = qI (ab ad) (cG ad bd) := by rw [Int.tdiv_eq_ediv_of_nonneg zb.1, qI_w zb.1 (by omega) f1]
  have T2 : IntKind.u64.wrap ((ab bd).tdiv (cG ad bd)) = qI (ab bd) (cG ad bd) := by rw [Int.tdiv_eq_ediv_of_nonneg zd.1, qI_w zd.1 (by omega) f1]
  have T3 : IntKind.u64.wrap ((ab bd).tdiv (lG an ad bn bd)) = qI (ab bd) (lG an ad bn bd) := by rw [Int.tdiv_eq_ediv_of_nonneg zd.1, qI_w zd.1 (by omega) f3]
  have U1 := qI_w zb.1 (by omega) f1
  have U2 := qI_w zd.1 (by omega) f1
  have U3 := qI_w zd.1 (by omega) f3
  have W1 : ab ad / cG ad bd = qI (ab ad) (cG ad bd) := rfl
  have W2 : ab bd / cG ad bd = qI (ab bd) (cG ad bd) := rfl
  have W3 : ab bd / lG an ad bn bd = qI (ab bd) (lG an ad bn bd) := rfl
  have q3 := qI_b zd.1 f3
  have q4 := qI_b (ab_nn (xN an ad bn bd)) f3
  have g1 : ¬ cG ad bd = 0 := by omega
  have g2 : ¬ lG an ad bn bd = 0 := by omega
  have g3 : (cG ad bd == 0) = false := by simp; omega
  have g4 : (lG an ad bn bd == 0) = false := by simp; omega
  have rb := rI_b (a := ab (xN an ad bn bd)) f1
  simp only [lG, xN, cG] at hs h2 f1 f2 f3 f4 f5 f6 f7 f8 f9 f10 f11 hF hbig T1 T2 T3 U1 U2 U3 W1 W2 W3 q3 q4 g1 g2 g3 g4 rb
  generalize qI (ab ad) (gd (ab ad) (ab bd)) = rA at *
  generalize qI (ab bd) (gd (ab ad) (ab bd)) = rB at *
  obtain ⟨X, hX⟩ : ∃ X, X = aI (mI an rB) (mI bn rA) := ⟨_, rfl⟩
  simp only [← hX] at hs h2 f3 f4 f11 hF hbig T3 U3 W3 q3 q4 g2 g4 rb
  generalize qI (ab bd) (gd (rI (ab X) (gd (ab ad) (ab bd))) (gd (ab ad) (ab bd))) = t at *
  have n2 : 0 ≤ rA * t := Int.mul_nonneg (by omega) q3.1
  have hXs := hX.symm
  clear hr va vb hX W1 W2 W3
  · have ht : qI (ab X) (gd (rI (ab X) (gd (ab ad) (ab bd))) (gd (ab ad) (ab bd))) ≤ 18446744073709551615 := by
      unfold qI
      refine Int.lt_add_one_iff.1 ((Int.ediv_lt_iff_lt_mul f3).2 ?_)
      have e1 := wHL X
      have e2 := wL_b X
      generalize gd (rI (ab X) (gd (ab ad) (ab bd))) (gd (ab ad) (ab bd)) = l at *
      generalize wH X = hh at *
      omega
    have hOv := fun w => over_small X _ w f11 f3 (by omega) (by omega)
    generalize qI (ab X) (gd (rI (ab X) (gd (ab ad) (ab bd))) (gd (ab ad) (ab bd))) = top at *
    clear hbig
    · have E4 : pB rA t = false := decide_eq_false h2
      have e : (x, q, e0) = (0, 0, 5) := by rw [← hF]; unfold fitQ; rw [if_pos (by omega)]
      simp only [Prod.mk.injEq] at e; obtain ⟨rfl, rfl, rfl⟩ := e
      clear hF hs h2
      go_enter Tryd.func21, Tryd.ntmps21
      go_wp2_with (first | (go_at_call 17; refine (valid_any _ _ _ (by omega) (by omega) (by omega) (by omega)).mono ?_; (first | (rw [hA]; rintro e w1 ⟨rfl, hb⟩; have B1 := (three_start w an ad bn bd).next hb; clear hb; obtain ⟨c0, c1, d0, d1⟩ := B1.1.cells; obtain ⟨r0, r1, k0, k1⟩ := Has.two B1.2) | (rw [hB]; rintro e w2 ⟨rfl, hb⟩; have B2 := B1.next hb; clear hb c0 c1 d0 d1 r0 r1 k0 k1; obtain ⟨c0, c1, d0, d1⟩ := B2.1.cells; obtain ⟨r0, r1, k0, k1⟩ := Has.two B2.2))))
      go_quiet (first | (go_at_call 40; exact (divisor_dr _ _ _ (by omega) (by omega) (by omega) (by omega)).mono fun e w' h => ⟨h.1, qui h.2⟩) | (go_at_call 41; exact (size_dr _ _ (by omega) (by omega)).mono fun e w' h => ⟨h.1, qui h.2⟩))
      have B3 := B2.drewN nq; clear c0 c1 d0 d1 r0 r1 k0 k1; obtain ⟨c0, c1, d0, d1⟩ := B3.1.cells; obtain ⟨r0, r1, k0, k1⟩ := Has.two B3.2; generalize w2.drewN nq = w3 at *
      go_wp2
      go_quiet (first | (go_at_call 40; exact (divisor_dr _ _ _ (by omega) (by omega) (by omega) (by omega)).mono fun e w' h => ⟨h.1, qui h.2⟩) | (go_at_call 41; exact (size_dr _ _ (by omega) (by omega)).mono fun e w' h => ⟨h.1, qui h.2⟩))
      have B4 := B3.drewN nq; clear c0 c1 d0 d1 r0 r1 k0 k1; obtain ⟨c0, c1, d0, d1⟩ := B4.1.cells; obtain ⟨r0, r1, k0, k1⟩ := Has.two B4.2; generalize w3.drewN nq = w4 at *
      go_wp2
      go_region_held3 (fun w' => w'.cell? ⟨w.heap.size, 0, none⟩ = some (.int .i64 an) ∧ w'.cell? ⟨w.heap.size, 1, none⟩ = some (.int .i64 ad) ∧ w'.cell? ⟨w.heap.size + 1, 0, none⟩ = some (.int .i64 bn) ∧ w'.cell? ⟨w.heap.size + 1, 1, none⟩ = some (.int .i64 bd) ∧ Three w w' an ad bn bd) (first | exact Three.kept (B4.drew) | exact Three.kept (Three.next (by go_split_ands; assumption) hb) | exact Three.kept B5 | exact Three.kept (B5.alloc _) | exact Three.kept (B5.store M _ _ _) | exact Three.kept (Three.alloc (by go_split_ands; assumption) _) | go_keep) (first | (go_at_call 41; refine (size_any _ _ (by omega) (by omega)).mono ?_; rintro e w1 ⟨rfl, rfl⟩) | (go_at_call 47; refine (times_dr _ _ _ (by omega) (by omega) (by omega) (by omega)).mono ?_; rintro e w1 ⟨rfl, hb⟩; (first | (have M : Mid w _ _ := Mid.start (an := an) (ad := ad) (bn := bn) (bd := bd) (by go_split_ands; assumption) hb) | (have M : Mid w _ _ := Mid.startd (an := an) (ad := ad) (bn := bn) (bd := bd) (by go_split_ands; assumption) hb) | (have M := M.next hb) | skip)) | (go_at_call 48; refine (plus_any _ _ _ f9 f10).mono ?_; rw [hXs]; rintro e w5 ⟨rfl, hb⟩; have B5 : Three w w5 an ad bn bd := Three.next (by go_split_ands; assumption) hb; (first | (have M : Mid w _ _ := Mid.start (an := an) (ad := ad) (bn := bn) (bd := bd) (by go_split_ands; assumption) hb; obtain ⟨m0, m1, m2, j0, j1, j2⟩ := has_cells M.1) | (have M : Mid w _ _ := Mid.startd (an := an) (ad := ad) (bn := bn) (bd := bd) (by go_split_ands; assumption) hb; obtain ⟨m0, m1, m2, j0, j1, j2⟩ := has_cells M.1) | (have M := M.next hb; obtain ⟨m0, m1, m2, j0, j1, j2⟩ := has_cells M.1) | skip)))
      all_goals (
        (first | (have B6 := Four.store (X := X) B5 M) | (have B6 : Four w (w5.alloc (.cells #[.bool (wS X), .int .u64 (wH X), .int .u64 (wL X)] 66)) w5.heap.size X an ad bn bd := ⟨B5.alloc _, Has.new_ _ _ _⟩))
        clear c0 c1 d0 d1 r0 r1 k0 k1
        obtain ⟨⟨c0, c1, d0, d1⟩, ⟨r0, r1, k0, k1⟩, e0', e1', e2'⟩ := B6.all
        go_wp2_with (first | (go_at_call 49; refine (modulo_any _ _ _ f11 f1 (by omega)).mono ?_; rintro e w7 ⟨rfl, hb⟩; have B7 := B6.next hb; clear hb; obtain ⟨⟨c0, c1, d0, d1⟩, ⟨r0, r1, k0, k1⟩, m0, m1, m2⟩ := B7.all) | (go_at_call 40; refine (divisor_dr _ _ _ rb.1 (by omega) (by omega) (by omega)).mono ?_; rintro e w8 ⟨rfl, hd⟩; have B8 := B7.next (Dr.below' hd); clear hd; obtain ⟨⟨c0, c1, d0, d1⟩, ⟨r0, r1, k0, k1⟩, m0, m1, m2⟩ := B8.all) | (go_at_call 50; refine (hOv _).mono ?_; rintro e w9 ⟨rfl, hb⟩; have B9 := B8.next hb; clear hb; obtain ⟨⟨c0, c1, d0, d1⟩, ⟨r0, r1, k0, k1⟩, m0, m1, m2⟩ := B9.all) | (go_at_call 41; refine (size_any _ _ (by omega) (by omega)).mono ?_; rintro e w1 ⟨rfl, rfl⟩) | (go_at_call 51; refine (product_eq _ _ _ (by omega) (by omega) (by omega) (by omega)).mono ?_; rintro e w1 ⟨rfl, rfl⟩) | (go_at_call 42; refine (hFit _).mono ?_; rintro e w10 ⟨rfl, hb⟩; have B10 := B9.next hb; clear hb; obtain ⟨⟨c0, c1, d0, d1⟩, ⟨r0, r1, k0, k1⟩, m0, m1, m2⟩ := B10.all))
        refine bodyPost_ret (v := .tuple #[.agg #[.int .i64 0, .int .i64 0], .int .i64 5]) (by simp [results, Tryd.results21, go_sem, r0, r1]) rfl ⟨rfl, ?_⟩
        repeat (refine Below.setCell ?_ (by first | (simp; done) | (simp; omega)) _)
        exact B9.1.1.2.2.1)
end Go.Proofs.YtbbbmlnggehcdaaDoor
