/- RatioLaws: walks: la_x0_x, la_x0_ox_o, la_x0_ox_x. -/
import Derived.Test.YtbbbmlnggehcdaaDoorEnv
namespace Go.Proofs.YtbbbmlnggehcdaaDoor
open Go.ChangeShapes Go.WideShapes Go.ChangeAt Go.RowKit Go.Shelf
set_option linter.unusedVariables false
set_option linter.unusedSimpArgs false

set_option maxRecDepth 100000 in
set_option maxHeartbeats 8000000 in
theorem la_x0_x (an ad bn bd cn cd : Int) (w : World) (x1 : -9223372036854775808 ≤ an) (x2 : an ≤ 9223372036854775807) (x3 : -9223372036854775808 ≤ ad) (x4 : ad ≤ 9223372036854775807) (y1 : -9223372036854775808 ≤ bn) (y2 : bn ≤ 9223372036854775807) (y3 : -9223372036854775808 ≤ bd) (y4 : bd ≤ 9223372036854775807) (z1 : -9223372036854775808 ≤ cn) (z2 : cn ≤ 9223372036854775807) (z3 : -9223372036854775808 ≤ cd) (z4 : cd ≤ 9223372036854775807) (ht : Tab w) (n1 d1 n2 d2 pn pd qn qd rn rd sn sd se e1 f1 e2 f2 g2 : Int) (in1 : -9223372036854775808 ≤ n1 ∧ n1 ≤ 9223372036854775807) (id1 : -9223372036854775808 ≤ d1 ∧ d1 ≤ 9223372036854775807) (in2 : -9223372036854775808 ≤ n2 ∧ n2 ≤ 9223372036854775807) (id2 : -9223372036854775808 ≤ d2 ∧ d2 ≤ 9223372036854775807) (ipn : -9223372036854775808 ≤ pn ∧ pn ≤ 9223372036854775807) (ipd : -9223372036854775808 ≤ pd ∧ pd ≤ 9223372036854775807) (iqn : -9223372036854775808 ≤ qn ∧ qn ≤ 9223372036854775807) (iqd : -9223372036854775808 ≤ qd ∧ qd ≤ 9223372036854775807) (irn : -9223372036854775808 ≤ rn ∧ rn ≤ 9223372036854775807) (ird : -9223372036854775808 ≤ rd ∧ rd ≤ 9223372036854775807) (RAB : addR an ad bn bd = (n1, d1, e1)) (RBC : addR bn bd cn cd = (n2, d2, 0)) (RP : mulR an ad bn bd = (pn, pd, e2)) (RQ : mulR bn bd cn cd = (qn, qd, f2)) (RR : mulR an ad cn cd = (rn, rd, g2)) (RS : addR pn pd rn rd = (sn, sd, se)) (he1 : (e1 == 0) = false) (he2 : (e2 == 0) = false) :
    Calls Tryd.prog 7 #[.agg #[.int .i64 an, .int .i64 ad], .agg #[.int .i64 bn, .int .i64 bd], .agg #[.int .i64 cn, .int .i64 cd]] w (Yes w) := by
  have ke1 : ¬ e1 = 0 := by simpa using he1
  have ke2 : ¬ e2 = 0 := by simpa using he2
  go_enter Tryd.func7, Tryd.ntmps7
  go_wp2_with (first | (go_at_call 11; refine (awake_any _ (ht.on (al (al2 _ _ _) _))).mono ?_; rintro e w0 ⟨rfl, hb⟩; have E := (env_three w an ad bn bd cn cd).on hb; have C := E.cells; simp only [BC] at C; clear hb) | (go_at_call 21; refine (add_p _ _ _ _ _ (by unfold All4 I64; omega)).mono ?_; (try simp only [RAB, RBC, RP, RQ, RR, RS]); rintro e w1 ⟨rfl, hb⟩; (first | (replace E := (E.add _ _).on hb) | (replace E := E.on hb)); replace C := E.cells; simp only [BC] at C; clear hb) | (go_at_call 23; refine (mul_p _ _ _ _ _ (by unfold All4 I64; omega)).mono ?_; (try simp only [RAB, RBC, RP, RQ, RR, RS]); rintro e w1 ⟨rfl, hb⟩; (first | (replace E := (E.add _ _).on hb) | (replace E := E.on hb)); replace C := E.cells; simp only [BC] at C; clear hb))
  all_goals go_ret
  all_goals exact ⟨rfl, by first | exact E.1 | exact belows E.1 (al1 _ _)⟩

set_option maxRecDepth 100000 in
set_option maxHeartbeats 8000000 in
theorem la_x0_ox_o (an ad bn bd cn cd : Int) (w : World) (x1 : -9223372036854775808 ≤ an) (x2 : an ≤ 9223372036854775807) (x3 : -9223372036854775808 ≤ ad) (x4 : ad ≤ 9223372036854775807) (y1 : -9223372036854775808 ≤ bn) (y2 : bn ≤ 9223372036854775807) (y3 : -9223372036854775808 ≤ bd) (y4 : bd ≤ 9223372036854775807) (z1 : -9223372036854775808 ≤ cn) (z2 : cn ≤ 9223372036854775807) (z3 : -9223372036854775808 ≤ cd) (z4 : cd ≤ 9223372036854775807) (ht : Tab w) (n1 d1 n2 d2 pn pd qn qd rn rd sn sd se e1 f1 e2 f2 g2 : Int) (in1 : -9223372036854775808 ≤ n1 ∧ n1 ≤ 9223372036854775807) (id1 : -9223372036854775808 ≤ d1 ∧ d1 ≤ 9223372036854775807) (in2 : -9223372036854775808 ≤ n2 ∧ n2 ≤ 9223372036854775807) (id2 : -9223372036854775808 ≤ d2 ∧ d2 ≤ 9223372036854775807) (ipn : -9223372036854775808 ≤ pn ∧ pn ≤ 9223372036854775807) (ipd : -9223372036854775808 ≤ pd ∧ pd ≤ 9223372036854775807) (iqn : -9223372036854775808 ≤ qn ∧ qn ≤ 9223372036854775807) (iqd : -9223372036854775808 ≤ qd ∧ qd ≤ 9223372036854775807) (irn : -9223372036854775808 ≤ rn ∧ rn ≤ 9223372036854775807) (ird : -9223372036854775808 ≤ rd ∧ rd ≤ 9223372036854775807) (RAB : addR an ad bn bd = (n1, d1, e1)) (RBC : addR bn bd cn cd = (n2, d2, 0)) (RP : mulR an ad bn bd = (pn, pd, 0)) (RQ : mulR bn bd cn cd = (qn, qd, f2)) (RR : mulR an ad cn cd = (rn, rd, 0)) (RS : addR pn pd rn rd = (sn, sd, se)) (he1 : (e1 == 0) = false) (hf2 : (f2 == 0) = false) (R9 : mulR an ad n2 d2 = (sn, sd, se)) :
    Calls Tryd.prog 7 #[.agg #[.int .i64 an, .int .i64 ad], .agg #[.int .i64 bn, .int .i64 bd], .agg #[.int .i64 cn, .int .i64 cd]] w (Yes w) := by
  have ke1 : ¬ e1 = 0 := by simpa using he1
  have kf2 : ¬ f2 = 0 := by simpa using hf2
  go_enter Tryd.func7, Tryd.ntmps7
  go_wp2_with (first | (go_at_call 11; refine (awake_any _ (ht.on (al (al2 _ _ _) _))).mono ?_; rintro e w0 ⟨rfl, hb⟩; have E := (env_three w an ad bn bd cn cd).on hb; have C := E.cells; simp only [BC] at C; clear hb) | (go_at_call 21; refine (add_p _ _ _ _ _ (by unfold All4 I64; omega)).mono ?_; (try simp only [RAB, RBC, RP, RQ, RR, RS, R9]); rintro e w1 ⟨rfl, hb⟩; (first | (replace E := (E.add _ _).on hb) | (replace E := E.on hb)); replace C := E.cells; simp only [BC] at C; clear hb) | (go_at_call 23; refine (mul_p _ _ _ _ _ (by unfold All4 I64; omega)).mono ?_; (try simp only [RAB, RBC, RP, RQ, RR, RS, R9]); rintro e w1 ⟨rfl, hb⟩; (first | (replace E := (E.add _ _).on hb) | (replace E := E.on hb)); replace C := E.cells; simp only [BC] at C; clear hb))
  all_goals go_ret
  all_goals exact ⟨rfl, by first | exact E.1 | exact belows E.1 (al1 _ _)⟩

set_option maxRecDepth 100000 in
set_option maxHeartbeats 8000000 in
theorem la_x0_ox_x (an ad bn bd cn cd : Int) (w : World) (x1 : -9223372036854775808 ≤ an) (x2 : an ≤ 9223372036854775807) (x3 : -9223372036854775808 ≤ ad) (x4 : ad ≤ 9223372036854775807) (y1 : -9223372036854775808 ≤ bn) (y2 : bn ≤ 9223372036854775807) (y3 : -9223372036854775808 ≤ bd) (y4 : bd ≤ 9223372036854775807) (z1 : -9223372036854775808 ≤ cn) (z2 : cn ≤ 9223372036854775807) (z3 : -9223372036854775808 ≤ cd) (z4 : cd ≤ 9223372036854775807) (ht : Tab w) (n1 d1 n2 d2 pn pd qn qd rn rd sn sd se e1 f1 e2 f2 g2 : Int) (in1 : -9223372036854775808 ≤ n1 ∧ n1 ≤ 9223372036854775807) (id1 : -9223372036854775808 ≤ d1 ∧ d1 ≤ 9223372036854775807) (in2 : -9223372036854775808 ≤ n2 ∧ n2 ≤ 9223372036854775807) (id2 : -9223372036854775808 ≤ d2 ∧ d2 ≤ 9223372036854775807) (ipn : -9223372036854775808 ≤ pn ∧ pn ≤ 9223372036854775807) (ipd : -9223372036854775808 ≤ pd ∧ pd ≤ 9223372036854775807) (iqn : -9223372036854775808 ≤ qn ∧ qn ≤ 9223372036854775807) (iqd : -9223372036854775808 ≤ qd ∧ qd ≤ 9223372036854775807) (irn : -9223372036854775808 ≤ rn ∧ rn ≤ 9223372036854775807) (ird : -9223372036854775808 ≤ rd ∧ rd ≤ 9223372036854775807) (RAB : addR an ad bn bd = (n1, d1, e1)) (RBC : addR bn bd cn cd = (n2, d2, 0)) (RP : mulR an ad bn bd = (pn, pd, 0)) (RQ : mulR bn bd cn cd = (qn, qd, f2)) (RR : mulR an ad cn cd = (rn, rd, g2)) (RS : addR pn pd rn rd = (sn, sd, se)) (he1 : (e1 == 0) = false) (hf2 : (f2 == 0) = false) (hg2 : (g2 == 0) = false) :
    Calls Tryd.prog 7 #[.agg #[.int .i64 an, .int .i64 ad], .agg #[.int .i64 bn, .int .i64 bd], .agg #[.int .i64 cn, .int .i64 cd]] w (Yes w) := by
  have ke1 : ¬ e1 = 0 := by simpa using he1
  have kf2 : ¬ f2 = 0 := by simpa using hf2
  have kg2 : ¬ g2 = 0 := by simpa using hg2
  go_enter Tryd.func7, Tryd.ntmps7
  go_wp2_with (first | (go_at_call 11; refine (awake_any _ (ht.on (al (al2 _ _ _) _))).mono ?_; rintro e w0 ⟨rfl, hb⟩; have E := (env_three w an ad bn bd cn cd).on hb; have C := E.cells; simp only [BC] at C; clear hb) | (go_at_call 21; refine (add_p _ _ _ _ _ (by unfold All4 I64; omega)).mono ?_; (try simp only [RAB, RBC, RP, RQ, RR, RS]); rintro e w1 ⟨rfl, hb⟩; (first | (replace E := (E.add _ _).on hb) | (replace E := E.on hb)); replace C := E.cells; simp only [BC] at C; clear hb) | (go_at_call 23; refine (mul_p _ _ _ _ _ (by unfold All4 I64; omega)).mono ?_; (try simp only [RAB, RBC, RP, RQ, RR, RS]); rintro e w1 ⟨rfl, hb⟩; (first | (replace E := (E.add _ _).on hb) | (replace E := E.on hb)); replace C := E.cells; simp only [BC] at C; clear hb))
  all_goals go_ret
  all_goals exact ⟨rfl, by first | exact E.1 | exact belows E.1 (al1 _ _)⟩

end Go.Proofs.YtbbbmlnggehcdaaDoor
