/- RatioUndone returns true: the walk. -/
import Derived.Test.YtbbbmlnggehcdaaDoorEnv
namespace Go.Proofs.YtbbbmlnggehcdaaDoor
open Go.ChangeShapes Go.WideShapes Go.ChangeAt Go.RowKit Go.Shelf
set_option linter.unusedVariables false
set_option linter.unusedSimpArgs false

theorem okB_v {an ad bn bd : Int} (va : V an ad) (vb : V bn bd) : okB an ad bn bd = true := by unfold okB; rw [vB_t.2 va, vB_t.2 vb]; rfl
theorem addR_v {an ad bn bd : Int} (va : V an ad) (vb : V bn bd) : addR an ad bn bd = addQ an ad bn bd := by unfold addR; rw [if_pos (okB_v va vb)]
theorem mulR_v {an ad bn bd : Int} (va : V an ad) (vb : V bn bd) : mulR an ad bn bd = mulQ an ad bn bd := by unfold mulR; rw [if_pos (okB_v va vb)]
theorem subR_v {an ad bn bd : Int} (va : V an ad) (vb : V bn bd) : subR an ad bn bd = addQ an ad (-bn) bd := by
  unfold subR
  obtain ⟨-, -, b1, b2, -⟩ := id vb
  rw [ng_v (by omega) (by omega), addR_v va (V_neg vb)]
theorem okB_comm (an ad bn bd : Int) : okB an ad bn bd = okB bn bd an ad := by unfold okB; rw [Bool.and_comm]
theorem addR_comm (an ad bn bd : Int) : addR an ad bn bd = addR bn bd an ad := by unfold addR; rw [okB_comm, add_comm']
theorem mulR_comm (an ad bn bd : Int) : mulR an ad bn bd = mulR bn bd an ad := by unfold mulR; rw [okB_comm, mul_comm']
/-- A sum or product either fits, or it is an error. -/
theorem mk_two (x q : Int) (hq : 0 < q) : (∃ n d, mk x q = (n, d, 0) ∧ V n d) ∨ mk x q = (0, 0, 5) := by
  rcases mk_spec x q hq with ⟨n, d, h, v, k⟩ | ⟨h, k⟩
  · exact .inl ⟨n, d, h, v⟩
  · exact .inr h
theorem add_two {an ad bn bd : Int} (va : V an ad) (vb : V bn bd) : (∃ n d, addQ an ad bn bd = (n, d, 0) ∧ V n d) ∨ addQ an ad bn bd = (0, 0, 5) := mk_two _ _ (VV va vb)
theorem mul_two {an ad bn bd : Int} (va : V an ad) (vb : V bn bd) : (∃ n d, mulQ an ad bn bd = (n, d, 0) ∧ V n d) ∨ mulQ an ad bn bd = (0, 0, 5) := mk_two _ _ (VV va vb)
theorem I4 {an ad bn bd : Int} (va : V an ad) (vb : V bn bd) : All4 an ad bn bd := ⟨(V_b va).1, (V_b va).2, (V_b vb).1, (V_b vb).2⟩

set_option maxHeartbeats 4000000 in
theorem un_bad (an ad bn bd : Int) (w : World) (x1 : -9223372036854775808 ≤ an) (x2 : an ≤ 9223372036854775807) (x3 : -9223372036854775808 ≤ ad) (x4 : ad ≤ 9223372036854775807) (y1 : -9223372036854775808 ≤ bn) (y2 : bn ≤ 9223372036854775807) (y3 : -9223372036854775808 ≤ bd) (y4 : bd ≤ 9223372036854775807) (ht : Tab w) (e1 e2 : Int) (h1 : e1 ≠ 0) (h2 : e2 ≠ 0)
    (R1 : addR an ad bn bd = (0, 0, e1)) (R2 : addR bn bd an ad = (0, 0, e1)) (R3 : mulR an ad bn bd = (0, 0, e2)) (R4 : mulR bn bd an ad = (0, 0, e2)) :
    Calls Tryd.prog 6 #[.agg #[.int .i64 an, .int .i64 ad], .agg #[.int .i64 bn, .int .i64 bd]] w (Yes w) := by
  have g1 : (e1 == 0) = false := by simp [h1]
  have g2 : (e2 == 0) = false := by simp [h2]
  go_enter Tryd.func6, Tryd.ntmps6
  go_wp2_with (first | (go_at_call 11; refine (awake_any _ (ht.on (al2 _ _ _))).mono ?_; rintro e w0 ⟨rfl, hb⟩; have E := (env_two w an ad bn bd).on hb; have C := E.cells; simp only [BC] at C; clear hb) | (go_at_call 21; refine (add_p _ _ _ _ _ (by unfold All4 I64; omega)).mono ?_; (try simp only [R1, R2, R3, R4]); rintro e w1 ⟨rfl, hb⟩; (first | (replace E := (E.add _ _).on hb) | (replace E := E.on hb)); replace C := E.cells; simp only [BC] at C; clear hb) | (go_at_call 22; refine (sub_p _ _ _ _ _ (by unfold All4 I64; omega)).mono ?_; (try simp only [R1, R2, R3, R4]); rintro e w1 ⟨rfl, hb⟩; (first | (replace E := (E.add _ _).on hb) | (replace E := E.on hb)); replace C := E.cells; simp only [BC] at C; clear hb) | (go_at_call 23; refine (mul_p _ _ _ _ _ (by unfold All4 I64; omega)).mono ?_; (try simp only [R1, R2, R3, R4]); rintro e w1 ⟨rfl, hb⟩; (first | (replace E := (E.add _ _).on hb) | (replace E := E.on hb)); replace C := E.cells; simp only [BC] at C; clear hb) | (go_at_call 24; refine (div_p _ _ _ _ _ (by unfold All4 I64; omega)).mono ?_; (try simp only [R1, R2, R3, R4]); rintro e w1 ⟨rfl, hb⟩; (first | (replace E := (E.add _ _).on hb) | (replace E := E.on hb)); replace C := E.cells; simp only [BC] at C; clear hb) | (go_at_call 17; refine (valid_any _ _ _ (by omega) (by omega) (by omega) (by omega)).mono ?_; (try simp only [R1, R2, R3, R4]); rintro e w1 ⟨rfl, hb⟩; (first | (replace E := (E.add _ _).on hb) | (replace E := E.on hb)); replace C := E.cells; simp only [BC] at C; clear hb))
  go_ret
  exact ⟨rfl, by first | exact E.1 | exact belows E.1 (al1 _ _)⟩

set_option maxHeartbeats 4000000 in
theorem un_add (an ad bn bd sn sd : Int) (w : World) (ht : Tab w) (va : V an ad) (vb : V bn bd) (e2 : Int) (h2 : e2 ≠ 0)
    (R1 : addR an ad bn bd = (sn, sd, 0)) (R2 : addR bn bd an ad = (sn, sd, 0)) (R3 : mulR an ad bn bd = (0, 0, e2)) (R4 : mulR bn bd an ad = (0, 0, e2)) :
    Calls Tryd.prog 6 #[.agg #[.int .i64 an, .int .i64 ad], .agg #[.int .i64 bn, .int .i64 bd]] w (Yes w) := by
  have hk : addQ an ad bn bd = (sn, sd, 0) := by rw [← addR_v va vb]; exact R1
  obtain ⟨vs, hs⟩ := add_sub va vb hk
  have R5 : subR sn sd bn bd = (an, ad, 0) := by rw [subR_v vs vb]; exact hs
  have R6 := vB_t.2 vs
  obtain ⟨⟨x1, x2⟩, ⟨x3, x4⟩, ⟨y1, y2⟩, ⟨y3, y4⟩⟩ := I4 va vb
  obtain ⟨⟨z1, z2⟩, ⟨z3, z4⟩⟩ := V_b vs
  have g2 : (e2 == 0) = false := by simp [h2]
  clear va vb hk hs vs
  go_enter Tryd.func6, Tryd.ntmps6
  go_wp2_with (first | (go_at_call 11; refine (awake_any _ (ht.on (al2 _ _ _))).mono ?_; rintro e w0 ⟨rfl, hb⟩; have E := (env_two w an ad bn bd).on hb; have C := E.cells; simp only [BC] at C; clear hb) | (go_at_call 21; refine (add_p _ _ _ _ _ (by unfold All4 I64; omega)).mono ?_; (try simp only [R1, R2, R3, R4, R5, R6]); rintro e w1 ⟨rfl, hb⟩; (first | (replace E := (E.add _ _).on hb) | (replace E := E.on hb)); replace C := E.cells; simp only [BC] at C; clear hb) | (go_at_call 22; refine (sub_p _ _ _ _ _ (by unfold All4 I64; omega)).mono ?_; (try simp only [R1, R2, R3, R4, R5, R6]); rintro e w1 ⟨rfl, hb⟩; (first | (replace E := (E.add _ _).on hb) | (replace E := E.on hb)); replace C := E.cells; simp only [BC] at C; clear hb) | (go_at_call 23; refine (mul_p _ _ _ _ _ (by unfold All4 I64; omega)).mono ?_; (try simp only [R1, R2, R3, R4, R5, R6]); rintro e w1 ⟨rfl, hb⟩; (first | (replace E := (E.add _ _).on hb) | (replace E := E.on hb)); replace C := E.cells; simp only [BC] at C; clear hb) | (go_at_call 24; refine (div_p _ _ _ _ _ (by unfold All4 I64; omega)).mono ?_; (try simp only [R1, R2, R3, R4, R5, R6]); rintro e w1 ⟨rfl, hb⟩; (first | (replace E := (E.add _ _).on hb) | (replace E := E.on hb)); replace C := E.cells; simp only [BC] at C; clear hb) | (go_at_call 17; refine (valid_any _ _ _ (by omega) (by omega) (by omega) (by omega)).mono ?_; (try simp only [R1, R2, R3, R4, R5, R6]); rintro e w1 ⟨rfl, hb⟩; (first | (replace E := (E.add _ _).on hb) | (replace E := E.on hb)); replace C := E.cells; simp only [BC] at C; clear hb))
  go_ret
  exact ⟨rfl, by first | exact E.1 | exact belows E.1 (al1 _ _)⟩

set_option maxHeartbeats 4000000 in
theorem un_mul0 (an ad bd pd e1 : Int) (w : World) (ht : Tab w) (va : V an ad) (vb : V 0 bd) (vp : V 0 pd) (h1 : e1 ≠ 0)
    (R1 : addR an ad 0 bd = (0, 0, e1)) (R2 : addR 0 bd an ad = (0, 0, e1)) (R3 : mulR an ad 0 bd = (0, pd, 0)) (R4 : mulR 0 bd an ad = (0, pd, 0)) :
    Calls Tryd.prog 6 #[.agg #[.int .i64 an, .int .i64 ad], .agg #[.int .i64 0, .int .i64 bd]] w (Yes w) := by
  have R5 : divR 0 pd 0 bd = (0, 0, 16) := by unfold divR; rw [if_pos (okB_v vp vb), if_pos rfl]
  obtain ⟨⟨x1, x2⟩, ⟨x3, x4⟩, ⟨y1, y2⟩, ⟨y3, y4⟩⟩ := I4 va vb
  obtain ⟨⟨z1, z2⟩, ⟨z3, z4⟩⟩ := V_b vp
  have g1 : (e1 == 0) = false := by simp [h1]
  clear va vb vp
  go_enter Tryd.func6, Tryd.ntmps6
  go_wp2_with (first | (go_at_call 11; refine (awake_any _ (ht.on (al2 _ _ _))).mono ?_; rintro e w0 ⟨rfl, hb⟩; have E := (env_two w an ad 0 bd).on hb; have C := E.cells; simp only [BC] at C; clear hb) | (go_at_call 21; refine (add_p _ _ _ _ _ (by unfold All4 I64; omega)).mono ?_; (try simp only [R1, R2, R3, R4, R5]); rintro e w1 ⟨rfl, hb⟩; (first | (replace E := (E.add _ _).on hb) | (replace E := E.on hb)); replace C := E.cells; simp only [BC] at C; clear hb) | (go_at_call 22; refine (sub_p _ _ _ _ _ (by unfold All4 I64; omega)).mono ?_; (try simp only [R1, R2, R3, R4, R5]); rintro e w1 ⟨rfl, hb⟩; (first | (replace E := (E.add _ _).on hb) | (replace E := E.on hb)); replace C := E.cells; simp only [BC] at C; clear hb) | (go_at_call 23; refine (mul_p _ _ _ _ _ (by unfold All4 I64; omega)).mono ?_; (try simp only [R1, R2, R3, R4, R5]); rintro e w1 ⟨rfl, hb⟩; (first | (replace E := (E.add _ _).on hb) | (replace E := E.on hb)); replace C := E.cells; simp only [BC] at C; clear hb) | (go_at_call 24; refine (div_p _ _ _ _ _ (by unfold All4 I64; omega)).mono ?_; (try simp only [R1, R2, R3, R4, R5]); rintro e w1 ⟨rfl, hb⟩; (first | (replace E := (E.add _ _).on hb) | (replace E := E.on hb)); replace C := E.cells; simp only [BC] at C; clear hb) | (go_at_call 17; refine (valid_any _ _ _ (by omega) (by omega) (by omega) (by omega)).mono ?_; (try simp only [R1, R2, R3, R4, R5]); rintro e w1 ⟨rfl, hb⟩; (first | (replace E := (E.add _ _).on hb) | (replace E := E.on hb)); replace C := E.cells; simp only [BC] at C; clear hb))
  go_ret
  exact ⟨rfl, by first | exact E.1 | exact belows E.1 (al1 _ _)⟩

set_option maxHeartbeats 4000000 in
theorem un_mul (an ad bn bd pn pd e1 : Int) (w : World) (ht : Tab w) (va : V an ad) (vb : V bn bd) (hb : bn ≠ 0) (h1 : e1 ≠ 0)
    (R1 : addR an ad bn bd = (0, 0, e1)) (R2 : addR bn bd an ad = (0, 0, e1)) (R3 : mulR an ad bn bd = (pn, pd, 0)) (R4 : mulR bn bd an ad = (pn, pd, 0)) :
    Calls Tryd.prog 6 #[.agg #[.int .i64 an, .int .i64 ad], .agg #[.int .i64 bn, .int .i64 bd]] w (Yes w) := by
  obtain ⟨vp, hd⟩ := mul_div va vb (by rw [← mulR_v va vb]; exact R3) hb
  have R5 : divR pn pd bn bd = (an, ad, 0) := by unfold divR; rw [if_pos (okB_v vp vb), if_neg hb]; exact hd
  obtain ⟨⟨x1, x2⟩, ⟨x3, x4⟩, ⟨y1, y2⟩, ⟨y3, y4⟩⟩ := I4 va vb
  obtain ⟨⟨z1, z2⟩, ⟨z3, z4⟩⟩ := V_b vp
  have g1 : (e1 == 0) = false := by simp [h1]
  have g2 : (bn == 0) = false := by simp [hb]
  clear va vb vp hd
  go_enter Tryd.func6, Tryd.ntmps6
  go_wp2_with (first | (go_at_call 11; refine (awake_any _ (ht.on (al2 _ _ _))).mono ?_; rintro e w0 ⟨rfl, hb⟩; have E := (env_two w an ad bn bd).on hb; have C := E.cells; simp only [BC] at C; clear hb) | (go_at_call 21; refine (add_p _ _ _ _ _ (by unfold All4 I64; omega)).mono ?_; (try simp only [R1, R2, R3, R4, R5]); rintro e w1 ⟨rfl, hb⟩; (first | (replace E := (E.add _ _).on hb) | (replace E := E.on hb)); replace C := E.cells; simp only [BC] at C; clear hb) | (go_at_call 22; refine (sub_p _ _ _ _ _ (by unfold All4 I64; omega)).mono ?_; (try simp only [R1, R2, R3, R4, R5]); rintro e w1 ⟨rfl, hb⟩; (first | (replace E := (E.add _ _).on hb) | (replace E := E.on hb)); replace C := E.cells; simp only [BC] at C; clear hb) | (go_at_call 23; refine (mul_p _ _ _ _ _ (by unfold All4 I64; omega)).mono ?_; (try simp only [R1, R2, R3, R4, R5]); rintro e w1 ⟨rfl, hb⟩; (first | (replace E := (E.add _ _).on hb) | (replace E := E.on hb)); replace C := E.cells; simp only [BC] at C; clear hb) | (go_at_call 24; refine (div_p _ _ _ _ _ (by unfold All4 I64; omega)).mono ?_; (try simp only [R1, R2, R3, R4, R5]); rintro e w1 ⟨rfl, hb⟩; (first | (replace E := (E.add _ _).on hb) | (replace E := E.on hb)); replace C := E.cells; simp only [BC] at C; clear hb) | (go_at_call 17; refine (valid_any _ _ _ (by omega) (by omega) (by omega) (by omega)).mono ?_; (try simp only [R1, R2, R3, R4, R5]); rintro e w1 ⟨rfl, hb⟩; (first | (replace E := (E.add _ _).on hb) | (replace E := E.on hb)); replace C := E.cells; simp only [BC] at C; clear hb))
  go_ret
  exact ⟨rfl, by first | exact E.1 | exact belows E.1 (al1 _ _)⟩

set_option maxHeartbeats 4000000 in
theorem un_both0 (an ad bd sn sd pd : Int) (w : World) (ht : Tab w) (va : V an ad) (vb : V 0 bd) (vp : V 0 pd)
    (R1 : addR an ad 0 bd = (sn, sd, 0)) (R2 : addR 0 bd an ad = (sn, sd, 0)) (R3 : mulR an ad 0 bd = (0, pd, 0)) (R4 : mulR 0 bd an ad = (0, pd, 0)) :
    Calls Tryd.prog 6 #[.agg #[.int .i64 an, .int .i64 ad], .agg #[.int .i64 0, .int .i64 bd]] w (Yes w) := by
  obtain ⟨vs, hs⟩ := add_sub va vb (by rw [← addR_v va vb]; exact R1)
  have R5 : subR sn sd 0 bd = (an, ad, 0) := by rw [subR_v vs vb]; exact hs
  have R6 := vB_t.2 vs
  have R7 : divR 0 pd 0 bd = (0, 0, 16) := by unfold divR; rw [if_pos (okB_v vp vb), if_pos rfl]
  obtain ⟨⟨x1, x2⟩, ⟨x3, x4⟩, ⟨y1, y2⟩, ⟨y3, y4⟩⟩ := I4 va vb
  obtain ⟨⟨z1, z2⟩, ⟨z3, z4⟩, ⟨z5, z6⟩, ⟨z7, z8⟩⟩ := I4 vs vp
  clear va vb vp hs vs
  go_enter Tryd.func6, Tryd.ntmps6
  go_wp2_with (first | (go_at_call 11; refine (awake_any _ (ht.on (al2 _ _ _))).mono ?_; rintro e w0 ⟨rfl, hb⟩; have E := (env_two w an ad 0 bd).on hb; have C := E.cells; simp only [BC] at C; clear hb) | (go_at_call 21; refine (add_p _ _ _ _ _ (by unfold All4 I64; omega)).mono ?_; (try simp only [R1, R2, R3, R4, R5, R6, R7]); rintro e w1 ⟨rfl, hb⟩; (first | (replace E := (E.add _ _).on hb) | (replace E := E.on hb)); replace C := E.cells; simp only [BC] at C; clear hb) | (go_at_call 22; refine (sub_p _ _ _ _ _ (by unfold All4 I64; omega)).mono ?_; (try simp only [R1, R2, R3, R4, R5, R6, R7]); rintro e w1 ⟨rfl, hb⟩; (first | (replace E := (E.add _ _).on hb) | (replace E := E.on hb)); replace C := E.cells; simp only [BC] at C; clear hb) | (go_at_call 23; refine (mul_p _ _ _ _ _ (by unfold All4 I64; omega)).mono ?_; (try simp only [R1, R2, R3, R4, R5, R6, R7]); rintro e w1 ⟨rfl, hb⟩; (first | (replace E := (E.add _ _).on hb) | (replace E := E.on hb)); replace C := E.cells; simp only [BC] at C; clear hb) | (go_at_call 24; refine (div_p _ _ _ _ _ (by unfold All4 I64; omega)).mono ?_; (try simp only [R1, R2, R3, R4, R5, R6, R7]); rintro e w1 ⟨rfl, hb⟩; (first | (replace E := (E.add _ _).on hb) | (replace E := E.on hb)); replace C := E.cells; simp only [BC] at C; clear hb) | (go_at_call 17; refine (valid_any _ _ _ (by omega) (by omega) (by omega) (by omega)).mono ?_; (try simp only [R1, R2, R3, R4, R5, R6, R7]); rintro e w1 ⟨rfl, hb⟩; (first | (replace E := (E.add _ _).on hb) | (replace E := E.on hb)); replace C := E.cells; simp only [BC] at C; clear hb))
  go_ret
  exact ⟨rfl, by first | exact E.1 | exact belows E.1 (al1 _ _)⟩

set_option maxHeartbeats 4000000 in
theorem un_both (an ad bn bd sn sd pn pd : Int) (w : World) (ht : Tab w) (va : V an ad) (vb : V bn bd) (hb : bn ≠ 0)
    (R1 : addR an ad bn bd = (sn, sd, 0)) (R2 : addR bn bd an ad = (sn, sd, 0)) (R3 : mulR an ad bn bd = (pn, pd, 0)) (R4 : mulR bn bd an ad = (pn, pd, 0)) :
    Calls Tryd.prog 6 #[.agg #[.int .i64 an, .int .i64 ad], .agg #[.int .i64 bn, .int .i64 bd]] w (Yes w) := by
  obtain ⟨vs, hs⟩ := add_sub va vb (by rw [← addR_v va vb]; exact R1)
  obtain ⟨vp, hd⟩ := mul_div va vb (by rw [← mulR_v va vb]; exact R3) hb
  have R5 : subR sn sd bn bd = (an, ad, 0) := by rw [subR_v vs vb]; exact hs
  have R6 := vB_t.2 vs
  have R7 : divR pn pd bn bd = (an, ad, 0) := by unfold divR; rw [if_pos (okB_v vp vb), if_neg hb]; exact hd
  obtain ⟨⟨x1, x2⟩, ⟨x3, x4⟩, ⟨y1, y2⟩, ⟨y3, y4⟩⟩ := I4 va vb
  obtain ⟨⟨z1, z2⟩, ⟨z3, z4⟩, ⟨z5, z6⟩, ⟨z7, z8⟩⟩ := I4 vs vp
  have g2 : (bn == 0) = false := by simp [hb]
  clear va vb vp hs vs hd
  go_enter Tryd.func6, Tryd.ntmps6
  go_wp2_with (first | (go_at_call 11; refine (awake_any _ (ht.on (al2 _ _ _))).mono ?_; rintro e w0 ⟨rfl, hb⟩; have E := (env_two w an ad bn bd).on hb; have C := E.cells; simp only [BC] at C; clear hb) | (go_at_call 21; refine (add_p _ _ _ _ _ (by unfold All4 I64; omega)).mono ?_; (try simp only [R1, R2, R3, R4, R5, R6, R7]); rintro e w1 ⟨rfl, hb⟩; (first | (replace E := (E.add _ _).on hb) | (replace E := E.on hb)); replace C := E.cells; simp only [BC] at C; clear hb) | (go_at_call 22; refine (sub_p _ _ _ _ _ (by unfold All4 I64; omega)).mono ?_; (try simp only [R1, R2, R3, R4, R5, R6, R7]); rintro e w1 ⟨rfl, hb⟩; (first | (replace E := (E.add _ _).on hb) | (replace E := E.on hb)); replace C := E.cells; simp only [BC] at C; clear hb) | (go_at_call 23; refine (mul_p _ _ _ _ _ (by unfold All4 I64; omega)).mono ?_; (try simp only [R1, R2, R3, R4, R5, R6, R7]); rintro e w1 ⟨rfl, hb⟩; (first | (replace E := (E.add _ _).on hb) | (replace E := E.on hb)); replace C := E.cells; simp only [BC] at C; clear hb) | (go_at_call 24; refine (div_p _ _ _ _ _ (by unfold All4 I64; omega)).mono ?_; (try simp only [R1, R2, R3, R4, R5, R6, R7]); rintro e w1 ⟨rfl, hb⟩; (first | (replace E := (E.add _ _).on hb) | (replace E := E.on hb)); replace C := E.cells; simp only [BC] at C; clear hb) | (go_at_call 17; refine (valid_any _ _ _ (by omega) (by omega) (by omega) (by omega)).mono ?_; (try simp only [R1, R2, R3, R4, R5, R6, R7]); rintro e w1 ⟨rfl, hb⟩; (first | (replace E := (E.add _ _).on hb) | (replace E := E.on hb)); replace C := E.cells; simp only [BC] at C; clear hb))
  go_ret
  exact ⟨rfl, by first | exact E.1 | exact belows E.1 (al1 _ _)⟩

theorem un_walk (an ad bn bd : Int) (w : World) (h1 : I64 an) (h2 : I64 ad) (h3 : I64 bn) (h4 : I64 bd) (ht : Tab w) :
    Calls Tryd.prog 6 #[.agg #[.int .i64 an, .int .i64 ad], .agg #[.int .i64 bn, .int .i64 bd]] w (Yes w) := by
  have c1 := addR_comm bn bd an ad
  have c2 := mulR_comm bn bd an ad
  by_cases k : okB an ad bn bd = true
  · obtain ⟨va, vb⟩ := okB_t k
    have a1 := addR_v va vb
    have m1 := mulR_v va vb
    rcases add_two va vb with ⟨sn, sd, ha, vs⟩ | ha
    · rw [ha] at a1
      rcases mul_two va vb with ⟨pn, pd, hm, vp⟩ | hm
      · rw [hm] at m1
        by_cases hb : bn = 0
        · subst hb
          have z := mul_zero' va vb
          rw [hm] at z; simp only [Prod.mk.injEq] at z; obtain ⟨rfl, rfl, -⟩ := z
          exact un_both0 _ _ _ _ _ _ w ht va vb vp a1 (c1.trans a1) m1 (c2.trans m1)
        · exact un_both _ _ _ _ _ _ _ _ w ht va vb hb a1 (c1.trans a1) m1 (c2.trans m1)
      · rw [hm] at m1
        exact un_add _ _ _ _ _ _ w ht va vb 5 (by omega) a1 (c1.trans a1) m1 (c2.trans m1)
    · rw [ha] at a1
      rcases mul_two va vb with ⟨pn, pd, hm, vp⟩ | hm
      · rw [hm] at m1
        by_cases hb : bn = 0
        · subst hb
          have z := mul_zero' va vb
          rw [hm] at z; simp only [Prod.mk.injEq] at z; obtain ⟨rfl, rfl, -⟩ := z
          exact un_mul0 _ _ _ _ 5 w ht va vb vp (by omega) a1 (c1.trans a1) m1 (c2.trans m1)
        · exact un_mul _ _ _ _ _ _ 5 w ht va vb hb (by omega) a1 (c1.trans a1) m1 (c2.trans m1)
      · rw [hm] at m1
        exact un_bad _ _ _ _ w h1.1 h1.2 h2.1 h2.2 h3.1 h3.2 h4.1 h4.2 ht 5 5 (by omega) (by omega) a1 (c1.trans a1) m1 (c2.trans m1)
  · have a1 : addR an ad bn bd = (0, 0, 1) := by unfold addR; rw [if_neg k]
    have m1 : mulR an ad bn bd = (0, 0, 1) := by unfold mulR; rw [if_neg k]
    exact un_bad _ _ _ _ w h1.1 h1.2 h2.1 h2.2 h3.1 h3.2 h4.1 h4.2 ht 1 1 (by omega) (by omega) a1 (c1.trans a1) m1 (c2.trans m1)
end Go.Proofs.YtbbbmlnggehcdaaDoor
