/- SpanRoots returns true: the walk. -/
import Derived.Test.YtplepbaafamjfaaV13
namespace Go.Proofs.Ytplepbaafamjfaa
open Go.ChangeShapes Go.WideShapes Go.ChangeAt Go.RowKit
set_option linter.unusedVariables false
set_option linter.unusedSimpArgs false

/-- What the statement on roots asks, of the ends that are returned. -/
theorem root_facts {al ah : Int} (v : SV al ah) (h : 0 ≤ al) : ∃ x y : Int, rootR al ah = (x, y, 0) ∧ 0 ≤ x ∧ x ≤ y ∧ y ≤ 1073741824 ∧ x * x ≤ al ∧ al < (x + 1) * (x + 1) ∧ ah ≤ y * y ∧ (y = 0 ∨ (¬ y = 0 ∧ (y - 1) * (y - 1) < ah)) := by
  have hb := sB_t.2 v
  obtain ⟨v1, v2, v3⟩ := v
  have k1 := rt_is h
  have k2 := rt_is (show 0 ≤ ah by omega)
  have b1 := root_b k1 (by omega)
  have b2 := root_b k2 v3
  have m := root_mono k1 k2 v1
  refine ⟨rt al, rtU ah, by unfold rootR; rw [hb, if_pos rfl, if_neg (by omega)], k1.1, ?_, ?_, k1.2.1, k1.2.2, ?_, ?_⟩
  · unfold rtU; split <;> omega
  · unfold rtU; split
    · rename_i c
      obtain ⟨r0, r1, r2⟩ := k2
      have := @sq_lt (rt ah) 1073741824 (by omega) (by omega)
      omega
    · exact b2
  · obtain ⟨r0, r1, r2⟩ := k2
    unfold rtU; split <;> omega
  · obtain ⟨r0, r1, r2⟩ := k2
    unfold rtU; split
    · rename_i c
      refine .inr ⟨by omega, ?_⟩
      rw [show rt ah + 1 - 1 = rt ah by omega]; exact c
    · rename_i c
      by_cases z : rt ah = 0
      · exact .inl z
      · refine .inr ⟨z, ?_⟩
        have e : rt ah * rt ah = (rt ah - 1) * (rt ah - 1) + 2 * rt ah - 1 := by grind
        omega

set_option maxHeartbeats 4000000 in
theorem roots_main (al ah x y : Int) (w : World) (va : SV al ah) (h : 0 ≤ al) (hr : rootR al ah = (x, y, 0)) (x0 : 0 ≤ x) (xy : x ≤ y) (y1 : y ≤ 1073741824) (k1 : x * x ≤ al) (k2 : al < (x + 1) * (x + 1)) (k3 : ah ≤ y * y) (k4 : y = 0 ∨ (¬ y = 0 ∧ (y - 1) * (y - 1) < ah)) :
    Calls Try.prog 10 #[.agg #[.int .i64 al, .int .i64 ah]] w (Yes w) := by
  have hA := sB_t.2 va
  have hR := fun W => sroot_p al ah W
  rw [hr] at hR
  unfold Tup at hR
  obtain ⟨a1, a2, a3⟩ := va
  have p1 : 0 ≤ x * x := Int.mul_nonneg x0 x0
  have p2 : (x + 1) * (x + 1) ≤ 1073741825 * 1073741825 := sq_le (by omega) (by omega)
  have p3 : 0 ≤ (x + 1) * (x + 1) := Int.mul_nonneg (by omega) (by omega)
  have p4 : y * y ≤ 1073741824 * 1073741824 := sq_le (by omega) y1
  have p5 : 0 ≤ y * y := Int.mul_nonneg (by omega) (by omega)
  have W1 : IntKind.i64.wrap (x * x) = x * x := IntWalk.i64_in _ (by omega)
  have W2 : IntKind.i64.wrap (x + 1) = x + 1 := IntWalk.i64_in _ (by omega)
  have W3 : IntKind.i64.wrap ((x + 1) * (x + 1)) = (x + 1) * (x + 1) := IntWalk.i64_in _ (by omega)
  have W4 : IntKind.i64.wrap (y * y) = y * y := IntWalk.i64_in _ (by omega)
  rcases k4 with k4 | ⟨k4, k5⟩
  · have z : (y == 0) = true := by simp [k4]
    clear hr p1 p2 p3 p4 p5 k4
    go_enter Try.func10, Try.ntmps10
    go_wp2_with (first | (go_at_call 11; refine (awake_any _).mono ?_; rintro e w0 ⟨rfl, hb⟩; have E := (env_one w al ah 23).on hb; have C := E.cells; simp only [BC] at C; clear hb) | (go_at_call 17; refine (rsvalid_any _ _ _).mono ?_; rw [hA]; rintro e w1 ⟨rfl, hb⟩; replace E := E.on hb; replace C := E.cells; simp only [BC] at C; clear hb) | (go_at_call 28; (with_reducible refine (hR _).mono ?_); rintro e w2 ⟨rfl, hb⟩; replace E := (E.on hb).add x y 23; replace C := E.cells; simp only [BC] at C; clear hb))
    all_goals go_ret
    all_goals exact ⟨by first | rfl | simp_all, E.1⟩
  · have z : (y == 0) = false := by simp [k4]
    have p6 : 0 ≤ (y - 1) * (y - 1) := Int.mul_nonneg (by omega) (by omega)
    have W5 : IntKind.i64.wrap (y - 1) = y - 1 := IntWalk.i64_in _ (by omega)
    have W6 : IntKind.i64.wrap ((y - 1) * (y - 1)) = (y - 1) * (y - 1) := IntWalk.i64_in _ (by omega)
    clear hr p1 p2 p3 p4 p5 p6
    go_enter Try.func10, Try.ntmps10
    go_wp2_with (first | (go_at_call 11; refine (awake_any _).mono ?_; rintro e w0 ⟨rfl, hb⟩; have E := (env_one w al ah 23).on hb; have C := E.cells; simp only [BC] at C; clear hb) | (go_at_call 17; refine (rsvalid_any _ _ _).mono ?_; rw [hA]; rintro e w1 ⟨rfl, hb⟩; replace E := E.on hb; replace C := E.cells; simp only [BC] at C; clear hb) | (go_at_call 28; (with_reducible refine (hR _).mono ?_); rintro e w2 ⟨rfl, hb⟩; replace E := (E.on hb).add x y 23; replace C := E.cells; simp only [BC] at C; clear hb))
    all_goals go_ret
    all_goals exact ⟨by first | rfl | simp_all, E.1⟩
theorem roots_out (al ah : Int) (w : World) (h : sB al ah = false ∨ (sB al ah = true ∧ al < 0)) :
    Calls Try.prog 10 #[.agg #[.int .i64 al, .int .i64 ah]] w (Yes w) := by
  rcases h with hA | ⟨hA, h⟩
  · go_enter Try.func10, Try.ntmps10
    go_wp2_with (first | (go_at_call 11; refine (awake_any _).mono ?_; rintro e w0 ⟨rfl, hb⟩; have E := (env_one w al ah 23).on hb; have C := E.cells; simp only [BC] at C; clear hb) | (go_at_call 17; refine (rsvalid_any _ _ _).mono ?_; rw [hA]; rintro e w1 ⟨rfl, hb⟩; replace E := E.on hb; replace C := E.cells; simp only [BC] at C; clear hb))
    all_goals go_ret
    all_goals exact ⟨by first | rfl | simp_all, E.1⟩
  · go_enter Try.func10, Try.ntmps10
    go_wp2_with (first | (go_at_call 11; refine (awake_any _).mono ?_; rintro e w0 ⟨rfl, hb⟩; have E := (env_one w al ah 23).on hb; have C := E.cells; simp only [BC] at C; clear hb) | (go_at_call 17; refine (rsvalid_any _ _ _).mono ?_; rw [hA]; rintro e w1 ⟨rfl, hb⟩; replace E := E.on hb; replace C := E.cells; simp only [BC] at C; clear hb))
    all_goals go_ret
    all_goals exact ⟨by first | rfl | simp_all, E.1⟩
theorem roots_walk (al ah : Int) (w : World) : Calls Try.prog 10 #[.agg #[.int .i64 al, .int .i64 ah]] w (Yes w) := by
  cases h : sB al ah
  · exact roots_out al ah w (.inl h)
  · by_cases c : al < 0
    · exact roots_out al ah w (.inr ⟨h, c⟩)
    · obtain ⟨x, y, k⟩ := root_facts (sB_t.1 h) (by omega)
      exact roots_main al ah x y w (sB_t.1 h) (by omega) k.1 k.2.1 k.2.2.1 k.2.2.2.1 k.2.2.2.2.1 k.2.2.2.2.2.1 k.2.2.2.2.2.2.1 k.2.2.2.2.2.2.2
end Go.Proofs.Ytplepbaafamjfaa
