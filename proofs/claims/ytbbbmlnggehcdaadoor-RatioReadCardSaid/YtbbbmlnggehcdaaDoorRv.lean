/- The reference's Make and Valid; the law's helper same. -/
import Derived.Test.YtbbbmlnggehcdaaDoorRk
namespace Go.Proofs.YtbbbmlnggehcdaaDoor
open Go.ChangeShapes Go.WideShapes Go.ChangeAt Go.RowKit
set_option linter.unusedVariables false
set_option linter.unusedSimpArgs false

theorem rmake_any (n d : Int) (w : World) (n1 : -9223372036854775808 ≤ n) (n2 : n ≤ 9223372036854775807) (d1 : -9223372036854775808 ≤ d) (d2 : d ≤ 9223372036854775807) {x q e0 : Int} (hr : makeQ n d = (x, q, e0)) :
    Calls Tryd.prog 13 #[.int .i64 n, .int .i64 d] w fun e w' => e = .returned (.tuple #[.agg #[.int .i64 x, .int .i64 q], .int .i64 e0]) ∧ Below w.heap.size w w' := by
  have an := ab_u (n := n) ⟨n1, n2⟩
  have ad := ab_u (n := d) ⟨d1, d2⟩
  obtain ⟨m, hm⟩ : ∃ m, (decide (n < 0) != decide (d < 0)) = m := ⟨_, rfl⟩
  have hm2 : (!(decide (n < 0) == decide (d < 0))) = m := hm
  have hM : ∀ w, Calls Tryd.prog 43 #[.agg #[.int .u64 0, .int .u64 (ab n)], .bool m, .agg #[.int .u64 0, .int .u64 (ab d)]] w fun e w' => e = .returned (.tuple #[.agg #[.int .i64 x, .int .i64 q], .int .i64 e0]) ∧ Below w.heap.size w w' := fun w => by
    by_cases h : d = 0
    · have e : (x, q, e0) = (0, 0, 16) := by rw [← hr]; unfold makeQ; rw [if_pos h]
      simp only [Prod.mk.injEq] at e; obtain ⟨rfl, rfl, rfl⟩ := e
      have z : ab d = 0 := ab_0.2 h
      rw [z]
      exact made_zero (ab n) m w
    · have z : ab d ≠ 0 := fun k => h (ab_0.1 k)
      refine made_small (ab n) (ab d) m w ⟨an.1, by omega⟩ ⟨by omega, by omega⟩ ?_
      rw [← hm, make_fit n d h]; exact hr
  clear hr hm
  have hs := has3 w 23 23 23 #[.int .i64 0, .int .i64 0] #[] #[]
  go_enter Tryd.func13, Tryd.ntmps13
  go_wp2_with (first | (go_at_call 44; refine (refSize_any _ _ (by omega) (by omega)).mono ?_; rintro e w1 ⟨rfl, rfl⟩) | (go_at_call 43; refine (hM _).mono ?_; rintro e w2 ⟨rfl, hb⟩; obtain ⟨r0, r1, k0, k1⟩ := Has.two (Has.on (Has.new_ w 23 #[.int .i64 0, .int .i64 0]) hb)))
  refine bodyPost_ret (v := .tuple #[.agg #[.int .i64 x, .int .i64 q], .int .i64 e0]) (by simp [results, Tryd.results13, go_sem, r0, r1]) rfl ⟨rfl, ?_⟩
  repeat (refine Below.setCell ?_ (by first | (simp; done) | (simp; omega)) _)
  exact belows (al1 _ _) hb

theorem rvalid_any (n d : Int) (w : World) (n1 : -9223372036854775808 ≤ n) (n2 : n ≤ 9223372036854775807) (d1 : -9223372036854775808 ≤ d) (d2 : d ≤ 9223372036854775807) :
    Calls Tryd.prog 18 #[.agg #[.int .i64 n, .int .i64 d]] w fun e w' => e = .returned (.bool (vB n d)) ∧ Below w.heap.size w w' := by
  by_cases h : 1 ≤ d ∧ d ≤ 1152921504606846976 ∧ -1152921504606846976 ≤ n ∧ n ≤ 1152921504606846976
  · have hv : vB n d = (gd (ab n) (ab d) == 1) := by
      rw [gd_ab, Bool.eq_iff_iff, vB_t]; unfold V gd; simp; omega
    obtain ⟨h1, h2, h3, h4⟩ := h
    have an := ab_u (n := n) ⟨n1, n2⟩
    have ad := ab_u (n := d) ⟨d1, d2⟩
    have zd : ab d ≠ 0 := fun k => by have := ab_0.1 k; omega
    have hG := fun w => gcd_small (ab n) (ab d) w ⟨an.1, by omega⟩ ⟨by omega, by omega⟩
    by_cases hg : gd (ab n) (ab d) = 1
    · have e : vB n d = true := by rw [hv, hg]; rfl
      rw [e]
      simp only [hg] at hG
      clear hv e hg zd
      go_enter Tryd.func18, Tryd.ntmps18
      go_wp2
      go_region_held3 (fun w' => w'.cell? ⟨w.heap.size, 0, none⟩ = some (.int .i64 n) ∧ w'.cell? ⟨w.heap.size, 1, none⟩ = some (.int .i64 d) ∧ Env w w' [⟨w.heap.size, n, d⟩]) (first | exact ⟨(env_one w n d).cells.1.1, (env_one w n d).cells.1.2.1, (env_one w n d).on (Dr.below' ⟨1, rfl⟩)⟩ | (have E2 : Env w w1 [⟨w.heap.size, n, d⟩] := Env.on (by go_split_ands; assumption) hb; exact ⟨E2.cells.1.1, E2.cells.1.2.1, E2⟩) | go_keep) (first | (go_at_call 44; refine (refSize_any _ _ (by omega) (by omega)).mono ?_; rintro e w1 ⟨rfl, rfl⟩) | (go_at_call 45; refine (hG _).mono ?_; rintro e w1 ⟨rfl, hb⟩))
      all_goals rename_i hH
      all_goals have hZ := hH.2.2.1
      all_goals clear hH
      all_goals go_wp2
      all_goals go_ret
      all_goals refine ⟨?_, hZ⟩
      all_goals rfl
    · have e : vB n d = false := by rw [hv]; simp [hg]
      rw [e]
      generalize gd (ab n) (ab d) = g at *
      have hg2 : (g == 1) = false := by simp [hg]
      clear hv e zd
      go_enter Tryd.func18, Tryd.ntmps18
      go_wp2
      go_region_held3 (fun w' => w'.cell? ⟨w.heap.size, 0, none⟩ = some (.int .i64 n) ∧ w'.cell? ⟨w.heap.size, 1, none⟩ = some (.int .i64 d) ∧ Env w w' [⟨w.heap.size, n, d⟩]) (first | exact ⟨(env_one w n d).cells.1.1, (env_one w n d).cells.1.2.1, (env_one w n d).on (Dr.below' ⟨1, rfl⟩)⟩ | (have E2 : Env w w1 [⟨w.heap.size, n, d⟩] := Env.on (by go_split_ands; assumption) hb; exact ⟨E2.cells.1.1, E2.cells.1.2.1, E2⟩) | go_keep) (first | (go_at_call 44; refine (refSize_any _ _ (by omega) (by omega)).mono ?_; rintro e w1 ⟨rfl, rfl⟩) | (go_at_call 45; refine (hG _).mono ?_; rintro e w1 ⟨rfl, hb⟩))
      all_goals rename_i hH
      all_goals have hZ := hH.2.2.1
      all_goals clear hH
      all_goals go_wp2
      all_goals go_ret
      all_goals refine ⟨?_, hZ⟩
      all_goals rfl
  · have hv : vB n d = false := vB_f.2 fun k => h ⟨k.1, k.2.1, k.2.2.1, k.2.2.2.1⟩
    rw [hv]; clear hv
    go_enter Tryd.func18, Tryd.ntmps18
    go_wp2
    all_goals (go_ret; exact ⟨rfl, al1 _ _⟩)

theorem same_any (an ad e bn bd f : Int) (w : World) :
    Calls Tryd.prog 16 #[.agg #[.int .i64 an, .int .i64 ad], .int .i64 e, .agg #[.int .i64 bn, .int .i64 bd], .int .i64 f] w fun x w' => x = .returned (.bool ((an == bn && ad == bd) && e == f)) ∧ Below w.heap.size w w' := by
  go_enter Tryd.func16, Tryd.ntmps16
  go_wp2
  all_goals go_ret
  all_goals refine ⟨?_, al2 _ _ _⟩
  all_goals simp_all
end Go.Proofs.YtbbbmlnggehcdaaDoor
