/- The reference's Make and Valid; the law's helper same. -/
import Derived.Test.YtplepbaafamjfaaRk
namespace Go.Proofs.Ytplepbaafamjfaa
open Go.ChangeShapes Go.WideShapes Go.ChangeAt Go.RowKit
set_option linter.unusedVariables false
set_option linter.unusedSimpArgs false

theorem rvalid_any (n d : Int) (w : World) (n1 : -9223372036854775808 ≤ n) (n2 : n ≤ 9223372036854775807) (d1 : -9223372036854775808 ≤ d) (d2 : d ≤ 9223372036854775807) :
    Calls Try.prog 32 #[.agg #[.int .i64 n, .int .i64 d]] w fun e w' => e = .returned (.bool (vB n d)) ∧ Below w.heap.size w w' := by
  by_cases h : 1 ≤ d ∧ d ≤ 1152921504606846976 ∧ -1152921504606846976 ≤ n ∧ n ≤ 1152921504606846976
  · have hv : vB n d = (gd (ab n) (ab d) == 1) := by
      rw [gd_ab, Bool.eq_iff_iff, vB_t]; unfold V gd; simp; omega
    obtain ⟨h1, h2, h3, h4⟩ := h
    have an := ab_u (n := n) ⟨n1, n2⟩
    have ad := ab_u (n := d) ⟨d1, d2⟩
    have zd : ab d ≠ 0 := fun k => by have := ab_0.1 k; omega
    have hG := fun w => gcd_small (ab n) (ab d) w ⟨an.1, by omega⟩ ⟨by omega, by omega⟩
    by_cases hg : gd (ab n) (ab d) = 1
    · have e : vB n d = true := by rw [hv, hg]; rfl
      rw [e]
      simp only [hg] at hG
      clear hv e hg zd
      go_enter Try.func32, Try.ntmps32
      go_wp2
      go_region_held3 (fun w' => w'.cell? ⟨w.heap.size, 0, none⟩ = some (.int .i64 n) ∧ w'.cell? ⟨w.heap.size, 1, none⟩ = some (.int .i64 d) ∧ Env w w' [⟨w.heap.size, 35, n, d⟩]) (first | exact ⟨(env_one w n d 35).cells.1.1, (env_one w n d 35).cells.1.2.1, (env_one w n d 35).on (Dr.below' ⟨1, rfl⟩)⟩ | (have E2 : Env w w1 [⟨w.heap.size, 35, n, d⟩] := Env.on (by go_split_ands; assumption) hb; exact ⟨E2.cells.1.1, E2.cells.1.2.1, E2⟩) | go_keep) (first | (go_at_call 58; refine (refSize_any _ _ (by omega) (by omega)).mono ?_; rintro e w1 ⟨rfl, rfl⟩) | (go_at_call 57; refine (hG _).mono ?_; rintro e w1 ⟨rfl, hb⟩))
      all_goals rename_i hH
      all_goals have hZ := hH.2.2.1
      all_goals clear hH
      all_goals go_wp2
      all_goals go_ret
      all_goals refine ⟨?_, hZ⟩
      all_goals rfl
    · have e : vB n d = false := by rw [hv]; simp [hg]
      rw [e]
      generalize gd (ab n) (ab d) = g at *
      have hg2 : (g == 1) = false := by simp [hg]
      clear hv e zd
      go_enter Try.func32, Try.ntmps32
      go_wp2
      go_region_held3 (fun w' => w'.cell? ⟨w.heap.size, 0, none⟩ = some (.int .i64 n) ∧ w'.cell? ⟨w.heap.size, 1, none⟩ = some (.int .i64 d) ∧ Env w w' [⟨w.heap.size, 35, n, d⟩]) (first | exact ⟨(env_one w n d 35).cells.1.1, (env_one w n d 35).cells.1.2.1, (env_one w n d 35).on (Dr.below' ⟨1, rfl⟩)⟩ | (have E2 : Env w w1 [⟨w.heap.size, 35, n, d⟩] := Env.on (by go_split_ands; assumption) hb; exact ⟨E2.cells.1.1, E2.cells.1.2.1, E2⟩) | go_keep) (first | (go_at_call 58; refine (refSize_any _ _ (by omega) (by omega)).mono ?_; rintro e w1 ⟨rfl, rfl⟩) | (go_at_call 57; refine (hG _).mono ?_; rintro e w1 ⟨rfl, hb⟩))
      all_goals rename_i hH
      all_goals have hZ := hH.2.2.1
      all_goals clear hH
      all_goals go_wp2
      all_goals go_ret
      all_goals refine ⟨?_, hZ⟩
      all_goals rfl
  · have hv : vB n d = false := vB_f.2 fun k => h ⟨k.1, k.2.1, k.2.2.1, k.2.2.2.1⟩
    rw [hv]; clear hv
    go_enter Try.func32, Try.ntmps32
    go_wp2
    all_goals (go_ret; exact ⟨rfl, al1 _ _⟩)

end Go.Proofs.Ytplepbaafamjfaa
