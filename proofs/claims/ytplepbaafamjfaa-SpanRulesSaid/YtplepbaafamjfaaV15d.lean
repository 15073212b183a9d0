/- SpanRules returns true: the walk. -/
import Derived.Test.YtplepbaafamjfaaV15a
import Derived.Test.YtplepbaafamjfaaV15b
import Derived.Test.YtplepbaafamjfaaV15c
namespace Go.Proofs.Ytplepbaafamjfaa
open Go.ChangeShapes Go.WideShapes Go.ChangeAt Go.RowKit
set_option linter.unusedVariables false
set_option linter.unusedSimpArgs false

set_option maxRecDepth 100000 in
theorem rules_out (al ah bl bh : Int) (w : World) (h : ok2 al ah bl bh = false) :
    Calls Try.prog 8 #[.agg #[.int .i64 al, .int .i64 ah], .agg #[.int .i64 bl, .int .i64 bh]] w (Yes w) := by
  unfold ok2 at h
  cases hA : sB al ah
  · go_enter Try.func8, Try.ntmps8
    go_wp2_with (first | (go_at_call 11; refine (awake_any _).mono ?_; rintro e w0 ⟨rfl, hb⟩; have E := (env_two w al ah bl bh 23 23).on hb; have C := E.cells; simp only [BC] at C; clear hb) | (go_at_call 17; refine (rsvalid_any _ _ _).mono ?_; rw [hA]; rintro e w1 ⟨rfl, hb⟩; replace E := E.on hb; replace C := E.cells; simp only [BC] at C; clear hb))
    all_goals go_ret
    all_goals exact ⟨by first | rfl | simp_all, E.1⟩
  · have hB : sB bl bh = false := by rw [hA] at h; simpa using h
    clear h
    go_enter Try.func8, Try.ntmps8
    go_wp2_with (first | (go_at_call 11; refine (awake_any _).mono ?_; rintro e w0 ⟨rfl, hb⟩; have E := (env_two w al ah bl bh 23 23).on hb; have C := E.cells; simp only [BC] at C; clear hb) | (go_at_call 17; refine (rsvalid_any _ _ _).mono ?_; first | (rw [hA]; rintro e w1 ⟨rfl, hb⟩; replace E := E.on hb; replace C := E.cells; simp only [BC] at C; clear hb) | (rw [hB]; rintro e w1 ⟨rfl, hb⟩; replace E := E.on hb; replace C := E.cells; simp only [BC] at C; clear hb)))
    all_goals go_ret
    all_goals exact ⟨by first | rfl | simp_all, E.1⟩
theorem rules_walk (al ah bl bh : Int) (w : World) : Calls Try.prog 8 #[.agg #[.int .i64 al, .int .i64 ah], .agg #[.int .i64 bl, .int .i64 bh]] w (Yes w) := by
  cases h : ok2 al ah bl bh
  · exact rules_out al ah bl bh w h
  · obtain ⟨va, vb⟩ := ok2_t h
    have hm := rules_mul va vb
    obtain ⟨u, v, h5, k1, k2, k3, k4, k5, k6⟩ := rules_hull va vb
    have h3 : mulR al ah bl bh = ((mulR al ah bl bh).1, (mulR al ah bl bh).2.1, (mulR al ah bl bh).2.2) := rfl
    have h4 : mulR bl bh al ah = ((mulR al ah bl bh).1, (mulR al ah bl bh).2.1, (mulR al ah bl bh).2.2) := by rw [← hm]
    rcases rules_meet va vb with ⟨c, h7⟩ | ⟨c1, c2, m, n, h7, j1, j2, j3, j4, h8⟩
    · have c' : ah < bl ∨ (¬ ah < bl ∧ bh < al) := by omega
      rcases rules_add va vb with ⟨h1, h2⟩ | ⟨s, t, h1, h2, ⟨x, y, h6, i0, i1⟩ | h6⟩
      · exact rules_no_none al ah bl bh _ _ _ u v w va vb h3 h4 h5 k1 k2 k3 k4 k5 k6 h1 h2 c' h7
      · exact rules_yes_none al ah bl bh _ _ _ u v w va vb h3 h4 h5 k1 k2 k3 k4 k5 k6 s t h1 h2 x y h6 i0 i1 c' h7
      · exact rules_big_none al ah bl bh _ _ _ u v w va vb h3 h4 h5 k1 k2 k3 k4 k5 k6 s t h1 h2 h6 c' h7
    · rcases rules_add va vb with ⟨h1, h2⟩ | ⟨s, t, h1, h2, ⟨x, y, h6, i0, i1⟩ | h6⟩
      · exact rules_no_some al ah bl bh _ _ _ u v w va vb h3 h4 h5 k1 k2 k3 k4 k5 k6 h1 h2 c1 c2 m n h7 j1 j2 j3 j4 h8
      · exact rules_yes_some al ah bl bh _ _ _ u v w va vb h3 h4 h5 k1 k2 k3 k4 k5 k6 s t h1 h2 x y h6 i0 i1 c1 c2 m n h7 j1 j2 j3 j4 h8
      · exact rules_big_some al ah bl bh _ _ _ u v w va vb h3 h4 h5 k1 k2 k3 k4 k5 k6 s t h1 h2 h6 c1 c2 m n h7 j1 j2 j3 j4 h8
end Go.Proofs.Ytplepbaafamjfaa
