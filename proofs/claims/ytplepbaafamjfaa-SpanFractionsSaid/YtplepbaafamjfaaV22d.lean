/- SpanFractions returns true: the walk. -/
import Derived.Test.YtplepbaafamjfaaV22a
import Derived.Test.YtplepbaafamjfaaV22b
import Derived.Test.YtplepbaafamjfaaV22c
namespace Go.Proofs.Ytplepbaafamjfaa
open Go.ChangeShapes Go.WideShapes Go.ChangeAt Go.RowKit
set_option linter.unusedVariables false
set_option linter.unusedSimpArgs false

set_option maxRecDepth 100000 in
theorem fractions_out (n d u : Int) (w : World) (n1 : -9223372036854775808 ≤ n) (n2 : n ≤ 9223372036854775807) (d1 : -9223372036854775808 ≤ d) (d2 : d ≤ 9223372036854775807) (h : vB n d = false ∨ (vB n d = true ∧ u < 1) ∨ (vB n d = true ∧ ¬ u < 1 ∧ 1099511627776 < u)) :
    Calls Try.prog 9 #[.agg #[.int .i64 n, .int .i64 d], .int .i64 u] w (Yes w) := by
  rcases h with hV | ⟨hV, c⟩ | ⟨hV, c, c'⟩
  · go_enter Try.func9, Try.ntmps9
    go_wp2_with (first | (go_at_call 11; refine (awake_any _).mono ?_; rintro e w0 ⟨rfl, hb⟩; have E := (env_one w n d 35).on hb; have C := E.cells; simp only [BC] at C; clear hb) | (go_at_call 32; refine (rvalid_any _ _ _ n1 n2 d1 d2).mono ?_; rw [hV]; rintro e w1 ⟨rfl, hb⟩; replace E := E.on hb; replace C := E.cells; simp only [BC] at C; clear hb))
    all_goals go_ret
    all_goals exact ⟨by first | rfl | simp_all, E.1⟩
  · go_enter Try.func9, Try.ntmps9
    go_wp2_with (first | (go_at_call 11; refine (awake_any _).mono ?_; rintro e w0 ⟨rfl, hb⟩; have E := (env_one w n d 35).on hb; have C := E.cells; simp only [BC] at C; clear hb) | (go_at_call 32; refine (rvalid_any _ _ _ n1 n2 d1 d2).mono ?_; rw [hV]; rintro e w1 ⟨rfl, hb⟩; replace E := E.on hb; replace C := E.cells; simp only [BC] at C; clear hb))
    all_goals go_ret
    all_goals exact ⟨by first | rfl | simp_all, E.1⟩
  · go_enter Try.func9, Try.ntmps9
    go_wp2_with (first | (go_at_call 11; refine (awake_any _).mono ?_; rintro e w0 ⟨rfl, hb⟩; have E := (env_one w n d 35).on hb; have C := E.cells; simp only [BC] at C; clear hb) | (go_at_call 32; refine (rvalid_any _ _ _ n1 n2 d1 d2).mono ?_; rw [hV]; rintro e w1 ⟨rfl, hb⟩; replace E := E.on hb; replace C := E.cells; simp only [BC] at C; clear hb))
    all_goals go_ret
    all_goals exact ⟨by first | rfl | simp_all, E.1⟩
theorem fractions_walk (n d u : Int) (w : World) (hn : I64 n) (hd : I64 d) : Calls Try.prog 9 #[.agg #[.int .i64 n, .int .i64 d], .int .i64 u] w (Yes w) := by
  cases hV : vB n d
  · exact fractions_out n d u w hn.1 hn.2 hd.1 hd.2 (.inl hV)
  · by_cases u1 : u < 1
    · exact fractions_out n d u w hn.1 hn.2 hd.1 hd.2 (.inr (.inl ⟨hV, u1⟩))
    · by_cases u2 : 1099511627776 < u
      · exact fractions_out n d u w hn.1 hn.2 hd.1 hd.2 (.inr (.inr ⟨hV, u1, u2⟩))
      · have v := vB_t.1 hV
        replace u1 : 1 ≤ u := by omega
        replace u2 : u ≤ 1099511627776 := by omega
        obtain ⟨a, b, h1, -, hmt, wide⟩ := frac_wide v u1 u2
        rcases frac_err v u1 u2 with ⟨pn, pd, hm⟩ | hm
        · obtain ⟨vp, ho, le, le1, iff⟩ := frac_yes v u1 u2 hm
          by_cases p1 : pd = 1
          · have q1 : (pd == 1) = true := by simp [p1]
            have q2 : (fl pn pd == ce pn pd) = true := by simp only [beq_iff_eq]; exact iff.1 p1
            rcases wide with ⟨x, y, hw, hin⟩ | hw
            · exact fractions_Aoy n d u w v u1 u2 pn pd _ _ vp hm ho rfl rfl le le1 q1 q2 a b x y h1 hw (hmt ▸ hw) (hin _ _ ho)
            · exact fractions_Aby n d u w v u1 u2 pn pd _ _ vp hm ho rfl rfl le le1 q1 q2 a b 0 0 h1 hw (hmt ▸ hw)
          · have q1 : (pd == 1) = false := by simp [p1]
            have q2 : (fl pn pd == ce pn pd) = false := by simp only [beq_eq_false_iff_ne, ne_eq]; exact fun h => p1 (iff.2 h)
            rcases wide with ⟨x, y, hw, hin⟩ | hw
            · exact fractions_Aon n d u w v u1 u2 pn pd _ _ vp hm ho rfl rfl le le1 q1 q2 a b x y h1 hw (hmt ▸ hw) (hin _ _ ho)
            · exact fractions_Abn n d u w v u1 u2 pn pd _ _ vp hm ho rfl rfl le le1 q1 q2 a b 0 0 h1 hw (hmt ▸ hw)
        · rcases of_dich v u1 u2 with ⟨s, t, ho⟩ | ho
          · rcases wide with ⟨x, y, hw, hin⟩ | hw
            · exact fractions_Co n d u w v u1 u2 s t hm ho a b x y h1 hw (hmt ▸ hw) (hin _ _ ho)
            · exact fractions_Cb n d u w v u1 u2 s t hm ho a b 0 0 h1 hw (hmt ▸ hw)
          · exact fractions_B n d u w v u1 u2 hm ho
end Go.Proofs.Ytplepbaafamjfaa
