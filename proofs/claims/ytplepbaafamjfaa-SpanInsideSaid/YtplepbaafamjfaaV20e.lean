/- SpanInside returns true: the walk. -/
import Derived.Test.YtplepbaafamjfaaV20a
import Derived.Test.YtplepbaafamjfaaV20b
import Derived.Test.YtplepbaafamjfaaV20c
import Derived.Test.YtplepbaafamjfaaV20d
namespace Go.Proofs.Ytplepbaafamjfaa
open Go.ChangeShapes Go.WideShapes Go.ChangeAt Go.RowKit
set_option linter.unusedVariables false
set_option linter.unusedSimpArgs false

set_option maxRecDepth 100000 in
theorem inside_out (al ah bl bh i k : Int) (w : World) (h : ok2 al ah bl bh = false) :
    Calls Try.prog 6 #[.agg #[.int .i64 al, .int .i64 ah], .agg #[.int .i64 bl, .int .i64 bh], .int .u64 i, .int .u64 k] w (Yes w) := by
  unfold ok2 at h
  cases hA : sB al ah
  · go_enter Try.func6, Try.ntmps6
    go_wp2_with (first | (go_at_call 11; refine (awake_any _).mono ?_; rintro e w0 ⟨rfl, hb⟩; have E := (env_two w al ah bl bh 23 23).on hb; have C := E.cells; simp only [BC] at C; clear hb) | (go_at_call 17; refine (rsvalid_any _ _ _).mono ?_; rw [hA]; rintro e w1 ⟨rfl, hb⟩; replace E := E.on hb; replace C := E.cells; simp only [BC] at C; clear hb))
    all_goals go_ret
    all_goals exact ⟨by first | rfl | simp_all, E.1⟩
  · have hB : sB bl bh = false := by rw [hA] at h; simpa using h
    clear h
    go_enter Try.func6, Try.ntmps6
    go_wp2_with (first | (go_at_call 11; refine (awake_any _).mono ?_; rintro e w0 ⟨rfl, hb⟩; have E := (env_two w al ah bl bh 23 23).on hb; have C := E.cells; simp only [BC] at C; clear hb) | (go_at_call 17; refine (rsvalid_any _ _ _).mono ?_; first | (rw [hA]; rintro e w1 ⟨rfl, hb⟩; replace E := E.on hb; replace C := E.cells; simp only [BC] at C; clear hb) | (rw [hB]; rintro e w1 ⟨rfl, hb⟩; replace E := E.on hb; replace C := E.cells; simp only [BC] at C; clear hb)))
    all_goals go_ret
    all_goals exact ⟨by first | rfl | simp_all, E.1⟩
theorem inside_walk (al ah bl bh i k : Int) (w : World) (hi : U64 i) (hk : U64 k) :
    Calls Try.prog 6 #[.agg #[.int .i64 al, .int .i64 ah], .agg #[.int .i64 bl, .int .i64 bh], .int .u64 i, .int .u64 k] w (Yes w) := by
  cases h : ok2 al ah bl bh
  · exact inside_out al ah bl bh i k w h
  · obtain ⟨va, vb⟩ := ok2_t h
    obtain ⟨x1, x2⟩ := at_b va i
    obtain ⟨y1, y2⟩ := at_b vb k
    have A := in_add va vb x1 x2 y1 y2
    have S := in_sub va vb x1 x2 y1 y2
    have M := in_mul va vb x1 x2 y1 y2
    have D := in_div va vb x1 x2 y1 y2
    rcases A with ⟨s1, t1, h1, k1⟩ | h1
    · rcases S with ⟨s2, t2, h2, k2⟩ | h2
      · rcases M with ⟨s3, t3, h3, k3, k3'⟩ | h3
        · rcases D with ⟨s4, t4, h4, k4, z, k5, k6⟩ | ⟨h4, k4⟩
          · exact inside_1111 al ah bl bh i k _ _ w va vb hi hk rfl rfl x1 x2 y1 y2 _ _ h1 k1 _ _ h2 k2 _ _ _ h3 k3 k3' _ _ _ _ h4 k4 z rfl rfl k5 k6
          · exact inside_1110 al ah bl bh i k _ _ w va vb hi hk rfl rfl x1 x2 y1 y2 _ _ h1 k1 _ _ h2 k2 _ _ _ h3 k3 k3' h4 k4
        · rcases D with ⟨s4, t4, h4, k4, z, k5, k6⟩ | ⟨h4, k4⟩
          · exact inside_1101 al ah bl bh i k _ _ w va vb hi hk rfl rfl x1 x2 y1 y2 _ _ h1 k1 _ _ h2 k2 h3 _ _ _ _ h4 k4 z rfl rfl k5 k6
          · exact inside_1100 al ah bl bh i k _ _ w va vb hi hk rfl rfl x1 x2 y1 y2 _ _ h1 k1 _ _ h2 k2 h3 h4 k4
      · rcases M with ⟨s3, t3, h3, k3, k3'⟩ | h3
        · rcases D with ⟨s4, t4, h4, k4, z, k5, k6⟩ | ⟨h4, k4⟩
          · exact inside_1011 al ah bl bh i k _ _ w va vb hi hk rfl rfl x1 x2 y1 y2 _ _ h1 k1 h2 _ _ _ h3 k3 k3' _ _ _ _ h4 k4 z rfl rfl k5 k6
          · exact inside_1010 al ah bl bh i k _ _ w va vb hi hk rfl rfl x1 x2 y1 y2 _ _ h1 k1 h2 _ _ _ h3 k3 k3' h4 k4
        · rcases D with ⟨s4, t4, h4, k4, z, k5, k6⟩ | ⟨h4, k4⟩
          · exact inside_1001 al ah bl bh i k _ _ w va vb hi hk rfl rfl x1 x2 y1 y2 _ _ h1 k1 h2 h3 _ _ _ _ h4 k4 z rfl rfl k5 k6
          · exact inside_1000 al ah bl bh i k _ _ w va vb hi hk rfl rfl x1 x2 y1 y2 _ _ h1 k1 h2 h3 h4 k4
    · rcases S with ⟨s2, t2, h2, k2⟩ | h2
      · rcases M with ⟨s3, t3, h3, k3, k3'⟩ | h3
        · rcases D with ⟨s4, t4, h4, k4, z, k5, k6⟩ | ⟨h4, k4⟩
          · exact inside_0111 al ah bl bh i k _ _ w va vb hi hk rfl rfl x1 x2 y1 y2 h1 _ _ h2 k2 _ _ _ h3 k3 k3' _ _ _ _ h4 k4 z rfl rfl k5 k6
          · exact inside_0110 al ah bl bh i k _ _ w va vb hi hk rfl rfl x1 x2 y1 y2 h1 _ _ h2 k2 _ _ _ h3 k3 k3' h4 k4
        · rcases D with ⟨s4, t4, h4, k4, z, k5, k6⟩ | ⟨h4, k4⟩
          · exact inside_0101 al ah bl bh i k _ _ w va vb hi hk rfl rfl x1 x2 y1 y2 h1 _ _ h2 k2 h3 _ _ _ _ h4 k4 z rfl rfl k5 k6
          · exact inside_0100 al ah bl bh i k _ _ w va vb hi hk rfl rfl x1 x2 y1 y2 h1 _ _ h2 k2 h3 h4 k4
      · rcases M with ⟨s3, t3, h3, k3, k3'⟩ | h3
        · rcases D with ⟨s4, t4, h4, k4, z, k5, k6⟩ | ⟨h4, k4⟩
          · exact inside_0011 al ah bl bh i k _ _ w va vb hi hk rfl rfl x1 x2 y1 y2 h1 h2 _ _ _ h3 k3 k3' _ _ _ _ h4 k4 z rfl rfl k5 k6
          · exact inside_0010 al ah bl bh i k _ _ w va vb hi hk rfl rfl x1 x2 y1 y2 h1 h2 _ _ _ h3 k3 k3' h4 k4
        · rcases D with ⟨s4, t4, h4, k4, z, k5, k6⟩ | ⟨h4, k4⟩
          · exact inside_0001 al ah bl bh i k _ _ w va vb hi hk rfl rfl x1 x2 y1 y2 h1 h2 h3 _ _ _ _ h4 k4 z rfl rfl k5 k6
          · exact inside_0000 al ah bl bh i k _ _ w va vb hi hk rfl rfl x1 x2 y1 y2 h1 h2 h3 h4 k4
end Go.Proofs.Ytplepbaafamjfaa
