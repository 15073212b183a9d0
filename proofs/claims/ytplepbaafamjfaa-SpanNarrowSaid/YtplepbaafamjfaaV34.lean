/- SpanNarrow returns true: the walks, put together. -/
import Derived.Test.YtplepbaafamjfaaV33
namespace Go.Proofs.Ytplepbaafamjfaa
open Go.ChangeShapes Go.WideShapes Go.ChangeAt Go.RowKit
set_option linter.unusedVariables false
set_option linter.unusedSimpArgs false

theorem narrow_out (al ah bl bh i j k l : Int) (w : World) (h : ok2 al ah bl bh = false) :
    Calls Try.prog 7 #[.agg #[.int .i64 al, .int .i64 ah], .agg #[.int .i64 bl, .int .i64 bh], .int .u64 i, .int .u64 j, .int .u64 k, .int .u64 l] w (Yes w) := by
  unfold ok2 at h
  cases hA : sB al ah
  · go_enter Try.func7, Try.ntmps7
    go_wp2_with (first | (go_at_call 11; refine (awake_any _).mono ?_; rintro e w0 ⟨rfl, hb⟩; have E := (env_two w al ah bl bh 23 23).on hb; have C := E.cells; simp only [BC] at C; clear hb) | (go_at_call 17; refine (rsvalid_any _ _ _).mono ?_; rw [hA]; rintro e w1 ⟨rfl, hb⟩; replace E := E.on hb; replace C := E.cells; simp only [BC] at C; clear hb))
    all_goals go_ret
    all_goals exact ⟨by first | rfl | simp_all, E.1⟩
  · have hB : sB bl bh = false := by rw [hA] at h; simpa using h
    clear h
    go_enter Try.func7, Try.ntmps7
    go_wp2_with (first | (go_at_call 11; refine (awake_any _).mono ?_; rintro e w0 ⟨rfl, hb⟩; have E := (env_two w al ah bl bh 23 23).on hb; have C := E.cells; simp only [BC] at C; clear hb) | (go_at_call 17; refine (rsvalid_any _ _ _).mono ?_; first | (rw [hA]; rintro e w1 ⟨rfl, hb⟩; replace E := E.on hb; replace C := E.cells; simp only [BC] at C; clear hb) | (rw [hB]; rintro e w1 ⟨rfl, hb⟩; replace E := E.on hb; replace C := E.cells; simp only [BC] at C; clear hb)))
    all_goals go_ret
    all_goals exact ⟨by first | rfl | simp_all, E.1⟩

theorem narrow_go (al ah bl bh i j k l p1 p2 p3 p4 cl ch dl dh : Int) (w : World) (va : SV al ah) (vb : SV bl bh) (vc : SV cl ch) (vd : SV dl dh) (c1 : al ≤ cl) (c2 : ch ≤ ah) (d1 : bl ≤ dl) (d2 : dh ≤ bh)
    (g1 : ∀ W, Calls Try.prog 34 #[.agg #[.int .i64 al, .int .i64 ah], .int .u64 i] W fun e w' => e = .returned (.int .i64 p1) ∧ Below W.heap.size W w') (g2 : ∀ W, Calls Try.prog 34 #[.agg #[.int .i64 al, .int .i64 ah], .int .u64 j] W fun e w' => e = .returned (.int .i64 p2) ∧ Below W.heap.size W w') (g3 : ∀ W, Calls Try.prog 39 #[.int .i64 p1, .int .i64 p2] W fun e w' => e = .returned (.agg #[.int .i64 cl, .int .i64 ch]) ∧ Below W.heap.size W w')
    (g4 : ∀ W, Calls Try.prog 34 #[.agg #[.int .i64 bl, .int .i64 bh], .int .u64 k] W fun e w' => e = .returned (.int .i64 p3) ∧ Below W.heap.size W w') (g5 : ∀ W, Calls Try.prog 34 #[.agg #[.int .i64 bl, .int .i64 bh], .int .u64 l] W fun e w' => e = .returned (.int .i64 p4) ∧ Below W.heap.size W w') (g6 : ∀ W, Calls Try.prog 39 #[.int .i64 p3, .int .i64 p4] W fun e w' => e = .returned (.agg #[.int .i64 dl, .int .i64 dh]) ∧ Below W.heap.size W w')
    :
    Calls Try.prog 7 #[.agg #[.int .i64 al, .int .i64 ah], .agg #[.int .i64 bl, .int .i64 bh], .int .u64 i, .int .u64 j, .int .u64 k, .int .u64 l] w (Yes w) := by
  obtain ⟨q1, q2, q3, q4, q5⟩ := nar_all va vb vc vd c1 c2 d1 d2
  exact nar_walk al ah bl bh i j k l p1 p2 p3 p4 cl ch dl dh _ _ _ _ _ _ _ _ _ _ _ _ _ _ _ _ _ _ _ _ _ _ _ _ _ _ _ _ _ _ w (sB_t.2 va) (sB_t.2 vb) g1 g2 g3 g4 g5 g6
    (fun W => hRa cl ch dl dh _ _ _ rfl W) (fun W => hRa al ah bl bh _ _ _ rfl W) (fun W => lit_in _ _ _ _ _ _ W q1)
    (fun W => hRs cl ch dl dh _ _ _ rfl W) (fun W => hRs al ah bl bh _ _ _ rfl W) (fun W => lit_in _ _ _ _ _ _ W q2)
    (fun W => hRp cl ch dl dh _ _ _ rfl W) (fun W => hRp al ah bl bh _ _ _ rfl W) (fun W => lit_in _ _ _ _ _ _ W q3)
    (fun W => hRd cl ch dl dh _ _ _ rfl W) (fun W => hRd al ah bl bh _ _ _ rfl W) (fun W => lit_in _ _ _ _ _ _ W q4)
    (fun W => hRr cl ch _ _ _ rfl W) (fun W => hRr al ah _ _ _ rfl W) (fun W => lit_in _ _ _ _ _ _ W q5)
theorem narrow_walk (al ah bl bh i j k l : Int) (w : World) (hi : U64 i) (hj : U64 j) (hk : U64 k) (hl : U64 l) :
    Calls Try.prog 7 #[.agg #[.int .i64 al, .int .i64 ah], .agg #[.int .i64 bl, .int .i64 bh], .int .u64 i, .int .u64 j, .int .u64 k, .int .u64 l] w (Yes w) := by
  cases h : ok2 al ah bl bh
  · exact narrow_out al ah bl bh i j k l w h
  · obtain ⟨va, vb⟩ := ok2_t h
    have b1 := at_b va i
    have b2 := at_b va j
    have b3 := at_b vb k
    have b4 := at_b vb l
    have g1 := fun W => at_any al ah i W va hi.1 hi.2
    have g2 := fun W => at_any al ah j W va hj.1 hj.2
    have g4 := fun W => at_any bl bh k W vb hk.1 hk.2
    have g5 := fun W => at_any bl bh l W vb hl.1 hl.2
    generalize atN al ah i = p1 at *
    generalize atN al ah j = p2 at *
    generalize atN bl bh k = p3 at *
    generalize atN bl bh l = p4 at *
    have g3 := fun W => of_any p1 p2 W
    have g6 := fun W => of_any p3 p4 W
    have m1 : mn p1 p2 ≤ mx p1 p2 ∧ al ≤ mn p1 p2 ∧ mx p1 p2 ≤ ah := by unfold mn mx; split <;> omega
    have m2 : mn p3 p4 ≤ mx p3 p4 ∧ bl ≤ mn p3 p4 ∧ mx p3 p4 ≤ bh := by unfold mn mx; split <;> omega
    have vc : SV (mn p1 p2) (mx p1 p2) := by obtain ⟨_, _, _⟩ := va; unfold SV; omega
    have vd : SV (mn p3 p4) (mx p3 p4) := by obtain ⟨_, _, _⟩ := vb; unfold SV; omega
    exact narrow_go al ah bl bh i j k l p1 p2 p3 p4 _ _ _ _ w va vb vc vd m1.2.1 m1.2.2 m2.2.1 m2.2.2 g1 g2 g3 g4 g5 g6
end Go.Proofs.Ytplepbaafamjfaa
