/- SpanProducts returns true: the walk. -/
import Derived.Test.YtplepbaafamjfaaV31
import Derived.Test.YtplepbaafamjfaaV28
namespace Go.Proofs.Ytplepbaafamjfaa
open Go.ChangeShapes Go.WideShapes Go.ChangeAt Go.RowKit
set_option linter.unusedVariables false
set_option linter.unusedSimpArgs false

theorem mul_parts (al ah bl bh : Int) : (if (partR al bl 1 false).2 && (partR ah bl 1 false).2 && (partR al bh 1 false).2 && (partR ah bh 1 false).2 then fitS (mn4 (partR al bl 1 false).1 (partR ah bl 1 false).1 (partR al bh 1 false).1 (partR ah bh 1 false).1) (mx4 (partR al bl 1 false).1 (partR ah bl 1 false).1 (partR al bh 1 false).1 (partR ah bh 1 false).1) else (0, 0, 5)) = mulS al ah bl bh := by
  have s : ∀ x y, sHi x y 1 = sLo x y 1 := fun x y => (p_clip x y).2.trans (p_clip x y).1.symm
  unfold mulS
  rw [s, s, s, s]
  have h0 := part_lo al bl 1
  have h1 := part_lo ah bl 1
  have h2 := part_lo al bh 1
  have h3 := part_lo ah bh 1
  generalize partR al bl 1 false = u0 at *
  generalize partR ah bl 1 false = u1 at *
  generalize partR al bh 1 false = u2 at *
  generalize partR ah bh 1 false = u3 at *
  generalize sLo al bl 1 = c0 at *
  generalize sLo ah bl 1 = c1 at *
  generalize sLo al bh 1 = c2 at *
  generalize sLo ah bh 1 = c3 at *
  have L := mn4_le c0 c2 c1 c3
  have G := mx4_ge c0 c2 c1 c3
  have bad : (c0 < -1152921504606846976 ∨ 1152921504606846976 < c0) ∨ (c1 < -1152921504606846976 ∨ 1152921504606846976 < c1) ∨ (c2 < -1152921504606846976 ∨ 1152921504606846976 < c2) ∨ (c3 < -1152921504606846976 ∨ 1152921504606846976 < c3) → fitS (mn4 c0 c2 c1 c3) (mx4 c0 c2 c1 c3) = (0, 0, 5) := by
    intro h
    have n : ¬ SV (mn4 c0 c2 c1 c3) (mx4 c0 c2 c1 c3) := by
      intro ⟨v1, v2, v3⟩
      omega
    unfold fitS; rw [sB_f.2 n]; rfl
  rcases h0 with ⟨rfl, -⟩ | ⟨rfl, o⟩
  rotate_left
  · simp; exact (bad (.inl o)).symm
  rcases h1 with ⟨rfl, -⟩ | ⟨rfl, o⟩
  rotate_left
  · simp; exact (bad (.inr (.inl o))).symm
  rcases h2 with ⟨rfl, -⟩ | ⟨rfl, o⟩
  rotate_left
  · simp; exact (bad (.inr (.inr (.inl o)))).symm
  rcases h3 with ⟨rfl, -⟩ | ⟨rfl, o⟩
  rotate_left
  · simp; exact (bad (.inr (.inr (.inr o)))).symm
  have L' := mn4_le c0 c1 c2 c3
  have G' := mx4_ge c0 c1 c2 c3
  have e1 : mn4 c0 c1 c2 c3 = mn4 c0 c2 c1 c3 := by omega
  have e2 : mx4 c0 c1 c2 c3 = mx4 c0 c2 c1 c3 := by omega
  simp [e1, e2]
theorem rmul_p (al ah bl bh : Int) (w : World) (va : SV al ah) (vb : SV bl bh) : Calls Try.prog 25 #[.agg #[.int .i64 al, .int .i64 ah], .agg #[.int .i64 bl, .int .i64 bh]] w (Tup w (mulR al ah bl bh)) := by
  have e : mulR al ah bl bh = mulS al ah bl bh := by unfold mulR; rw [ok2_of va vb, if_pos rfl]
  rw [e, ← mul_parts]
  obtain ⟨a1, a2, a3⟩ := va
  obtain ⟨b1, b2, b3⟩ := vb
  have F := fun x y (h1 : -1152921504606846976 ≤ x) (h2 : x ≤ 1152921504606846976) (h3 : -1152921504606846976 ≤ y) (h4 : y ≤ 1152921504606846976) W => part_any x y 1 false W h1 h2 h3 h4 (by omega) (by omega) (by omega)
  exact tup_of (rmul_walk al ah bl bh _ _ _ _ _ _ _ _ w (F al bl (by omega) (by omega) (by omega) (by omega)) (F ah bl (by omega) (by omega) (by omega) (by omega)) (F al bh (by omega) (by omega) (by omega) (by omega)) (F ah bh (by omega) (by omega) (by omega) (by omega)) (pr3 _)) rfl
theorem hTup2 {K : Nat} {args : Array Value} {r : Int × Int × Int} {x y z : Int} (h : ∀ W, Calls Try.prog K args W (Tup W r)) (e : r = (x, y, z)) (W : World) : Calls Try.prog K args W fun e w' => e = .returned (.tuple #[.agg #[.int .i64 x, .int .i64 y], .int .i64 z]) ∧ Below W.heap.size W w' := by
  subst e; exact h W
theorem hWr2 (x y e : Int) (b : Bool) (h : wrongB x y e = b) (w : World) : Calls Try.prog 18 #[.agg #[.int .i64 x, .int .i64 y], .int .i64 e] w fun r w' => r = .returned (.bool b) ∧ Below w.heap.size w w' := by
  subst h; exact wrong_any x y e w

set_option maxRecDepth 100000 in
set_option maxHeartbeats 8000000 in
theorem prod_ok (al ah bl bh m1 m2 m3 d1 d2 d3 : Int) (w : World) (hA : sB al ah = true) (hB : sB bl bh = true) (hm : mulR al ah bl bh = (m1, m2, m3)) (hd : divR al ah bl bh = (d1, d2, d3)) :
    Calls Try.prog 4 #[.agg #[.int .i64 al, .int .i64 ah], .agg #[.int .i64 bl, .int .i64 bh]] w (Yes w) := by
  have f1 := fun W => hTup2 (fun W => smul_p al ah bl bh W) hm W
  have f2 := fun W => hTup2 (fun W => sdiv_p al ah bl bh W) hd W
  have g1 := fun W => hTup2 (fun W => rmul_p al ah bl bh W (sB_t.1 hA) (sB_t.1 hB)) hm W
  have g2 := fun W => hTup2 (fun W => rdiv_p al ah bl bh W (sB_t.1 hA) (sB_t.1 hB)) hd W
  clear hm hd
  go_enter Try.func4, Try.ntmps4
  go_wp2_with (first | (go_at_call 11; refine (awake_any _).mono ?_; rintro e w0 ⟨rfl, hb⟩; have E := (env_two w al ah bl bh 23 23).on hb; have C := E.cells; simp only [BC] at C; clear hb) | (go_at_call 17; refine (rsvalid_any _ _ _).mono ?_; first | (rw [hA]; rintro e w1 ⟨rfl, hb⟩; replace E := E.on hb; replace C := E.cells; simp only [BC] at C; clear hb) | (rw [hB]; rintro e w1 ⟨rfl, hb⟩; replace E := E.on hb; replace C := E.cells; simp only [BC] at C; clear hb)) | (go_at_call 23; ((with_reducible refine (f1 _).mono ?_); rintro e wa ⟨rfl, hb⟩; replace E := (E.on hb).add m1 m2 23; replace C := E.cells; simp only [BC] at C; clear hb)) | (go_at_call 24; ((with_reducible refine (f2 _).mono ?_); rintro e wb ⟨rfl, hb⟩; replace E := (E.on hb).add d1 d2 23; replace C := E.cells; simp only [BC] at C; clear hb)) | (go_at_call 25; ((with_reducible refine (g1 _).mono ?_); rintro e wd ⟨rfl, hb⟩; replace E := (E.on hb).add m1 m2 23; replace C := E.cells; simp only [BC] at C; clear hb)) | (go_at_call 26; ((with_reducible refine (g2 _).mono ?_); rintro e we ⟨rfl, hb⟩; replace E := (E.on hb).add d1 d2 23; replace C := E.cells; simp only [BC] at C; clear hb)))
  all_goals go_ret
  all_goals exact ⟨by first | rfl | simp_all, E.1⟩

set_option maxRecDepth 100000 in
set_option maxHeartbeats 8000000 in
theorem prod_bad_a (al ah bl bh : Int) (bb : Bool) (w : World) (hA : sB al ah = false) (hB : sB bl bh = bb) (hm : mulR al ah bl bh = (0, 0, 1)) (hd : divR al ah bl bh = (0, 0, 1)) :
    Calls Try.prog 4 #[.agg #[.int .i64 al, .int .i64 ah], .agg #[.int .i64 bl, .int .i64 bh]] w (Yes w) := by
  have f1 := fun W => hTup2 (fun W => smul_p al ah bl bh W) hm W
  have f2 := fun W => hTup2 (fun W => sdiv_p al ah bl bh W) hd W
  have f5 := fun W => hWr2 0 0 1 true rfl W
  clear hm hd
  go_enter Try.func4, Try.ntmps4
  go_wp2_with (first | (go_at_call 11; refine (awake_any _).mono ?_; rintro e w0 ⟨rfl, hb⟩; have E := (env_two w al ah bl bh 23 23).on hb; have C := E.cells; simp only [BC] at C; clear hb) | (go_at_call 17; refine (rsvalid_any _ _ _).mono ?_; first | (rw [hA]; rintro e w1 ⟨rfl, hb⟩; replace E := E.on hb; replace C := E.cells; simp only [BC] at C; clear hb) | (rw [hB]; rintro e w1 ⟨rfl, hb⟩; replace E := E.on hb; replace C := E.cells; simp only [BC] at C; clear hb)) | (go_at_call 23; ((with_reducible refine (f1 _).mono ?_); rintro e wa ⟨rfl, hb⟩; replace E := (E.on hb).add 0 0 23; replace C := E.cells; simp only [BC] at C; clear hb)) | (go_at_call 24; ((with_reducible refine (f2 _).mono ?_); rintro e wb ⟨rfl, hb⟩; replace E := (E.on hb).add 0 0 23; replace C := E.cells; simp only [BC] at C; clear hb)) | (go_at_call 18; ((with_reducible refine (f5 _).mono ?_); rintro e w9 ⟨rfl, hb⟩; replace E := E.on hb; replace C := E.cells; simp only [BC] at C; clear hb)))
  all_goals go_ret
  all_goals exact ⟨by first | rfl | simp_all, E.1⟩

set_option maxRecDepth 100000 in
set_option maxHeartbeats 8000000 in
theorem prod_bad_b (al ah bl bh : Int) (w : World) (hA : sB al ah = true) (hB : sB bl bh = false) (hm : mulR al ah bl bh = (0, 0, 1)) (hd : divR al ah bl bh = (0, 0, 1)) :
    Calls Try.prog 4 #[.agg #[.int .i64 al, .int .i64 ah], .agg #[.int .i64 bl, .int .i64 bh]] w (Yes w) := by
  have f1 := fun W => hTup2 (fun W => smul_p al ah bl bh W) hm W
  have f2 := fun W => hTup2 (fun W => sdiv_p al ah bl bh W) hd W
  have f5 := fun W => hWr2 0 0 1 true rfl W
  clear hm hd
  go_enter Try.func4, Try.ntmps4
  go_wp2_with (first | (go_at_call 11; refine (awake_any _).mono ?_; rintro e w0 ⟨rfl, hb⟩; have E := (env_two w al ah bl bh 23 23).on hb; have C := E.cells; simp only [BC] at C; clear hb) | (go_at_call 17; refine (rsvalid_any _ _ _).mono ?_; first | (rw [hA]; rintro e w1 ⟨rfl, hb⟩; replace E := E.on hb; replace C := E.cells; simp only [BC] at C; clear hb) | (rw [hB]; rintro e w1 ⟨rfl, hb⟩; replace E := E.on hb; replace C := E.cells; simp only [BC] at C; clear hb)) | (go_at_call 23; ((with_reducible refine (f1 _).mono ?_); rintro e wa ⟨rfl, hb⟩; replace E := (E.on hb).add 0 0 23; replace C := E.cells; simp only [BC] at C; clear hb)) | (go_at_call 24; ((with_reducible refine (f2 _).mono ?_); rintro e wb ⟨rfl, hb⟩; replace E := (E.on hb).add 0 0 23; replace C := E.cells; simp only [BC] at C; clear hb)) | (go_at_call 18; ((with_reducible refine (f5 _).mono ?_); rintro e w9 ⟨rfl, hb⟩; replace E := E.on hb; replace C := E.cells; simp only [BC] at C; clear hb)))
  all_goals go_ret
  all_goals exact ⟨by first | rfl | simp_all, E.1⟩

theorem prod_walk (al ah bl bh : Int) (w : World) :
    Calls Try.prog 4 #[.agg #[.int .i64 al, .int .i64 ah], .agg #[.int .i64 bl, .int .i64 bh]] w (Yes w) := by
  cases hA : sB al ah
  · have o : ok2 al ah bl bh = false := by unfold ok2; rw [hA]; rfl
    exact prod_bad_a al ah bl bh _ w hA rfl (by unfold mulR; rw [o]; rfl) (by unfold divR; rw [o]; rfl)
  · cases hB : sB bl bh
    · have o : ok2 al ah bl bh = false := by unfold ok2; rw [hA, hB]; rfl
      exact prod_bad_b al ah bl bh w hA hB (by unfold mulR; rw [o]; rfl) (by unfold divR; rw [o]; rfl)
    · exact prod_ok al ah bl bh _ _ _ _ _ _ w hA hB (pr3 _) (pr3 _)

end Go.Proofs.Ytplepbaafamjfaa
