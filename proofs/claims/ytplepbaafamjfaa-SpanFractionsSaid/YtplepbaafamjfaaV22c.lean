/- SpanFractions: walks. -/
import Derived.Test.YtplepbaafamjfaaV22
namespace Go.Proofs.Ytplepbaafamjfaa
open Go.ChangeShapes Go.WideShapes Go.ChangeAt Go.RowKit
set_option linter.unusedVariables false
set_option linter.unusedSimpArgs false

set_option maxRecDepth 100000 in
set_option maxHeartbeats 8000000 in
theorem fractions_B (n d u : Int) (w : World) (v : V n d) (u1 : 1 ≤ u) (u2 : u ≤ 1099511627776) (hm : mulQ n d u 1 = (0, 0, 5)) (ho : ofR n d u = (0, 0, 5)) :
    Calls Try.prog 9 #[.agg #[.int .i64 n, .int .i64 d], .int .i64 u] w (Yes w) := by
  have hV := vB_t.2 v
  have fm := fun W => mul_ok n d u 1 W v (V_unit u1 u2) hm
  have fo := fun W => hRo _ _ _ _ _ _ ho W v
  obtain ⟨d1, d2, n1, n2, -⟩ := v
  replace d1 : -9223372036854775808 ≤ d := by omega
  replace d2 : d ≤ 9223372036854775807 := by omega
  replace n1 : -9223372036854775808 ≤ n := by omega
  replace n2 : n ≤ 9223372036854775807 := by omega
  clear hm ho
  go_enter Try.func9, Try.ntmps9
  go_wp2_with (first | (go_at_call 11; refine (awake_any _).mono ?_; rintro e w0 ⟨rfl, hb⟩; have E := (env_one w n d 35).on hb; have C := E.cells; simp only [BC] at C; clear hb) | (go_at_call 32; refine (rvalid_any _ _ _ n1 n2 d1 d2).mono ?_; rw [hV]; rintro e w1 ⟨rfl, hb⟩; replace E := E.on hb; replace C := E.cells; simp only [BC] at C; clear hb) | (go_at_call 29; first | ((with_reducible refine (fo _).mono ?_); rintro e wa ⟨rfl, hb⟩; replace E := (E.on hb).add 0 0 23; replace C := E.cells; simp only [BC] at C; clear hb)) | (go_at_call 42; ((with_reducible refine (fm _).mono ?_); rintro e wp ⟨rfl, hb⟩; replace E := (E.on hb).add 0 0 35; replace C := E.cells; simp only [BC] at C; clear hb)))
  all_goals go_ret
  all_goals exact ⟨by first | rfl | simp_all, E.1⟩

set_option maxRecDepth 100000 in
set_option maxHeartbeats 8000000 in
theorem fractions_Co (n d u : Int) (w : World) (v : V n d) (u1 : 1 ≤ u) (u2 : u ≤ 1099511627776) (lo hi : Int) (hm : mulQ n d u 1 = (0, 0, 5)) (ho : ofR n d u = (lo, hi, 0)) (a b x y : Int) (h1 : ofR n d 1 = (a, b, 0)) (hw : mulR a b u u = (x, y, 0)) (ht : timesR a b u 1 = (x, y, 0)) (hi' : insB lo hi x y = true) :
    Calls Try.prog 9 #[.agg #[.int .i64 n, .int .i64 d], .int .i64 u] w (Yes w) := by
  have hV := vB_t.2 v
  have fm := fun W => mul_ok n d u 1 W v (V_unit u1 u2) hm
  have fo := fun W => hRo _ _ _ _ _ _ ho W v
  have f1 := fun W => hRo _ _ _ _ _ _ h1 W v
  have fu := fun W => of_le u u W (Int.le_refl _)
  have fw := fun W => hRp _ _ _ _ _ _ _ hw W
  have ft := fun W => hRt _ _ _ _ _ _ _ ht W
  have fi := fun W => hRi lo hi x y true hi' W
  obtain ⟨d1, d2, n1, n2, -⟩ := v
  replace d1 : -9223372036854775808 ≤ d := by omega
  replace d2 : d ≤ 9223372036854775807 := by omega
  replace n1 : -9223372036854775808 ≤ n := by omega
  replace n2 : n ≤ 9223372036854775807 := by omega
  clear hm ho h1 hw ht hi'
  go_enter Try.func9, Try.ntmps9
  go_wp2_with (first | (go_at_call 11; refine (awake_any _).mono ?_; rintro e w0 ⟨rfl, hb⟩; have E := (env_one w n d 35).on hb; have C := E.cells; simp only [BC] at C; clear hb) | (go_at_call 32; refine (rvalid_any _ _ _ n1 n2 d1 d2).mono ?_; rw [hV]; rintro e w1 ⟨rfl, hb⟩; replace E := E.on hb; replace C := E.cells; simp only [BC] at C; clear hb) | (go_at_call 29; first | ((with_reducible refine (fo _).mono ?_); rintro e wa ⟨rfl, hb⟩; replace E := (E.on hb).add lo hi 23; replace C := E.cells; simp only [BC] at C; clear hb) | ((with_reducible refine (f1 _).mono ?_); rintro e wo ⟨rfl, hb⟩; replace E := (E.on hb).add a b 23; replace C := E.cells; simp only [BC] at C; clear hb)) | (go_at_call 42; ((with_reducible refine (fm _).mono ?_); rintro e wp ⟨rfl, hb⟩; replace E := (E.on hb).add 0 0 35; replace C := E.cells; simp only [BC] at C; clear hb)))
  obtain ⟨go, hgo⟩ : ∃ g, wo.heap.size = g := ⟨_, rfl⟩
  rw [hgo] at E C ⊢
  clear hgo C
  obtain ⟨W0, hW0⟩ : ∃ W, W = wo.alloc (.cells #[.int .i64 a, .int .i64 b] 23) := ⟨_, rfl⟩
  rw [← hW0] at E ⊢
  clear hW0
  go_region_held3 (fun w' => w'.cell? ⟨go, 0, none⟩ = some (.int .i64 a) ∧ w'.cell? ⟨go, 1, none⟩ = some (.int .i64 b) ∧ Env w w' [⟨go, 23, a, b⟩, ⟨wp.heap.size, 35, 0, 0⟩, ⟨wa.heap.size, 23, lo, hi⟩, ⟨w.heap.size, 35, n, d⟩])
    (first | with_reducible exact kept1 (Env.off (Env.store Q2 M _ _)) | with_reducible exact kept1 (Env.fr1 Q2 _) | with_reducible exact kept1 (Env.more Q2 _) | with_reducible exact kept1 Q2 | exact kept1 (Env.dr E ⟨1, rfl⟩) | with_reducible exact kept1 (Env.fr1 Q1 _) | with_reducible exact kept1 (Env.more Q1 _) | with_reducible exact kept1 Q1 | with_reducible exact kept1 (Env.fr1 E _) | with_reducible exact kept1 (Env.more E _) | with_reducible (go_split_ands; assumption))
    (first | (go_at_call 39; (with_reducible refine (fu _).mono ?_); rintro e w5 ⟨rfl, hb⟩; have Q1 : Env w w5 [⟨go, 23, a, b⟩, ⟨wp.heap.size, 35, 0, 0⟩, ⟨wa.heap.size, 23, lo, hi⟩, ⟨w.heap.size, 35, n, d⟩] := (by with_reducible exact Env.on (by go_split_ands; assumption) hb); (first | (have M : MidS w w5 _ [⟨go, 23, a, b⟩, ⟨wp.heap.size, 35, 0, 0⟩, ⟨wa.heap.size, 23, lo, hi⟩, ⟨w.heap.size, 35, n, d⟩] := (by with_reducible exact MidS.start E hb)) | (have M : MidS w w5 _ [⟨go, 23, a, b⟩, ⟨wp.heap.size, 35, 0, 0⟩, ⟨wa.heap.size, 23, lo, hi⟩, ⟨w.heap.size, 35, n, d⟩] := (by with_reducible exact MidS.startd E hb)) | skip)) | (go_at_call 23; (with_reducible refine (fw _).mono ?_); rintro e w6 ⟨rfl, hb⟩; have Q2 : Env w w6 [⟨go, 23, a, b⟩, ⟨wp.heap.size, 35, 0, 0⟩, ⟨wa.heap.size, 23, lo, hi⟩, ⟨w.heap.size, 35, n, d⟩] := (by with_reducible exact Env.on (by go_split_ands; assumption) hb); (first | (have M : MidS w w6 _ [⟨go, 23, a, b⟩, ⟨wp.heap.size, 35, 0, 0⟩, ⟨wa.heap.size, 23, lo, hi⟩, ⟨w.heap.size, 35, n, d⟩] := (by with_reducible exact MidS.start Q1 hb); obtain ⟨m0, m1, m2, m3⟩ := Has.two M.1) | (have M : MidS w w6 _ [⟨go, 23, a, b⟩, ⟨wp.heap.size, 35, 0, 0⟩, ⟨wa.heap.size, 23, lo, hi⟩, ⟨w.heap.size, 35, n, d⟩] := (by with_reducible exact MidS.startd Q1 hb); obtain ⟨m0, m1, m2, m3⟩ := Has.two M.1) | (replace M : MidS w w6 _ [⟨go, 23, a, b⟩, ⟨wp.heap.size, 35, 0, 0⟩, ⟨wa.heap.size, 23, lo, hi⟩, ⟨w.heap.size, 35, n, d⟩] := (by with_reducible exact MidS.next M hb); obtain ⟨m0, m1, m2, m3⟩ := Has.two M.1) | skip)))
  all_goals (rename_i hH; clear hH)
  all_goals (first | (have E2 := Env.store Q2 M x y; clear M m0 m1 m2 m3) | (have E2 := Env.add Q2 x y 23))
  all_goals (clear E Q1 Q2)
  all_goals (have C := E2.cells; simp only [BC] at C)
  all_goals (go_wp2_with (first | (go_at_call 27; (with_reducible refine (ft _).mono ?_); rintro e w7 ⟨rfl, hb⟩; replace E2 := (E2.on hb).add x y 23; replace C := E2.cells; simp only [BC] at C; clear hb) | (go_at_call 41; (with_reducible refine (fi _).mono ?_); rintro e w8 ⟨rfl, hb⟩; replace E2 := E2.on hb; replace C := E2.cells; simp only [BC] at C; clear hb)))
  all_goals go_ret
  all_goals exact ⟨by first | rfl | simp_all, E2.1⟩

set_option maxRecDepth 100000 in
set_option maxHeartbeats 8000000 in
theorem fractions_Cb (n d u : Int) (w : World) (v : V n d) (u1 : 1 ≤ u) (u2 : u ≤ 1099511627776) (lo hi : Int) (hm : mulQ n d u 1 = (0, 0, 5)) (ho : ofR n d u = (lo, hi, 0)) (a b x y : Int) (h1 : ofR n d 1 = (a, b, 0)) (hw : mulR a b u u = (0, 0, 5)) (ht : timesR a b u 1 = (0, 0, 5)) :
    Calls Try.prog 9 #[.agg #[.int .i64 n, .int .i64 d], .int .i64 u] w (Yes w) := by
  have hV := vB_t.2 v
  have fm := fun W => mul_ok n d u 1 W v (V_unit u1 u2) hm
  have fo := fun W => hRo _ _ _ _ _ _ ho W v
  have f1 := fun W => hRo _ _ _ _ _ _ h1 W v
  have fu := fun W => of_le u u W (Int.le_refl _)
  have fw := fun W => hRp _ _ _ _ _ _ _ hw W
  have ft := fun W => hRt _ _ _ _ _ _ _ ht W
  obtain ⟨d1, d2, n1, n2, -⟩ := v
  replace d1 : -9223372036854775808 ≤ d := by omega
  replace d2 : d ≤ 9223372036854775807 := by omega
  replace n1 : -9223372036854775808 ≤ n := by omega
  replace n2 : n ≤ 9223372036854775807 := by omega
  clear hm ho h1 hw ht
  go_enter Try.func9, Try.ntmps9
  go_wp2_with (first | (go_at_call 11; refine (awake_any _).mono ?_; rintro e w0 ⟨rfl, hb⟩; have E := (env_one w n d 35).on hb; have C := E.cells; simp only [BC] at C; clear hb) | (go_at_call 32; refine (rvalid_any _ _ _ n1 n2 d1 d2).mono ?_; rw [hV]; rintro e w1 ⟨rfl, hb⟩; replace E := E.on hb; replace C := E.cells; simp only [BC] at C; clear hb) | (go_at_call 29; first | ((with_reducible refine (fo _).mono ?_); rintro e wa ⟨rfl, hb⟩; replace E := (E.on hb).add lo hi 23; replace C := E.cells; simp only [BC] at C; clear hb) | ((with_reducible refine (f1 _).mono ?_); rintro e wo ⟨rfl, hb⟩; replace E := (E.on hb).add a b 23; replace C := E.cells; simp only [BC] at C; clear hb)) | (go_at_call 42; ((with_reducible refine (fm _).mono ?_); rintro e wp ⟨rfl, hb⟩; replace E := (E.on hb).add 0 0 35; replace C := E.cells; simp only [BC] at C; clear hb)))
  obtain ⟨go, hgo⟩ : ∃ g, wo.heap.size = g := ⟨_, rfl⟩
  rw [hgo] at E C ⊢
  clear hgo C
  obtain ⟨W0, hW0⟩ : ∃ W, W = wo.alloc (.cells #[.int .i64 a, .int .i64 b] 23) := ⟨_, rfl⟩
  rw [← hW0] at E ⊢
  clear hW0
  go_region_held3 (fun w' => w'.cell? ⟨go, 0, none⟩ = some (.int .i64 a) ∧ w'.cell? ⟨go, 1, none⟩ = some (.int .i64 b) ∧ Env w w' [⟨go, 23, a, b⟩, ⟨wp.heap.size, 35, 0, 0⟩, ⟨wa.heap.size, 23, lo, hi⟩, ⟨w.heap.size, 35, n, d⟩])
    (first | with_reducible exact kept1 (Env.off (Env.store Q2 M _ _)) | with_reducible exact kept1 (Env.fr1 Q2 _) | with_reducible exact kept1 (Env.more Q2 _) | with_reducible exact kept1 Q2 | exact kept1 (Env.dr E ⟨1, rfl⟩) | with_reducible exact kept1 (Env.fr1 Q1 _) | with_reducible exact kept1 (Env.more Q1 _) | with_reducible exact kept1 Q1 | with_reducible exact kept1 (Env.fr1 E _) | with_reducible exact kept1 (Env.more E _) | with_reducible (go_split_ands; assumption))
    (first | (go_at_call 39; (with_reducible refine (fu _).mono ?_); rintro e w5 ⟨rfl, hb⟩; have Q1 : Env w w5 [⟨go, 23, a, b⟩, ⟨wp.heap.size, 35, 0, 0⟩, ⟨wa.heap.size, 23, lo, hi⟩, ⟨w.heap.size, 35, n, d⟩] := (by with_reducible exact Env.on (by go_split_ands; assumption) hb); (first | (have M : MidS w w5 _ [⟨go, 23, a, b⟩, ⟨wp.heap.size, 35, 0, 0⟩, ⟨wa.heap.size, 23, lo, hi⟩, ⟨w.heap.size, 35, n, d⟩] := (by with_reducible exact MidS.start E hb)) | (have M : MidS w w5 _ [⟨go, 23, a, b⟩, ⟨wp.heap.size, 35, 0, 0⟩, ⟨wa.heap.size, 23, lo, hi⟩, ⟨w.heap.size, 35, n, d⟩] := (by with_reducible exact MidS.startd E hb)) | skip)) | (go_at_call 23; (with_reducible refine (fw _).mono ?_); rintro e w6 ⟨rfl, hb⟩; have Q2 : Env w w6 [⟨go, 23, a, b⟩, ⟨wp.heap.size, 35, 0, 0⟩, ⟨wa.heap.size, 23, lo, hi⟩, ⟨w.heap.size, 35, n, d⟩] := (by with_reducible exact Env.on (by go_split_ands; assumption) hb); (first | (have M : MidS w w6 _ [⟨go, 23, a, b⟩, ⟨wp.heap.size, 35, 0, 0⟩, ⟨wa.heap.size, 23, lo, hi⟩, ⟨w.heap.size, 35, n, d⟩] := (by with_reducible exact MidS.start Q1 hb); obtain ⟨m0, m1, m2, m3⟩ := Has.two M.1) | (have M : MidS w w6 _ [⟨go, 23, a, b⟩, ⟨wp.heap.size, 35, 0, 0⟩, ⟨wa.heap.size, 23, lo, hi⟩, ⟨w.heap.size, 35, n, d⟩] := (by with_reducible exact MidS.startd Q1 hb); obtain ⟨m0, m1, m2, m3⟩ := Has.two M.1) | (replace M : MidS w w6 _ [⟨go, 23, a, b⟩, ⟨wp.heap.size, 35, 0, 0⟩, ⟨wa.heap.size, 23, lo, hi⟩, ⟨w.heap.size, 35, n, d⟩] := (by with_reducible exact MidS.next M hb); obtain ⟨m0, m1, m2, m3⟩ := Has.two M.1) | skip)))
  all_goals (rename_i hH; clear hH)
  all_goals (first | (have E2 := Env.store Q2 M 0 0; clear M m0 m1 m2 m3) | (have E2 := Env.add Q2 0 0 23))
  all_goals (clear E Q1 Q2)
  all_goals (have C := E2.cells; simp only [BC] at C)
  all_goals (go_wp2_with (first | (go_at_call 27; (with_reducible refine (ft _).mono ?_); rintro e w7 ⟨rfl, hb⟩; replace E2 := (E2.on hb).add 0 0 23; replace C := E2.cells; simp only [BC] at C; clear hb)))
  all_goals go_ret
  all_goals exact ⟨by first | rfl | simp_all, E2.1⟩

end Go.Proofs.Ytplepbaafamjfaa
