/- BendSpans, BendCuts. -/
import Derived.Test.YthphgppgdlimeaaLg1
import Derived.Deep.CutBlock
namespace Go.Proofs.Ythphgppgdlimeaa
open Go.ChangeShapes Go.WideShapes Go.ChangeAt Go.RowKit
set_option linter.unusedVariables false
set_option linter.unusedSimpArgs false

theorem s_sp {w W : World} {b : Bar} {g1 g2 h : Nat} {xa xb vx vy : Int} {v : Value} {LS : List Int} (E : Env w W [⟨g2, 24, #[.int .i64 vx, .int .i64 vy]⟩, ⟨g1, 24, #[.int .i64 xa, .int .i64 xb]⟩, ⟨h, 32, #[.string b.mark, .int .i64 b.size, .int .i64 b.count, .int .i64 b.code, .slice b.p b.ds.length b.cap]⟩]) (hR : Rdz W v LS) : Env w W [⟨g2, 24, #[.int .i64 vx, .int .i64 vy]⟩, ⟨g1, 24, #[.int .i64 xa, .int .i64 xb]⟩, ⟨h, 32, #[.string b.mark, .int .i64 b.size, .int .i64 b.count, .int .i64 b.code, .slice b.p b.ds.length b.cap]⟩] ∧ W.cell? ⟨g1, 0, none⟩ = some (.int .i64 xa) ∧ W.cell? ⟨g1, 1, none⟩ = some (.int .i64 xb) ∧ W.cell? ⟨g2, 0, none⟩ = some (.int .i64 vx) ∧ W.cell? ⟨g2, 1, none⟩ = some (.int .i64 vy) ∧ Rdz W v LS := by
  have C := E.cells
  simp [BC, CF] at C
  obtain ⟨⟨-, ⟨c0, -⟩, c1, -⟩, ⟨-, ⟨a0, -⟩, a1, -⟩, -⟩ := C
  exact ⟨E, a0, a1, c0, c1, hR⟩
theorem legs_tot {b : Bar} (h : barB b = true) : ∀ k, k ≤ (legs b).length → -1000000000 ≤ ((legs b).take k).sum ∧ ((legs b).take k).sum ≤ 1000000000 := by
  intro k hk
  rw [legs_len] at hk
  have h1 := (pt_sum h k hk).2
  have h2 := take_le h (nl b.code - k) (by omega)
  rw [show nl b.code - (nl b.code - k) = k by omega] at h2
  have h3 := legs_sum h
  omega
theorem arc_f {r : Int} (h : 15 ≤ r ∧ r ≤ 160) : arcL r < arcH r ∧ 1410 * r < arcL r ∧ arcH r < 2000 * r ∧ arcH r - arcL r ≤ 3 + r / 10 := by
  rw [arcL_e (by omega), arcH_e (by omega)]
  omega
theorem bn_bd {d : Int} (h : isz d = true) : 15 ≤ bn d ∧ bn d ≤ 160 := by
  rcases isz_cases h with rfl | rfl | rfl | rfl | rfl | rfl | rfl | rfl | rfl <;> decide
set_option maxHeartbeats 8000000 in
set_option maxRecDepth 100000 in
theorem spans_not (b : Bar) (w : World) (hk : b.Ok w) (hr : rightB b = false) : Calls Try.prog 6 #[b.val] w fun e w' => e = .returned (.bool true) ∧ Below w.heap.size w w' := by
  have h10 := fun W => awake_any W
  have h29 := fun W (h : Below w.heap.size w W) => right_any b W (hk.on h)
  have E := (Env.nil w).add w.heap.size 32 b.cs rfl
  have hcs : b.cs = #[.string b.mark, .int .i64 b.size, .int .i64 b.count, .int .i64 b.code, .slice b.p b.ds.length b.cap] := rfl
  have hvv : b.val = .agg b.cs := rfl
  rw [hcs] at E hvv
  rw [hr] at h29
  rw [hvv] at h29 ⊢
  clear hr hk hcs hvv
  have C := E.cells
  simp [BC, CF] at C
  go_enter Try.func6, Try.ntmps6
  go_wp2_with (first
    | (go_at_call 10; (with_reducible refine (h10 _).mono ?_); rintro X wq ⟨rfl, hb⟩; replace E := E.on hb; replace C := E.cells; simp [BC, CF] at C; clear hb)
    | (go_at_call 29; (with_reducible refine (h29 _ (envb E)).mono ?_); rintro X wq ⟨rfl, hb⟩; replace E := E.on hb; replace C := E.cells; simp [BC, CF] at C; clear hb))
  go_ret
  exact ⟨rfl, envb E⟩
set_option maxHeartbeats 8000000 in
set_option maxRecDepth 100000 in
theorem spans_more (b : Bar) (w : World) (hk : b.Ok w) (hr : rightB b = true) (hN1 : 2 ≤ nl b.code) : Calls Try.prog 6 #[b.val] w fun e w' => e = .returned (.bool true) ∧ Below w.heap.size w w' := by
  have hv : barB b = true := by
    unfold rightB at hr
    simp only [Bool.and_eq_true] at hr
    exact hr.2
  have hs := (barB_and hv).2.2.2.2.1
  have h10 := fun W => awake_any W
  have h29 := fun W (h : Below w.heap.size w W) => right_any b W (hk.on h)
  have h30 := fun W (h : Below w.heap.size w W) => Legs_ok b W (hk.on h) hv
  have h31 := fun W => bend_ok b.size hs W
  have h11 := fun W => Arc_ok b.size hs W
  have h17 := fun W (h : Below w.heap.size w W) => Bends_ok b W (hk.on h) hv
  have h18 := fun W (h : Below w.heap.size w W) => Dev_ok b W (hk.on h) hv
  have h32 : ∀ v W, Rdz W v (legs b) → Calls Try.prog 32 #[v] W fun e w' => e = .returned (.int .i64 (legs b).sum) ∧ W = w' := fun v W h => total_any v (legs b) W h (by rw [legs_len]; have := nl_le (barB_and hv).1; omega) (legs_tot hv)
  have n6 := nl_le (barB_and hv).1
  have n0 := nl_pos (barB_and hv).1
  have hb := bn_bd hs
  have ha := arc_f hb
  have hd := dev_bd hv
  have hT := legs_sum hv
  have hT0 := (pt_sum hv _ (Nat.le_refl _)).2
  rw [List.take_of_length_le (by rw [legs_len]; omega)] at hT0
  have e1 : devL b = 1000 * (legs b).sum - 2000 * bn b.size * ((nl b.code : Int) - 1) + ((nl b.code : Int) - 1) * arcL (bn b.size) := by
    unfold devL alwH
    rw [Int.mul_sub, Int.mul_comm (2000 * bn b.size)]; omega
  have e2 : devH b = 1000 * (legs b).sum - 2000 * bn b.size * ((nl b.code : Int) - 1) + ((nl b.code : Int) - 1) * arcH (bn b.size) := by
    unfold devH alwL
    rw [Int.mul_sub, Int.mul_comm (2000 * bn b.size)]; omega
  have e3 : devH b = 1000 * (legs b).sum - ((nl b.code : Int) - 1) * alwL (bn b.size) := rfl
  have e4 : 1 ≤ alwL (bn b.size) := by unfold alwL; omega
  have hN2 : 1 ≤ (nl b.code : Int) - 1 := by omega
  clear hN1
  have hN : 0 ≤ (nl b.code : Int) - 1 ∧ (nl b.code : Int) - 1 ≤ 5 := by omega
  have E := (Env.nil w).add w.heap.size 32 b.cs rfl
  have hcs : b.cs = #[.string b.mark, .int .i64 b.size, .int .i64 b.count, .int .i64 b.code, .slice b.p b.ds.length b.cap] := rfl
  have hvv : b.val = .agg b.cs := rfl
  rw [hcs] at E hvv
  rw [hr] at h29
  rw [hvv] at h29 h30 h17 h18 ⊢
  unfold two at *
  clear hr hk hcs hvv hv hs
  have hbnn : (((nl b.code : Int) - 1) == ((nl b.code : Int) - 1)) = true := by simp
  generalize alwL (bn b.size) = al at *
  generalize arcL (bn b.size) = xa at *
  generalize arcH (bn b.size) = xb at *
  generalize bn b.size = r at *
  generalize devL b = vx at *
  generalize devH b = vy at *
  generalize legs b = LS at *
  have HZ : ∃ N : Int, Hid (N = (nl b.code : Int) - 1) := ⟨_, Lib.hid rfl⟩
  obtain ⟨N, HZ⟩ := HZ
  rw [← HZ.out] at h17 e1 e2 e3 hN hN2 hbnn
  generalize nl b.code = n at *
  generalize mc b.code = m at *
  have W0 : IntKind.i64.wrap ((n : Int) - 1) = N := by rw [HZ.out]; exact IntWalk.i64_in _ (by omega)
  have m1 : 0 ≤ N * xa ∧ N * xa ≤ 2000000 := ⟨Int.mul_nonneg hN.1 (by omega), by have := Int.mul_le_mul_of_nonneg_right hN.2 (show 0 ≤ xa by omega); omega⟩
  have m2 : 0 ≤ N * xb ∧ N * xb ≤ 2000000 := ⟨Int.mul_nonneg hN.1 (by omega), by have := Int.mul_le_mul_of_nonneg_right hN.2 (show 0 ≤ xb by omega); omega⟩
  have m3 : 0 ≤ 2000 * r * N ∧ 2000 * r * N ≤ 2000000 := ⟨Int.mul_nonneg (by omega) hN.1, by have := Int.mul_le_mul_of_nonneg_left hN.2 (show 0 ≤ 2000 * r by omega); omega⟩
  have W1 : IntKind.i64.wrap (1000 * LS.sum) = 1000 * LS.sum := IntWalk.i64_in _ (by omega)
  have W2 : IntKind.i64.wrap (2000 * r) = 2000 * r := IntWalk.i64_in _ (by omega)
  have W3 : IntKind.i64.wrap (2000 * r * N) = 2000 * r * N := IntWalk.i64_in _ (by omega)
  have W4 : IntKind.i64.wrap (1000 * LS.sum - 2000 * r * N) = 1000 * LS.sum - 2000 * r * N := IntWalk.i64_in _ (by omega)
  have W5 : IntKind.i64.wrap (N * xa) = N * xa := IntWalk.i64_in _ (by omega)
  have W6 : IntKind.i64.wrap (N * xb) = N * xb := IntWalk.i64_in _ (by omega)
  have W7 : IntKind.i64.wrap (1000 * LS.sum - 2000 * r * N + N * xa) = vx := by rw [← e1]; exact IntWalk.i64_in _ (by omega)
  have W8 : IntKind.i64.wrap (1000 * LS.sum - 2000 * r * N + N * xb) = vy := by rw [← e2]; exact IntWalk.i64_in _ (by omega)
  have W9 : IntKind.i64.wrap (1410 * r) = 1410 * r := IntWalk.i64_in _ (by omega)
  have Wa : IntKind.i64.wrap (xb - xa) = xb - xa := IntWalk.i64_in _ (by omega)
  have Wb : IntKind.i64.wrap (Int.tdiv r 10) = r / 10 := by rw [Int.tdiv_eq_ediv_of_nonneg (by omega)]; exact IntWalk.i64_in _ (by omega)
  have Wc : IntKind.i64.wrap (1 + r / 10) = 1 + r / 10 := IntWalk.i64_in _ (by omega)
  have Wd : IntKind.i64.wrap (1 + r / 10 + 2) = 1 + r / 10 + 2 := IntWalk.i64_in _ (by omega)
  have t1 : decide (xa ≥ xb) = false := by simp; omega
  have t2 : decide (xb ≤ xa) = false := by simp; omega
  have t3 : decide (xa > 1410 * r) = true := by simp; omega
  have t4 : decide (1410 * r < xa) = true := by simp; omega
  have t5 : decide (xb < 2000 * r) = true := by simp; omega
  have t6 : decide (xb - xa ≤ 1 + r / 10 + 2) = true := by simp; omega
  have s0 : decide (N > 0) = true := by simp; omega
  have s1 : decide (0 < N) = true := by simp; omega
  have m4 : al ≤ N * al := by
    have := Int.mul_le_mul_of_nonneg_right (show 1 ≤ N by omega) (show 0 ≤ al by omega); omega
  have s2 : decide (vy ≥ 1000 * LS.sum) = false := by simp; omega
  have s3 : decide (1000 * LS.sum ≤ vy) = false := by simp; omega
  clear hN2 m4 e1 e2 e3 e4 n6 n0 hb ha hd hT hT0 hN m1 m2 m3
  generalize r / 10 = z1 at *
  generalize LS.sum = T at *
  have C := E.cells
  simp [BC, CF] at C
  go_enter Try.func6, Try.ntmps6
  go_upto_region 13 with (first
    | (go_at_call 10; (with_reducible refine (h10 _).mono ?_); rintro X wq ⟨rfl, hb⟩; replace E := E.on hb; replace C := E.cells; simp [BC, CF] at C; clear hb)
    | (go_at_call 29; (with_reducible refine (h29 _ (envb E)).mono ?_); rintro X wq ⟨rfl, hb⟩; replace E := E.on hb; replace C := E.cells; simp [BC, CF] at C; clear hb)
    | (go_at_call 30; (with_reducible refine (h30 _ (envb E)).mono ?_); rintro X wq ⟨gL, rfl, hR, hb⟩; replace E := E.on hb; replace C := E.cells; simp [BC, CF] at C; clear hb)
    | (go_at_call 31; (with_reducible refine (h31 _).mono ?_); rintro X wq ⟨rfl, hb⟩; replace hR := hR.on hb; replace E := E.on hb; replace C := E.cells; simp [BC, CF] at C; clear hb)
    | (go_at_call 11; (with_reducible refine (h11 _).mono ?_); rintro X w1 ⟨rfl, hb⟩; replace hR := (hR.on hb).on (al1 w1 (.cells #[.int .i64 xa, .int .i64 xb] 24)); replace E := (E.on hb).add w1.heap.size 24 #[.int .i64 xa, .int .i64 xb] rfl; replace C := E.cells; simp [BC, CF] at C; clear hb)
    | (go_at_call 17; (with_reducible refine (h17 _ (envb E)).mono ?_); rintro X wq ⟨rfl, hb⟩; replace hR := hR.on hb; replace E := E.on hb; replace C := E.cells; simp [BC, CF] at C; clear hb)
    | (go_at_call 18; (with_reducible refine (h18 _ (envb E)).mono ?_); rintro X w2 ⟨rfl, hb⟩; replace hR := (hR.on hb).on (al1 w2 (.cells #[.int .i64 vx, .int .i64 vy] 24)); replace E := (E.on hb).add w2.heap.size 24 #[.int .i64 vx, .int .i64 vy] rfl; replace C := E.cells; simp [BC, CF] at C; clear hb)
    | (go_at_call 32; (with_reducible refine (h32 _ _ hR).mono ?_); rintro X wq ⟨rfl, rfl⟩))
  refine wp_region_plan 31 [(0, true), (1, true), (2, true), (3, true), (4, true), (5, true), (6, true), (7, true), (8, true), (9, true), (10, true), (11, true), (12, true), (13, true), (14, true), (15, true), (16, true), (17, true), (18, true), (19, true), (20, true), (21, true), (22, true), (23, true), (24, true), (25, true), (26, true), (27, false), (28, true), (29, true), (30, true)] (fun W' => Env w W' [⟨w2.heap.size, 24, #[.int .i64 vx, .int .i64 vy]⟩, ⟨w1.heap.size, 24, #[.int .i64 xa, .int .i64 xb]⟩, ⟨w.heap.size, 32, #[.string b.mark, .int .i64 b.size, .int .i64 b.count, .int .i64 b.code, .slice b.p b.ds.length b.cap]⟩] ∧ W'.cell? ⟨w1.heap.size, 0, none⟩ = some (.int .i64 xa) ∧ W'.cell? ⟨w1.heap.size, 1, none⟩ = some (.int .i64 xb) ∧ W'.cell? ⟨w2.heap.size, 0, none⟩ = some (.int .i64 vx) ∧ W'.cell? ⟨w2.heap.size, 1, none⟩ = some (.int .i64 vy) ∧ Rdz W' (.slice (some ⟨gL, 0, none⟩) n m) LS) (by kernel_rfl) (by kernel_rfl) (fun _ _ d _ _ h => by cases d <;> exact h) (s_sp E.drw (hR.on (Below.drew (Below.refl _ _)))) ?_
  simp only [List.filterMap_cons, List.filterMap_nil, List.getElem?_cons_zero, List.getElem?_cons_succ, Option.map_some, List.drop_succ_cons, List.drop_zero]
  replace E := E.drw
  replace hR := hR.on (Below.drew (Below.refl _ _))
  iterate 27 (first | (refine wpPlan_still (v := ?_) (Or.inl ⟨by rfl, ?_⟩) ?_; rotate_left; (focus (intro W hW; (try dsimp only at hW); go_split_ands; go_simp; try with_reducible rfl)); try simp only [Act.put, List.setIfInBounds_toArray, List.set_cons_zero, List.set_cons_succ]) | (refine wpPlan_still (Or.inr ⟨by rfl, rfl⟩) ?_; try simp only [Act.put, List.setIfInBounds_toArray, List.set_cons_zero, List.set_cons_succ]))
  refine wpPlan_only (fun K hK => ?_)
  try go_simp
  (go_at_call 32; (with_reducible refine (h32 _ _ hR).mono ?_); rintro X wq ⟨rfl, rfl⟩)
  refine hK.out _ _ (s_sp E hR) ?_
  clear hK K
  try simp only [Act.put, List.setIfInBounds_toArray, List.set_cons_zero, List.set_cons_succ]
  iterate 3 (first | (refine wpPlan_still (v := ?_) (Or.inl ⟨by rfl, ?_⟩) ?_; rotate_left; (focus (intro W hW; (try dsimp only at hW); go_split_ands; go_simp; try with_reducible rfl)); try simp only [Act.put, List.setIfInBounds_toArray, List.set_cons_zero, List.set_cons_succ]) | (refine wpPlan_still (Or.inr ⟨by rfl, rfl⟩) ?_; try simp only [Act.put, List.setIfInBounds_toArray, List.set_cons_zero, List.set_cons_succ]))
  refine wpPlan_end ?_
  replace C := E.cells
  simp [BC, CF] at C
  go_wp2_with fail
  go_ret
  exact ⟨rfl, envb E⟩
set_option maxHeartbeats 8000000 in
set_option maxRecDepth 100000 in
theorem spans_one (b : Bar) (w : World) (hk : b.Ok w) (hr : rightB b = true) (hN1 : nl b.code = 1) : Calls Try.prog 6 #[b.val] w fun e w' => e = .returned (.bool true) ∧ Below w.heap.size w w' := by
  have hv : barB b = true := by
    unfold rightB at hr
    simp only [Bool.and_eq_true] at hr
    exact hr.2
  have hs := (barB_and hv).2.2.2.2.1
  have h10 := fun W => awake_any W
  have h29 := fun W (h : Below w.heap.size w W) => right_any b W (hk.on h)
  have h30 := fun W (h : Below w.heap.size w W) => Legs_ok b W (hk.on h) hv
  have h31 := fun W => bend_ok b.size hs W
  have h11 := fun W => Arc_ok b.size hs W
  have h17 := fun W (h : Below w.heap.size w W) => Bends_ok b W (hk.on h) hv
  have h18 := fun W (h : Below w.heap.size w W) => Dev_ok b W (hk.on h) hv
  have h32 : ∀ v W, Rdz W v (legs b) → Calls Try.prog 32 #[v] W fun e w' => e = .returned (.int .i64 (legs b).sum) ∧ W = w' := fun v W h => total_any v (legs b) W h (by rw [legs_len]; have := nl_le (barB_and hv).1; omega) (legs_tot hv)
  have n6 := nl_le (barB_and hv).1
  have n0 := nl_pos (barB_and hv).1
  have hb := bn_bd hs
  have ha := arc_f hb
  have hd := dev_bd hv
  have hT := legs_sum hv
  have hT0 := (pt_sum hv _ (Nat.le_refl _)).2
  rw [List.take_of_length_le (by rw [legs_len]; omega)] at hT0
  have e1 : devL b = 1000 * (legs b).sum - 2000 * bn b.size * ((nl b.code : Int) - 1) + ((nl b.code : Int) - 1) * arcL (bn b.size) := by
    unfold devL alwH
    rw [Int.mul_sub, Int.mul_comm (2000 * bn b.size)]; omega
  have e2 : devH b = 1000 * (legs b).sum - 2000 * bn b.size * ((nl b.code : Int) - 1) + ((nl b.code : Int) - 1) * arcH (bn b.size) := by
    unfold devH alwL
    rw [Int.mul_sub, Int.mul_comm (2000 * bn b.size)]; omega
  have e3 : devH b = 1000 * (legs b).sum - ((nl b.code : Int) - 1) * alwL (bn b.size) := rfl
  have e4 : 1 ≤ alwL (bn b.size) := by unfold alwL; omega
  have hN2 : (nl b.code : Int) - 1 = 0 := by omega
  clear hN1
  have hN : 0 ≤ (nl b.code : Int) - 1 ∧ (nl b.code : Int) - 1 ≤ 5 := by omega
  have E := (Env.nil w).add w.heap.size 32 b.cs rfl
  have hcs : b.cs = #[.string b.mark, .int .i64 b.size, .int .i64 b.count, .int .i64 b.code, .slice b.p b.ds.length b.cap] := rfl
  have hvv : b.val = .agg b.cs := rfl
  rw [hcs] at E hvv
  rw [hr] at h29
  rw [hvv] at h29 h30 h17 h18 ⊢
  unfold two at *
  clear hr hk hcs hvv hv hs
  have hbnn : (((nl b.code : Int) - 1) == ((nl b.code : Int) - 1)) = true := by simp
  generalize alwL (bn b.size) = al at *
  generalize arcL (bn b.size) = xa at *
  generalize arcH (bn b.size) = xb at *
  generalize bn b.size = r at *
  generalize devL b = vx at *
  generalize devH b = vy at *
  generalize legs b = LS at *
  have HZ : ∃ N : Int, Hid (N = (nl b.code : Int) - 1) := ⟨_, Lib.hid rfl⟩
  obtain ⟨N, HZ⟩ := HZ
  rw [← HZ.out] at h17 e1 e2 e3 hN hN2 hbnn
  generalize nl b.code = n at *
  generalize mc b.code = m at *
  have W0 : IntKind.i64.wrap ((n : Int) - 1) = N := by rw [HZ.out]; exact IntWalk.i64_in _ (by omega)
  have m1 : 0 ≤ N * xa ∧ N * xa ≤ 2000000 := ⟨Int.mul_nonneg hN.1 (by omega), by have := Int.mul_le_mul_of_nonneg_right hN.2 (show 0 ≤ xa by omega); omega⟩
  have m2 : 0 ≤ N * xb ∧ N * xb ≤ 2000000 := ⟨Int.mul_nonneg hN.1 (by omega), by have := Int.mul_le_mul_of_nonneg_right hN.2 (show 0 ≤ xb by omega); omega⟩
  have m3 : 0 ≤ 2000 * r * N ∧ 2000 * r * N ≤ 2000000 := ⟨Int.mul_nonneg (by omega) hN.1, by have := Int.mul_le_mul_of_nonneg_left hN.2 (show 0 ≤ 2000 * r by omega); omega⟩
  have W1 : IntKind.i64.wrap (1000 * LS.sum) = 1000 * LS.sum := IntWalk.i64_in _ (by omega)
  have W2 : IntKind.i64.wrap (2000 * r) = 2000 * r := IntWalk.i64_in _ (by omega)
  have W3 : IntKind.i64.wrap (2000 * r * N) = 2000 * r * N := IntWalk.i64_in _ (by omega)
  have W4 : IntKind.i64.wrap (1000 * LS.sum - 2000 * r * N) = 1000 * LS.sum - 2000 * r * N := IntWalk.i64_in _ (by omega)
  have W5 : IntKind.i64.wrap (N * xa) = N * xa := IntWalk.i64_in _ (by omega)
  have W6 : IntKind.i64.wrap (N * xb) = N * xb := IntWalk.i64_in _ (by omega)
  have W7 : IntKind.i64.wrap (1000 * LS.sum - 2000 * r * N + N * xa) = vx := by rw [← e1]; exact IntWalk.i64_in _ (by omega)
  have W8 : IntKind.i64.wrap (1000 * LS.sum - 2000 * r * N + N * xb) = vy := by rw [← e2]; exact IntWalk.i64_in _ (by omega)
  have W9 : IntKind.i64.wrap (1410 * r) = 1410 * r := IntWalk.i64_in _ (by omega)
  have Wa : IntKind.i64.wrap (xb - xa) = xb - xa := IntWalk.i64_in _ (by omega)
  have Wb : IntKind.i64.wrap (Int.tdiv r 10) = r / 10 := by rw [Int.tdiv_eq_ediv_of_nonneg (by omega)]; exact IntWalk.i64_in _ (by omega)
  have Wc : IntKind.i64.wrap (1 + r / 10) = 1 + r / 10 := IntWalk.i64_in _ (by omega)
  have Wd : IntKind.i64.wrap (1 + r / 10 + 2) = 1 + r / 10 + 2 := IntWalk.i64_in _ (by omega)
  have t1 : decide (xa ≥ xb) = false := by simp; omega
  have t2 : decide (xb ≤ xa) = false := by simp; omega
  have t3 : decide (xa > 1410 * r) = true := by simp; omega
  have t4 : decide (1410 * r < xa) = true := by simp; omega
  have t5 : decide (xb < 2000 * r) = true := by simp; omega
  have t6 : decide (xb - xa ≤ 1 + r / 10 + 2) = true := by simp; omega
  have s0 : decide (N > 0) = false := by simp; omega
  have s1 : decide (0 < N) = false := by simp; omega
  clear hN2 e1 e2 e3 e4 n6 n0 hb ha hd hT hT0 hN m1 m2 m3
  generalize r / 10 = z1 at *
  generalize LS.sum = T at *
  have C := E.cells
  simp [BC, CF] at C
  go_enter Try.func6, Try.ntmps6
  go_upto_region 13 with (first
    | (go_at_call 10; (with_reducible refine (h10 _).mono ?_); rintro X wq ⟨rfl, hb⟩; replace E := E.on hb; replace C := E.cells; simp [BC, CF] at C; clear hb)
    | (go_at_call 29; (with_reducible refine (h29 _ (envb E)).mono ?_); rintro X wq ⟨rfl, hb⟩; replace E := E.on hb; replace C := E.cells; simp [BC, CF] at C; clear hb)
    | (go_at_call 30; (with_reducible refine (h30 _ (envb E)).mono ?_); rintro X wq ⟨gL, rfl, hR, hb⟩; replace E := E.on hb; replace C := E.cells; simp [BC, CF] at C; clear hb)
    | (go_at_call 31; (with_reducible refine (h31 _).mono ?_); rintro X wq ⟨rfl, hb⟩; replace hR := hR.on hb; replace E := E.on hb; replace C := E.cells; simp [BC, CF] at C; clear hb)
    | (go_at_call 11; (with_reducible refine (h11 _).mono ?_); rintro X w1 ⟨rfl, hb⟩; replace hR := (hR.on hb).on (al1 w1 (.cells #[.int .i64 xa, .int .i64 xb] 24)); replace E := (E.on hb).add w1.heap.size 24 #[.int .i64 xa, .int .i64 xb] rfl; replace C := E.cells; simp [BC, CF] at C; clear hb)
    | (go_at_call 17; (with_reducible refine (h17 _ (envb E)).mono ?_); rintro X wq ⟨rfl, hb⟩; replace hR := hR.on hb; replace E := E.on hb; replace C := E.cells; simp [BC, CF] at C; clear hb)
    | (go_at_call 18; (with_reducible refine (h18 _ (envb E)).mono ?_); rintro X w2 ⟨rfl, hb⟩; replace hR := (hR.on hb).on (al1 w2 (.cells #[.int .i64 vx, .int .i64 vy] 24)); replace E := (E.on hb).add w2.heap.size 24 #[.int .i64 vx, .int .i64 vy] rfl; replace C := E.cells; simp [BC, CF] at C; clear hb)
    | (go_at_call 32; (with_reducible refine (h32 _ _ hR).mono ?_); rintro X wq ⟨rfl, rfl⟩))
  refine wp_region_plan 31 [(0, true), (1, true), (2, true), (3, true), (4, true), (5, true), (6, true), (7, true), (8, true), (9, true), (10, true), (11, true), (12, true), (13, true), (14, true), (15, true), (16, true), (17, true), (18, true), (19, true), (20, true), (21, true), (22, true), (23, true), (24, true), (25, true), (26, true), (27, false), (28, true), (29, true), (30, true)] (fun W' => Env w W' [⟨w2.heap.size, 24, #[.int .i64 vx, .int .i64 vy]⟩, ⟨w1.heap.size, 24, #[.int .i64 xa, .int .i64 xb]⟩, ⟨w.heap.size, 32, #[.string b.mark, .int .i64 b.size, .int .i64 b.count, .int .i64 b.code, .slice b.p b.ds.length b.cap]⟩] ∧ W'.cell? ⟨w1.heap.size, 0, none⟩ = some (.int .i64 xa) ∧ W'.cell? ⟨w1.heap.size, 1, none⟩ = some (.int .i64 xb) ∧ W'.cell? ⟨w2.heap.size, 0, none⟩ = some (.int .i64 vx) ∧ W'.cell? ⟨w2.heap.size, 1, none⟩ = some (.int .i64 vy) ∧ Rdz W' (.slice (some ⟨gL, 0, none⟩) n m) LS) (by kernel_rfl) (by kernel_rfl) (fun _ _ d _ _ h => by cases d <;> exact h) (s_sp E.drw (hR.on (Below.drew (Below.refl _ _)))) ?_
  simp only [List.filterMap_cons, List.filterMap_nil, List.getElem?_cons_zero, List.getElem?_cons_succ, Option.map_some, List.drop_succ_cons, List.drop_zero]
  replace E := E.drw
  replace hR := hR.on (Below.drew (Below.refl _ _))
  iterate 27 (first | (refine wpPlan_still (v := ?_) (Or.inl ⟨by rfl, ?_⟩) ?_; rotate_left; (focus (intro W hW; (try dsimp only at hW); go_split_ands; go_simp; try with_reducible rfl)); try simp only [Act.put, List.setIfInBounds_toArray, List.set_cons_zero, List.set_cons_succ]) | (refine wpPlan_still (Or.inr ⟨by rfl, rfl⟩) ?_; try simp only [Act.put, List.setIfInBounds_toArray, List.set_cons_zero, List.set_cons_succ]))
  refine wpPlan_only (fun K hK => ?_)
  rw [if_neg (by exact Bool.false_ne_true)]
  refine hK.out _ _ (s_sp E hR) ?_
  clear hK K
  try simp only [Act.put, List.setIfInBounds_toArray, List.set_cons_zero, List.set_cons_succ]
  iterate 3 (first | (refine wpPlan_still (v := ?_) (Or.inl ⟨by rfl, ?_⟩) ?_; rotate_left; (focus (intro W hW; (try dsimp only at hW); go_split_ands; go_simp; try with_reducible rfl)); try simp only [Act.put, List.setIfInBounds_toArray, List.set_cons_zero, List.set_cons_succ]) | (refine wpPlan_still (Or.inr ⟨by rfl, rfl⟩) ?_; try simp only [Act.put, List.setIfInBounds_toArray, List.set_cons_zero, List.set_cons_succ]))
  refine wpPlan_end ?_
  replace C := E.cells
  simp [BC, CF] at C
  go_wp2_with fail
  go_ret
  exact ⟨rfl, envb E⟩
theorem spans_walk (b : Bar) (w : World) (hk : b.Ok w) : Calls Try.prog 6 #[b.val] w fun e w' => e = .returned (.bool true) ∧ Below w.heap.size w w' := by
  cases hr : rightB b
  · exact spans_not b w hk hr
  · have hv : barB b = true := by
      unfold rightB at hr
      simp only [Bool.and_eq_true] at hr
      exact hr.2
    have := nl_pos (barB_and hv).1
    by_cases h : nl b.code = 1
    · exact spans_one b w hk hr h
    · exact spans_more b w hk hr (by omega)
end Go.Proofs.Ythphgppgdlimeaa
