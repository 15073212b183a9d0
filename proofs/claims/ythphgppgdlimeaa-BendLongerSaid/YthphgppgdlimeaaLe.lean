/- The reference: Bends, Developed, Cut, Mass; total. -/
import Derived.Test.YthphgppgdlimeaaLd
import Derived.Deep.CutBlock
namespace Go.Proofs.Ythphgppgdlimeaa
open Go.ChangeShapes Go.WideShapes Go.ChangeAt Go.RowKit
set_option linter.unusedVariables false
set_option linter.unusedSimpArgs false

set_option maxHeartbeats 8000000 in
set_option maxRecDepth 100000 in
theorem rBends_ok (b : Bar) (w : World) (hk : b.Ok w) (hv : barB b = true) : Calls Try.prog 22 #[b.val] w fun e w' => e = .returned (.int .i64 ((nl b.code : Int) - 1)) ∧ Below w.heap.size w w' := by
  have hL : ∀ W, Below w.heap.size w W → Calls Try.prog 52 #[b.val] W fun e w' => ∃ q c, e = .returned (.slice q (nl b.code) c) ∧ Below W.heap.size W w' := fun W h => (rLegs_any b W (hk.on h) hv).mono fun e w' ⟨v, e1, hR, hb⟩ => by
    obtain ⟨q, c, rfl, -⟩ := hR
    rw [legs_len] at e1
    exact ⟨q, c, e1, hb⟩
  have W1 : IntKind.i64.wrap ((nl b.code : Int) - 1) = (nl b.code : Int) - 1 := IntWalk.i64_in _ (by have := nl_le (barB_and hv).1; omega)
  have E := (Env.nil w).add w.heap.size 32 b.cs rfl
  have hcs : b.cs = #[.string b.mark, .int .i64 b.size, .int .i64 b.count, .int .i64 b.code, .slice b.p b.ds.length b.cap] := rfl
  have hvv : b.val = .agg b.cs := rfl
  rw [hcs] at E hvv
  rw [hvv] at hL ⊢
  clear hk hv hcs hvv
  generalize nl b.code = n at *
  have C := E.cells
  simp [BC, CF] at C
  go_enter Try.func22, Try.ntmps22
  go_wp2_with (first
    | (go_at_call 52; (with_reducible refine (hL _ (envb E)).mono ?_); rintro X wq ⟨q, c, rfl, hb⟩; replace E := E.on hb; replace C := E.cells; simp [BC, CF] at C; clear hb))
  go_ret
  exact ⟨rfl, envb E⟩
theorem s_rd {w0 w : World} {b : Bar} {g h : Nat} {x y : Int} (E : Env w0 w [⟨g, 24, #[.int .i64 x, .int .i64 y]⟩, ⟨h + 1, 24, #[.int .i64 0, .int .i64 0]⟩, ⟨h, 32, #[.string b.mark, .int .i64 b.size, .int .i64 b.count, .int .i64 b.code, .slice b.p b.ds.length b.cap]⟩]) :
    Env w0 w [⟨g, 24, #[.int .i64 x, .int .i64 y]⟩, ⟨h + 1, 24, #[.int .i64 0, .int .i64 0]⟩, ⟨h, 32, #[.string b.mark, .int .i64 b.size, .int .i64 b.count, .int .i64 b.code, .slice b.p b.ds.length b.cap]⟩] ∧ w.cell? ⟨g, 0, none⟩ = some (.int .i64 x) ∧ w.cell? ⟨g, 1, none⟩ = some (.int .i64 y) ∧
      w.cell? ⟨h, 0, none⟩ = some (.string b.mark) ∧ w.cell? ⟨h, 1, none⟩ = some (.int .i64 b.size) ∧ w.cell? ⟨h, 2, none⟩ = some (.int .i64 b.count) ∧ w.cell? ⟨h, 3, none⟩ = some (.int .i64 b.code) ∧ w.cell? ⟨h, 4, none⟩ = some (.slice b.p b.ds.length b.cap) := by
  have C := E.cells
  simp [BC, CF] at C
  obtain ⟨⟨-, ⟨a0, -⟩, a1, -⟩, -, -, ⟨c0, -⟩, ⟨c1, -⟩, ⟨c2, -⟩, ⟨c3, -⟩, c4, -⟩ := C
  exact ⟨E, a0, a1, c0, c1, c2, c3, c4⟩
set_option maxHeartbeats 16000000 in
set_option maxRecDepth 100000 in
theorem rDev_ok (b : Bar) (w : World) (hk : b.Ok w) (hv : barB b = true) : Calls Try.prog 23 #[b.val] w fun e w' => e = .returned (two (devL b) (devH b)) ∧ Below w.heap.size w w' := by
  have hL := fun W (h : Below w.heap.size w W) => rLegs_any b W (hk.on h) hv
  have hB := fun W (h : Below w.heap.size w W) => rBends_ok b W (hk.on h) hv
  have hA := fun W => rAlw_ok b.size (barB_and hv).2.2.2.2.1 W
  have n6 := nl_le (barB_and hv).1
  have n0 := nl_pos (barB_and hv).1
  have hr := alwL_e (rd_bn (barB_and hv).2.2.2.2.1)
  have hd := dev_bd hv
  have e1 : devL b = 1000 * (legs b).sum - ((nl b.code : Int) - 1) * alwH (bn b.size) := rfl
  have e2 : devH b = 1000 * (legs b).sum - ((nl b.code : Int) - 1) * alwL (bn b.size) := rfl
  have hs := legs_sum hv
  have hz := (pt_sum hv _ (Nat.le_refl _)).2
  rw [List.take_of_length_le (by rw [legs_len]; omega)] at hz
  have m1 := six_mul (k := nl b.code) n6 (a := alwL (bn b.size)) (by omega)
  have m2 := six_mul (k := nl b.code) n6 (a := alwH (bn b.size)) (by omega)
  rw [show ((nl b.code - 1 : Nat) : Int) = (nl b.code : Int) - 1 by omega] at m1 m2
  have W1 : IntKind.i64.wrap (((nl b.code : Int) - 1) * alwL (bn b.size)) = ((nl b.code : Int) - 1) * alwL (bn b.size) := IntWalk.i64_in _ (by omega)
  have W2 : IntKind.i64.wrap (((nl b.code : Int) - 1) * alwH (bn b.size)) = ((nl b.code : Int) - 1) * alwH (bn b.size) := IntWalk.i64_in _ (by omega)
  have W3 : IntKind.i64.wrap (1000 * (legs b).sum - ((nl b.code : Int) - 1) * alwL (bn b.size)) = devH b := by rw [← e2]; exact IntWalk.i64_in _ (by omega)
  have W4 : IntKind.i64.wrap (1000 * (legs b).sum - ((nl b.code : Int) - 1) * alwH (bn b.size)) = devL b := by rw [← e1]; exact IntWalk.i64_in _ (by omega)
  have HS := Lib.hid (fun k (h : k < nl b.code) => show 1000 * ((legs b).take k).sum + 1000 * legF b k = 1000 * ((legs b).take (k + 1)).sum from by
    rw [List.take_succ_eq_append_getElem (by rw [legs_len]; omega), List.sum_append]
    have e : (legs b)[k]'(by rw [legs_len]; omega) = legF b k := by simp [legs]
    rw [e]; simp only [List.sum_cons, List.sum_nil]; omega)
  have HB := Lib.hid (fun k (h : k ≤ nl b.code) => show 0 ≤ ((legs b).take k).sum ∧ ((legs b).take k).sum ≤ 524288 from by
    have h1 := (pt_sum hv k h).2
    have h2 := take_le hv (nl b.code - k) (by omega)
    rw [show nl b.code - (nl b.code - k) = k by omega] at h2
    omega)
  have HF := Lib.hid (fun k (h : k < nl b.code) => leg_bd hv h)
  have HQ := Lib.hid (show legs b = (List.range (nl b.code)).map (legF b) from rfl)
  have HN := Lib.hid (legs_len b)
  have E := ((Env.nil w).add w.heap.size 32 b.cs rfl).add (w.heap.size + 1) 24 #[.int .i64 0, .int .i64 0] (by simp)
  have hcs : b.cs = #[.string b.mark, .int .i64 b.size, .int .i64 b.count, .int .i64 b.code, .slice b.p b.ds.length b.cap] := rfl
  have hvv : b.val = .agg b.cs := rfl
  rw [hcs] at E hvv
  rw [hvv] at hL hB ⊢
  unfold two at *
  clear hk hv hcs hvv hr hd e1 e2 m1 m2
  generalize alwL (bn b.size) = aL at *
  generalize alwH (bn b.size) = aH at *
  generalize devL b = RL at *
  generalize devH b = RH at *
  generalize legs b = LS at *
  generalize legF b = lf at *
  generalize (nl b.code : Int) - 1 = N1 at *
  generalize nl b.code = n at *
  generalize ((nl b.code : Nat) : Int) - 1 = N1 at *
  generalize N1 * aL = NL at *
  generalize N1 * aH = NH at *
  have C := E.cells
  simp [BC, CF] at C
  go_enter Try.func23, Try.ntmps23
  go_upto_region 2 with (go_at_call 52; (with_reducible refine (hL _ (envb E)).mono ?_); rintro X w1 ⟨v, rfl, hR, hb⟩; obtain ⟨q, c, rfl, hr⟩ := hR; replace E := E.on hb; replace C := E.cells; simp [BC, CF] at C; clear hb)
  have HR := Lib.hid hr
  clear hr
  rw [HN.out]
  go_wp2
  go_loop [4, 5] (fun v4 v5 => ∃ k : Nat, v4 = .int .i64 (1000 * (LS.take k).sum) ∧ v5 = .int .i64 k ∧ k ≤ n) (fun _ v => n - (intOf v).toNat)
  case atStart => exact ⟨0, by simp, rfl, Nat.zero_le _⟩
  case round =>
    obtain ⟨k, rfl, rfl, hk⟩ := hrel
    by_cases hlt : k < n
    · have g1 : decide ((k : Int) < (n : Int)) = true := by simp [hlt]
      have W5 : IntKind.i64.wrap ((k : Int) + 1) = ((k + 1 : Nat) : Int) := by rw [IntWalk.i64_in _ (by omega)]; omega
      have q1 : (0 : Int) ≤ (k : Int) := by omega
      have q2 : (k : Int) < (n : Int) := by omega
      obtain ⟨a, rfl, d0⟩ := HR.out k (by rw [HN.out]; omega)
      rw [show LS[k]'(by rw [HN.out]; omega) = lf k by simp [HQ.out]] at d0
      have f1 := HF.out k hlt
      have f2 := HB.out k hk
      have s := HS.out k hlt
      have f3 := HB.out (k + 1) hlt
      have W6 : IntKind.i64.wrap (1000 * lf k) = 1000 * lf k := IntWalk.i64_in _ (by omega)
      have W7 : IntKind.i64.wrap (1000 * (LS.take k).sum + 1000 * lf k) = 1000 * (LS.take (k + 1)).sum := by rw [s]; exact IntWalk.i64_in _ (by omega)
      clear s f1 f2 f3
      generalize 1000 * (LS.take k).sum = u at *
      go_wp2
      exact ⟨⟨k + 1, rfl, rfl, hlt⟩, by simp [intOf]; omega⟩
    · have g1 : decide ((k : Int) < (n : Int)) = false := by simp; omega
      obtain rfl : k = n := by omega
      rw [List.take_of_length_le (by rw [HN.out]; omega)]
      generalize 1000 * LS.sum = u at *
      go_upto_region 8 with (go_at_call 15; (with_reducible refine (hA _).mono ?_); rintro X wq ⟨rfl, hb⟩; replace E := E.on hb; replace E := E.add wq.heap.size 24 #[.int .i64 aL, .int .i64 aH] rfl; clear hb)
      obtain ⟨gs, hgs⟩ : ∃ g, wq.heap.size = g := ⟨_, rfl⟩
      rw [hgs] at E ⊢
      replace hgs := Lib.hid hgs
      refine wp_region_plan 15 [(0, true), (1, true), (3, true), (4, true), (7, true), (8, true), (10, true), (11, true), (2, false), (5, true), (6, true), (9, false), (12, true), (13, true), (14, true)] (fun W' => Env w W' [⟨gs, 24, #[.int .i64 aL, .int .i64 aH]⟩, ⟨w.heap.size + 1, 24, #[.int .i64 0, .int .i64 0]⟩, ⟨w.heap.size, 32, #[.string b.mark, .int .i64 b.size, .int .i64 b.count, .int .i64 b.code, .slice b.p b.ds.length b.cap]⟩] ∧ W'.cell? ⟨gs, 0, none⟩ = some (.int .i64 aL) ∧ W'.cell? ⟨gs, 1, none⟩ = some (.int .i64 aH) ∧ W'.cell? ⟨w.heap.size, 0, none⟩ = some (.string b.mark) ∧ W'.cell? ⟨w.heap.size, 1, none⟩ = some (.int .i64 b.size) ∧ W'.cell? ⟨w.heap.size, 2, none⟩ = some (.int .i64 b.count) ∧ W'.cell? ⟨w.heap.size, 3, none⟩ = some (.int .i64 b.code) ∧ W'.cell? ⟨w.heap.size, 4, none⟩ = some (.slice b.p b.ds.length b.cap)) (by kernel_rfl) (by kernel_rfl) (fun _ _ d _ _ h => by cases d <;> exact h) (s_rd E.drw) ?_
      simp only [List.filterMap_cons, List.filterMap_nil, List.getElem?_cons_zero, List.getElem?_cons_succ, Option.map_some, List.drop_succ_cons, List.drop_zero]
      replace E := E.drw
      iterate 8 (first | (refine wpPlan_still (v := ?_) (Or.inl ⟨by rfl, ?_⟩) ?_; rotate_left; (focus (intro W hW; (try dsimp only at hW); go_split_ands; go_simp; try with_reducible rfl)); try simp only [Act.put, List.setIfInBounds_toArray, List.set_cons_zero, List.set_cons_succ]) | (refine wpPlan_still (Or.inr ⟨by rfl, rfl⟩) ?_; try simp only [Act.put, List.setIfInBounds_toArray, List.set_cons_zero, List.set_cons_succ]))
      refine wpPlan_only (fun K hK => ?_)
      try go_simp
      (go_at_call 22; (with_reducible refine (hB _ (envb E)).mono ?_); rintro X wq ⟨rfl, hb⟩)
      replace E := E.on hb
      clear hb
      refine hK.out _ _ (s_rd E) ?_
      clear hK K
      try simp only [Act.put, List.setIfInBounds_toArray, List.set_cons_zero, List.set_cons_succ]
      iterate 2 (first | (refine wpPlan_still (v := ?_) (Or.inl ⟨by rfl, ?_⟩) ?_; rotate_left; (focus (intro W hW; (try dsimp only at hW); go_split_ands; go_simp; try with_reducible rfl)); try simp only [Act.put, List.setIfInBounds_toArray, List.set_cons_zero, List.set_cons_succ]) | (refine wpPlan_still (Or.inr ⟨by rfl, rfl⟩) ?_; try simp only [Act.put, List.setIfInBounds_toArray, List.set_cons_zero, List.set_cons_succ]))
      refine wpPlan_only (fun K hK => ?_)
      try go_simp
      (go_at_call 22; (with_reducible refine (hB _ (envb E)).mono ?_); rintro X wq ⟨rfl, hb⟩)
      replace E := E.on hb
      clear hb
      refine hK.out _ _ (s_rd E) ?_
      clear hK K
      try simp only [Act.put, List.setIfInBounds_toArray, List.set_cons_zero, List.set_cons_succ]
      iterate 3 (first | (refine wpPlan_still (v := ?_) (Or.inl ⟨by rfl, ?_⟩) ?_; rotate_left; (focus (intro W hW; (try dsimp only at hW); go_split_ands; go_simp; try with_reducible rfl)); try simp only [Act.put, List.setIfInBounds_toArray, List.set_cons_zero, List.set_cons_succ]) | (refine wpPlan_still (Or.inr ⟨by rfl, rfl⟩) ?_; try simp only [Act.put, List.setIfInBounds_toArray, List.set_cons_zero, List.set_cons_succ]))
      refine wpPlan_end ?_
      replace C := E.cells
      simp [BC, CF] at C
      go_wp2_with fail
      exact bodyPost_ret (v := .agg #[.int .i64 RL, .int .i64 RH]) (by simp [results, Try.results23, go_sem, *]) rfl ⟨rfl, envb2 (E.put2 _ _ 1 rfl)⟩
end Go.Proofs.Ythphgppgdlimeaa
