/- parts, Bends, Developed of the program. -/
import Derived.Test.YthphgppgdlimeaaLb
import Derived.Test.YthphgppgdlimeaaLg
import Derived.Test.YthphgppgdlimeaaPl
import Derived.Deep.CutBlock
namespace Go.Proofs.Ythphgppgdlimeaa
open Go.ChangeShapes Go.WideShapes Go.ChangeAt Go.RowKit
set_option linter.unusedVariables false
set_option linter.unusedSimpArgs false

theorem alwL_e {r : Int} (h : Rr r) : 0 ≤ alwL r ∧ alwL r ≤ alwH r ∧ alwH r ≤ 2000000 := by
  unfold Rr at h
  unfold alwL alwH
  rw [arcL_e h.1, arcH_e h.1]
  omega
/-- Sums of legs less so many corners. -/
def dvA (b : Bar) (a : Int) (k : Nat) : Int := 1000 * ((legs b).take k).sum - ((k - 1 : Nat) : Int) * a
def devL (b : Bar) : Int := 1000 * (legs b).sum - ((nl b.code : Int) - 1) * alwH (bn b.size)
def devH (b : Bar) : Int := 1000 * (legs b).sum - ((nl b.code : Int) - 1) * alwL (bn b.size)
theorem dvA_end {b : Bar} (h : barB b = true) (a : Int) : dvA b a (nl b.code) = 1000 * (legs b).sum - ((nl b.code : Int) - 1) * a := by
  have n0 := nl_pos (barB_and h).1
  unfold dvA
  rw [List.take_of_length_le (by rw [legs_len]; omega), show ((nl b.code - 1 : Nat) : Int) = (nl b.code : Int) - 1 by omega]
theorem dvA_zero (b : Bar) (a : Int) : dvA b a 0 = 0 := by simp [dvA]
theorem dvA_one {b : Bar} (h : barB b = true) (a : Int) : 1000 * legF b 0 = dvA b a 1 := by
  have n0 := nl_pos (barB_and h).1
  unfold dvA
  rw [List.take_succ_eq_append_getElem (by rw [legs_len]; omega)]
  simp [legs]
theorem dvA_step {b : Bar} (h : barB b = true) (a : Int) {k : Nat} (hk : k < nl b.code) (h0 : 0 < k) : dvA b a k + 1000 * legF b k + -a = dvA b a (k + 1) := by
  unfold dvA
  rw [List.take_succ_eq_append_getElem (by rw [legs_len]; omega), List.sum_append]
  obtain ⟨m, rfl⟩ : ∃ m, k = m + 1 := ⟨k - 1, by omega⟩
  have e : (legs b)[m + 1]'(by rw [legs_len]; omega) = legF b (m + 1) := by simp [legs]
  rw [e]
  simp only [List.sum_cons, List.sum_nil, Nat.add_sub_cancel]
  have e2 : ((m + 1 : Nat) : Int) * a = (m : Int) * a + a := by rw [Int.natCast_add, Int.add_mul]; simp
  rw [e2]
  omega
theorem six_mul {k : Nat} (hk : k ≤ 6) {a : Int} (h : 0 ≤ a ∧ a ≤ 2000000) : 0 ≤ ((k - 1 : Nat) : Int) * a ∧ ((k - 1 : Nat) : Int) * a ≤ 12000000 := by
  rcases (by omega : k = 0 ∨ k = 1 ∨ k = 2 ∨ k = 3 ∨ k = 4 ∨ k = 5 ∨ k = 6) with rfl | rfl | rfl | rfl | rfl | rfl | rfl <;> simp <;> omega
theorem dvA_bd {b : Bar} (h : barB b = true) {a : Int} (ha : 0 ≤ a ∧ a ≤ 2000000) {k : Nat} (hk : k ≤ nl b.code) : -12000000 ≤ dvA b a k ∧ dvA b a k ≤ 524288000 := by
  have h1 := (pt_sum h k hk).2
  have h2 := take_le h (nl b.code - k) (by omega)
  rw [show nl b.code - (nl b.code - k) = k by omega] at h2
  have h3 := legs_sum h
  have n6 := nl_le (barB_and h).1
  have := six_mul (Nat.le_trans hk n6) ha
  unfold dvA
  omega
theorem dev_bd {b : Bar} (h : barB b = true) : (-12000000 ≤ devL b ∧ devL b ≤ 524288000) ∧ -12000000 ≤ devH b ∧ devH b ≤ 524288000 := by
  have ha := alwL_e (rd_bn (barB_and h).2.2.2.2.1)
  have h1 := dvA_bd h (a := alwH (bn b.size)) (by omega) (Nat.le_refl _)
  have h2 := dvA_bd h (a := alwL (bn b.size)) (by omega) (Nat.le_refl _)
  rw [dvA_end h] at h1 h2
  exact ⟨h1, h2⟩
set_option maxHeartbeats 8000000 in
set_option maxRecDepth 100000 in
theorem parts_no (b : Bar) (w : World) (hk : b.Ok w) (hv : barB b = false) : Calls Try.prog 45 #[b.val] w fun e w' => e = .returned (.tuple #[.slice none 0 0, .int .i64 0, .int .i64 1]) ∧ Below w.heap.size w w' := by
  have hL := fun W (h : Below w.heap.size w W) => Legs_no b W (hk.on h) hv
  have E := (Env.nil w).add w.heap.size 32 b.cs rfl
  obtain ⟨mk, sz, ct, cd, p, ds, cap⟩ := b
  simp only [Bar.cs, Bar.val] at *
  have C := E.cells
  simp [BC, CF] at C
  clear hk hv
  go_enter Try.func45, Try.ntmps45
  go_wp2_with (first
    | (go_at_call 30; (with_reducible refine (hL _ (envb E)).mono ?_); rintro X wq ⟨rfl, hb⟩; replace E := E.on hb; replace C := E.cells; simp [BC, CF] at C; clear hb))
  exact bodyPost_ret (v := .tuple #[.slice none 0 0, .int .i64 0, .int .i64 1]) (by simp [results, Try.results45, go_sem]) rfl ⟨rfl, envb E⟩
set_option maxHeartbeats 8000000 in
set_option maxRecDepth 100000 in
theorem parts_ok (b : Bar) (w : World) (hk : b.Ok w) (hv : barB b = true) : Calls Try.prog 45 #[b.val] w fun e w' => ∃ g, e = .returned (.tuple #[.slice (some ⟨g, 0, none⟩) (nl b.code) (mc b.code), .int .i64 (bn b.size), .int .i64 0]) ∧ Rdz w' (.slice (some ⟨g, 0, none⟩) (nl b.code) (mc b.code)) (legs b) ∧ Below w.heap.size w w' := by
  have hL := fun W (h : Below w.heap.size w W) => Legs_ok b W (hk.on h) hv
  have hB := fun W => bend_ok b.size (barB_and hv).2.2.2.2.1 W
  have E := (Env.nil w).add w.heap.size 32 b.cs rfl
  have e0 : b.cs = #[.string b.mark, .int .i64 b.size, .int .i64 b.count, .int .i64 b.code, .slice b.p b.ds.length b.cap] := rfl
  have e1 : b.val = .agg b.cs := rfl
  rw [e0] at E e1
  rw [e1] at hL ⊢
  clear hk hv e0 e1
  generalize legs b = LS at *
  generalize nl b.code = n at *
  generalize mc b.code = m at *
  generalize bn b.size = r at *
  have C := E.cells
  simp [BC, CF] at C
  go_enter Try.func45, Try.ntmps45
  go_wp2_with (first
    | (go_at_call 30; (with_reducible refine (hL _ (envb E)).mono ?_); rintro X wq ⟨g, rfl, hR, hb⟩; replace E := E.on hb; replace C := E.cells; simp [BC, CF] at C; clear hb)
    | (go_at_call 31; (with_reducible refine (hB _).mono ?_); rintro X wq ⟨rfl, hb⟩; replace E := E.on hb; replace hR := hR.on hb; replace C := E.cells; simp [BC, CF] at C; clear hb))
  exact bodyPost_ret (v := .tuple #[.slice (some ⟨g, 0, none⟩) n m, .int .i64 r, .int .i64 0]) (by simp [results, Try.results45, go_sem]) rfl ⟨g, rfl, hR, envb E⟩
set_option maxHeartbeats 8000000 in
set_option maxRecDepth 100000 in
theorem Bends_no (b : Bar) (w : World) (hk : b.Ok w) (hv : barB b = false) : Calls Try.prog 17 #[b.val] w fun e w' => e = .returned (.tuple #[.int .i64 0, .int .i64 1]) ∧ Below w.heap.size w w' := by
  have hL := fun W (h : Below w.heap.size w W) => Legs_no b W (hk.on h) hv
  have E := (Env.nil w).add w.heap.size 32 b.cs rfl
  have e0 : b.cs = #[.string b.mark, .int .i64 b.size, .int .i64 b.count, .int .i64 b.code, .slice b.p b.ds.length b.cap] := rfl
  have e1 : b.val = .agg b.cs := rfl
  rw [e0] at E e1
  rw [e1] at hL ⊢
  clear hk hv e0 e1
  have C := E.cells
  simp [BC, CF] at C
  go_enter Try.func17, Try.ntmps17
  go_wp2_with (first
    | (go_at_call 30; (with_reducible refine (hL _ (envb E)).mono ?_); rintro X wq ⟨rfl, hb⟩; replace E := E.on hb; replace C := E.cells; simp [BC, CF] at C; clear hb))
  exact bodyPost_ret (v := .tuple #[.int .i64 0, .int .i64 1]) (by simp [results, Try.results17, go_sem]) rfl ⟨rfl, envb E⟩
set_option maxHeartbeats 8000000 in
set_option maxRecDepth 100000 in
theorem Bends_ok (b : Bar) (w : World) (hk : b.Ok w) (hv : barB b = true) : Calls Try.prog 17 #[b.val] w fun e w' => e = .returned (.tuple #[.int .i64 ((nl b.code : Int) - 1), .int .i64 0]) ∧ Below w.heap.size w w' := by
  have hL := fun W (h : Below w.heap.size w W) => Legs_ok b W (hk.on h) hv
  have W1 : IntKind.i64.wrap ((nl b.code : Int) - 1) = (nl b.code : Int) - 1 := IntWalk.i64_in _ (by have := nl_le (barB_and hv).1; omega)
  have E := (Env.nil w).add w.heap.size 32 b.cs rfl
  have e0 : b.cs = #[.string b.mark, .int .i64 b.size, .int .i64 b.count, .int .i64 b.code, .slice b.p b.ds.length b.cap] := rfl
  have e1 : b.val = .agg b.cs := rfl
  rw [e0] at E e1
  rw [e1] at hL ⊢
  clear hk hv e0 e1
  generalize legs b = LS at *
  generalize nl b.code = n at *
  generalize mc b.code = m at *
  have C := E.cells
  simp [BC, CF] at C
  go_enter Try.func17, Try.ntmps17
  go_wp2_with (first
    | (go_at_call 30; (with_reducible refine (hL _ (envb E)).mono ?_); rintro X wq ⟨g, rfl, hR, hb⟩; replace E := E.on hb; replace C := E.cells; simp [BC, CF] at C; clear hb))
  exact bodyPost_ret (v := .tuple #[.int .i64 ((n : Int) - 1), .int .i64 0]) (by simp [results, Try.results17, go_sem]) rfl ⟨rfl, envb E⟩
set_option maxHeartbeats 8000000 in
set_option maxRecDepth 100000 in
theorem Dev_no (b : Bar) (w : World) (hk : b.Ok w) (hv : barB b = false) : Calls Try.prog 18 #[b.val] w fun e w' => e = .returned (.tuple #[two 0 0, .int .i64 1]) ∧ Below w.heap.size w w' := by
  have hL := fun W (h : Below w.heap.size w W) => parts_no b W (hk.on h) hv
  have E := ((Env.nil w).add w.heap.size 32 b.cs rfl).add (w.heap.size + 1) 24 #[.int .i64 0, .int .i64 0] (by simp)
  obtain ⟨mk, sz, ct, cd, p, ds, cap⟩ := b
  simp only [Bar.cs, Bar.val, two] at *
  have C := E.cells
  simp [BC, CF] at C
  clear hk hv
  go_enter Try.func18, Try.ntmps18
  go_wp2_with (first
    | (go_at_call 45; (with_reducible refine (hL _ (envb E)).mono ?_); rintro X wq ⟨rfl, hb⟩; replace E := E.on hb; replace C := E.cells; simp [BC, CF] at C; clear hb))
  exact bodyPost_ret (v := .tuple #[.agg #[.int .i64 0, .int .i64 0], .int .i64 1]) (by simp [results, Try.results18, go_sem, *]) rfl ⟨rfl, envb2 (E.put2 _ _ 0 rfl)⟩
theorem s_dv {w0 w : World} {g : Nat} {x y : Int} (E : Env w0 w [⟨g, 62, #[.int .i64 x, .int .i64 y]⟩]) : Env w0 w [⟨g, 62, #[.int .i64 x, .int .i64 y]⟩] ∧ w.cell? ⟨g, 0, none⟩ = some (.int .i64 x) ∧ w.cell? ⟨g, 1, none⟩ = some (.int .i64 y) := by
  have C := E.cells
  simp [BC, CF] at C
  exact ⟨E, C.2.1.1, C.2.2.1⟩
set_option maxHeartbeats 16000000 in
set_option maxRecDepth 100000 in
theorem Dev_ok (b : Bar) (w : World) (hk : b.Ok w) (hv : barB b = true) : Calls Try.prog 18 #[b.val] w fun e w' => e = .returned (.tuple #[two (devL b) (devH b), .int .i64 0]) ∧ Below w.heap.size w w' := by
  have hL := fun W (h : Below w.heap.size w W) => parts_ok b W (hk.on h) hv
  have E := ((Env.nil w).add w.heap.size 32 b.cs rfl).add (w.heap.size + 1) 24 #[.int .i64 0, .int .i64 0] (by simp)
  have hr := rd_bn (barB_and hv).2.2.2.2.1
  have ha := alwL_e hr
  have hA := fun W => alwof_any (bn b.size) hr W
  have n6 := nl_le (barB_and hv).1
  have HE := Lib.hid (show dvA b (alwH (bn b.size)) (nl b.code) = devL b ∧ dvA b (alwL (bn b.size)) (nl b.code) = devH b from ⟨dvA_end hv _, dvA_end hv _⟩)
  have H0 := Lib.hid (show dvA b (alwH (bn b.size)) 0 = 0 ∧ dvA b (alwL (bn b.size)) 0 = 0 from ⟨dvA_zero b _, dvA_zero b _⟩)
  have H1 := Lib.hid (show 1000 * legF b 0 = dvA b (alwH (bn b.size)) 1 ∧ 1000 * legF b 0 = dvA b (alwL (bn b.size)) 1 from ⟨dvA_one hv _, dvA_one hv _⟩)
  have HS := Lib.hid (fun k (h : k < nl b.code) (h0 : 0 < k) => And.intro (dvA_step hv (alwH (bn b.size)) h h0) (dvA_step hv (alwL (bn b.size)) h h0))
  have HB := Lib.hid (fun k (h : k ≤ nl b.code) => And.intro (dvA_bd hv (a := alwH (bn b.size)) (by omega) h) (dvA_bd hv (a := alwL (bn b.size)) (by omega) h))
  have HF := Lib.hid (fun k (h : k < nl b.code) => leg_bd hv h)
  have HQ := Lib.hid (show legs b = (List.range (nl b.code)).map (legF b) from rfl)
  have hcs : b.cs = #[.string b.mark, .int .i64 b.size, .int .i64 b.count, .int .i64 b.code, .slice b.p b.ds.length b.cap] := rfl
  have hvv : b.val = .agg b.cs := rfl
  rw [hcs] at E hvv
  rw [hvv] at hL ⊢
  clear hk hv hcs hvv hr
  generalize dvA b (alwH (bn b.size)) = DA at *
  generalize dvA b (alwL (bn b.size)) = DB at *
  generalize alwL (bn b.size) = aL at *
  generalize alwH (bn b.size) = aH at *
  generalize bn b.size = r at *
  generalize devL b = RL at *
  generalize devH b = RH at *
  generalize legs b = LS at *
  generalize legF b = lf at *
  generalize nl b.code = n at *
  generalize mc b.code = m at *
  have hN := fun W => neg_any aL aH (by unfold Bd; omega) (by unfold Bd; omega) W
  unfold two at *
  have C := E.cells
  simp [BC, CF] at C
  go_enter Try.func18, Try.ntmps18
  go_upto_region 4 with (go_at_call 45; (with_reducible refine (hL _ (envb E)).mono ?_); rintro X w1 ⟨gL, rfl, hR, hb⟩; replace E := E.on hb; replace C := E.cells; simp [BC, CF] at C; clear hb)
  have EW := E
  have HR := Lib.hid hR
  have E3 := (Env.nil w1).add w1.heap.size 62 #[.int .i64 0, .int .i64 0] rfl
  have C3 := E3.cells
  simp [BC, CF] at C3
  clear hR
  go_wp2
  go_loopw [23] (fun v23 wr => ∃ k : Nat, v23 = .int .i64 k ∧ k ≤ n ∧ Env w1 wr [⟨w1.heap.size, 62, #[.int .i64 (DA k), .int .i64 (DB k)]⟩]) (fun v _ => n - (intOf v).toNat)
  case atStart => exact ⟨0, rfl, Nat.zero_le _, by rw [H0.out.1, H0.out.2]; exact E3⟩
  case round =>
    clear E E3 C C3
    obtain ⟨k, rfl, hk, E3⟩ := hrel
    have C3 := E3.cells
    simp [BC, CF] at C3
    by_cases hlt : k < n
    · have g1 : decide ((k : Int) < (n : Int)) = true := by simp [hlt]
      have W1 : IntKind.i64.wrap ((k : Int) + 1) = ((k + 1 : Nat) : Int) := by rw [IntWalk.i64_in _ (by omega)]; omega
      have q1 : (0 : Int) ≤ (k : Int) := by omega
      have q2 : (k : Int) < (n : Int) := by omega
      obtain ⟨q, c, e0, hr⟩ := HR.out
      simp only [Value.slice.injEq] at e0
      obtain ⟨rfl, e1, -⟩ := e0
      obtain ⟨a, ea, d0⟩ := hr k (by omega)
      cases ea
      rw [Addr.add_lit, Nat.zero_add] at d0
      have d2 := cellLater E3.1 d0
      rw [show LS[k] = lf k by simp [HQ.out]] at d2
      clear d0 hr e1
      have hx := fun W => exactly_any (lf k) (by have := HF.out k hlt; unfold Bd; omega) W
      have hp := fun W => plus_any (DA k) (DB k) (1000 * lf k) (1000 * lf k) (by have := (HB.out k hk).1; unfold Bd; omega) (by have := (HB.out k hk).2; unfold Bd; omega) (by have := HF.out k hlt; unfold Bd; omega) (by have := HF.out k hlt; unfold Bd; omega) W
      have HE1 : Hid ((0 < k → ∀ W, Calls Try.prog 46 #[two (DA k + 1000 * lf k) (DB k + 1000 * lf k), two (-aH) (-aL)] W fun e w' => e = .returned (two (DA (k + 1)) (DB (k + 1))) ∧ Below W.heap.size W w')) := Lib.hid fun h0 W => by
        have s := HS.out k hlt h0
        have b1 := HB.out k hk
        have b2 := HF.out k hlt
        rw [← s.1, ← s.2]
        exact plus_any _ _ _ _ (by unfold Bd; omega) (by unfold Bd; omega) (by unfold Bd; omega) (by unfold Bd; omega) W
      have HE2 : Hid (k = 0 → DA k + 1000 * lf k = DA (k + 1) ∧ DB k + 1000 * lf k = DB (k + 1)) := Lib.hid fun h0 => by
        subst h0
        rw [H0.out.1, H0.out.2]
        exact ⟨by rw [← H1.out.1]; omega, by rw [← H1.out.2]; omega⟩
      unfold two at *
      generalize hA2 : DA (k + 1) = a2 at *
      generalize hB2 : DB (k + 1) = b2 at *
      have HA2 := Lib.hid hA2
      have HB2 := Lib.hid hB2
      clear hA2 hB2
      generalize DA k + 1000 * lf k = a1 at *
      generalize DB k + 1000 * lf k = b1 at *
      generalize DA k = a0 at *
      generalize DB k = b0 at *
      generalize 1000 * lf k = ml at *
      go_upto_region 8 with fail
      refine wp_region_plan 4 [(0, true), (1, true), (2, false), (3, false)] (fun W' => Env w1 W' [⟨w1.heap.size, 62, #[.int .i64 a0, .int .i64 b0]⟩] ∧ W'.cell? ⟨w1.heap.size, 0, none⟩ = some (.int .i64 a0) ∧ W'.cell? ⟨w1.heap.size, 1, none⟩ = some (.int .i64 b0)) (by kernel_rfl) (by kernel_rfl) (fun _ _ d _ _ h => by cases d <;> exact h) (s_dv E3.drw) ?_
      simp only [List.filterMap_cons, List.filterMap_nil, List.getElem?_cons_zero, List.getElem?_cons_succ, Option.map_some, List.drop_succ_cons, List.drop_zero]
      replace E3 := E3.drw
      iterate 2 (first | (refine wpPlan_still (v := ?_) (Or.inl ⟨by rfl, ?_⟩) ?_; rotate_left; (focus (intro W hW; (try dsimp only at hW); go_split_ands; go_simp; try with_reducible rfl)); try simp only [Act.put, List.setIfInBounds_toArray, List.set_cons_zero, List.set_cons_succ]) | (refine wpPlan_still (Or.inr ⟨by rfl, rfl⟩) ?_; try simp only [Act.put, List.setIfInBounds_toArray, List.set_cons_zero, List.set_cons_succ]))
      refine wpPlan_only (fun K hK => ?_)
      try go_simp
      (go_at_call 47; (with_reducible refine (hx _).mono ?_); rintro X wq ⟨rfl, hb⟩)
      replace E3 := E3.on hb
      clear hb
      refine hK.out _ _ (s_dv E3) ?_
      clear hK K
      try simp only [Act.put, List.setIfInBounds_toArray, List.set_cons_zero, List.set_cons_succ]
      refine wpPlan_only (fun K hK => ?_)
      try go_simp
      (go_at_call 46; (with_reducible refine (hp _).mono ?_); rintro X wq ⟨rfl, hb⟩)
      replace E3 := E3.on hb
      clear hb
      refine hK.out _ _ (s_dv E3) ?_
      clear hK K
      try simp only [Act.put, List.setIfInBounds_toArray, List.set_cons_zero, List.set_cons_succ]
      refine wpPlan_end ?_
      replace C3 := E3.cells
      simp [BC, CF] at C3
      go_upto_region 9 with fail
      replace E3 := E3.put2 (.int .i64 a1) (.int .i64 b1) 0 rfl
      simp only [numB] at E3
      generalize ((wq.setCell ⟨w1.heap.size, 0, none⟩ (.int .i64 a1)).setCell ⟨w1.heap.size, 1, none⟩ (.int .i64 b1)) = w5 at *
      replace E3 : Env w1 w5 [⟨w1.heap.size, 62, #[.int .i64 a1, .int .i64 b1]⟩] := E3
      replace C3 := E3.cells
      simp [BC, CF] at C3
      clear d2 hx hp
      by_cases h0 : k = 0
      · obtain ⟨rfl, rfl⟩ := HE2.out h0
        subst h0
        go_wp2
        go_roundw
        · exact ⟨1, by simp, hlt, by rw [show DA 1 = a1 from HA2.out, show DB 1 = b1 from HB2.out]; exact E3⟩
        · simp [intOf]; omega
      · have t1 : decide ((k : Int) > 0) = true := by simp; omega
        have t2 : decide ((0 : Int) < (k : Int)) = true := by simp; omega
        have t3 : decide (0 < k) = true := by simp; omega
        have t4 : 0 < k := by omega
        have hq := HE1.out t4
        go_upto_region 10 with fail
        refine wp_region_plan 5 [(0, true), (1, true), (2, false), (3, false), (4, false)] (fun W' => Env w1 W' [⟨w1.heap.size, 62, #[.int .i64 a1, .int .i64 b1]⟩] ∧ W'.cell? ⟨w1.heap.size, 0, none⟩ = some (.int .i64 a1) ∧ W'.cell? ⟨w1.heap.size, 1, none⟩ = some (.int .i64 b1)) (by kernel_rfl) (by kernel_rfl) (fun _ _ d _ _ h => by cases d <;> exact h) (s_dv E3.drw) ?_
        simp only [List.filterMap_cons, List.filterMap_nil, List.getElem?_cons_zero, List.getElem?_cons_succ, Option.map_some, List.drop_succ_cons, List.drop_zero]
        replace E3 := E3.drw
        iterate 2 (first | (refine wpPlan_still (v := ?_) (Or.inl ⟨by rfl, ?_⟩) ?_; rotate_left; (focus (intro W hW; (try dsimp only at hW); go_split_ands; go_simp; try with_reducible rfl)); try simp only [Act.put, List.setIfInBounds_toArray, List.set_cons_zero, List.set_cons_succ]) | (refine wpPlan_still (Or.inr ⟨by rfl, rfl⟩) ?_; try simp only [Act.put, List.setIfInBounds_toArray, List.set_cons_zero, List.set_cons_succ]))
        refine wpPlan_only (fun K hK => ?_)
        try go_simp
        (go_at_call 42; (with_reducible refine (hA _).mono ?_); rintro X wq ⟨rfl, hb⟩)
        replace E3 := E3.on hb
        clear hb
        refine hK.out _ _ (s_dv E3) ?_
        clear hK K
        try simp only [Act.put, List.setIfInBounds_toArray, List.set_cons_zero, List.set_cons_succ]
        refine wpPlan_only (fun K hK => ?_)
        try go_simp
        (go_at_call 48; (with_reducible refine (hN _).mono ?_); rintro X wq ⟨rfl, hb⟩)
        replace E3 := E3.on hb
        clear hb
        refine hK.out _ _ (s_dv E3) ?_
        clear hK K
        try simp only [Act.put, List.setIfInBounds_toArray, List.set_cons_zero, List.set_cons_succ]
        refine wpPlan_only (fun K hK => ?_)
        try go_simp
        (go_at_call 46; (with_reducible refine (hq _).mono ?_); rintro X wq ⟨rfl, hb⟩)
        replace E3 := E3.on hb
        clear hb
        refine hK.out _ _ (s_dv E3) ?_
        clear hK K
        try simp only [Act.put, List.setIfInBounds_toArray, List.set_cons_zero, List.set_cons_succ]
        refine wpPlan_end ?_
        replace C3 := E3.cells
        simp [BC, CF] at C3
        go_upto_region 11 with fail
        replace E3 := E3.put2 (.int .i64 a2) (.int .i64 b2) 0 rfl
        simp only [numB] at E3
        generalize ((wq.setCell ⟨w1.heap.size, 0, none⟩ (.int .i64 a2)).setCell ⟨w1.heap.size, 1, none⟩ (.int .i64 b2)) = w6 at *
        replace E3 : Env w1 w6 [⟨w1.heap.size, 62, #[.int .i64 a2, .int .i64 b2]⟩] := E3
        go_wp2
        go_roundw
        · exact ⟨k + 1, rfl, hlt, by rw [HA2.out, HB2.out]; exact E3⟩
        · simp [intOf]; omega
    · have g1 : decide ((k : Int) < (n : Int)) = false := by simp; omega
      obtain rfl : k = n := by omega
      rw [HE.out.1, HE.out.2] at E3 C3
      have E4 := EW.on E3.1
      have C4 := E4.cells
      simp [BC, CF] at C4
      go_wp2
      exact bodyPost_ret (v := .tuple #[.agg #[.int .i64 RL, .int .i64 RH], .int .i64 0]) (by simp [results, Try.results18, go_sem, *]) rfl ⟨rfl, envb2 (E4.put2 _ _ 0 rfl)⟩
end Go.Proofs.Ythphgppgdlimeaa
