/- The reference: Cut, Mass; total; awake; BendArcs. -/
import Derived.Test.YthphgppgdlimeaaLe
import Derived.Deep.CutBlock
namespace Go.Proofs.Ythphgppgdlimeaa
open Go.ChangeShapes Go.WideShapes Go.ChangeAt Go.RowKit
set_option linter.unusedVariables false
set_option linter.unusedSimpArgs false

theorem fld24 (a b : Value) (W : World) : Sem.run Try.prog (Instr.field 24 (.agg #[a, b]) 1) W = .ok b W := by
  simp [Instr.field, go_sem, Program.fieldsOf, Try.underlying24]
  rfl
set_option maxHeartbeats 8000000 in
set_option maxRecDepth 100000 in
theorem rCut_ok (b : Bar) (w : World) (hk : b.Ok w) (hv : barB b = true) : Calls Try.prog 24 #[b.val] w fun e w' => e = .returned (.int .i64 (cutB b)) ∧ Below w.heap.size w w' := by
  have hL := fun W (h : Below w.heap.size w W) => rDev_ok b W (hk.on h) hv
  have hfd := fun a b W => fld24 a b W
  have E := (Env.nil w).add w.heap.size 32 b.cs rfl
  have hd := (dev_bd hv).2
  have hc := cut_bd hv
  have e0 : (max (devH b) 1 + 4999).tdiv 5000 * 5 = cutB b := rfl
  have hcs : b.cs = #[.string b.mark, .int .i64 b.size, .int .i64 b.count, .int .i64 b.code, .slice b.p b.ds.length b.cap] := rfl
  have hvv : b.val = .agg b.cs := rfl
  rw [hcs] at E hvv
  rw [hvv] at hL ⊢
  unfold two at hL
  clear hk hv hcs hvv
  have C := E.cells
  simp [BC, CF] at C
  by_cases h0 : 0 < devH b
  · rw [show max (devH b) 1 = devH b by omega] at e0
    have W0 : IntKind.i64.wrap (devH b + 4999) = devH b + 4999 := IntWalk.i64_in _ (by omega)
    have W1 : IntKind.i64.wrap ((devH b + 4999).tdiv 5000) = (devH b + 4999).tdiv 5000 := IntWalk.i64_in _ (by omega)
    have W2 : IntKind.i64.wrap ((devH b + 4999).tdiv 5000 * 5) = cutB b := by rw [e0]; exact IntWalk.i64_in _ (by omega)
    have W3 : max 5 (cutB b) = cutB b := by omega
    have g0 : decide (devH b > 0) = true := by simp [h0]
    have g1 : decide (0 < devH b) = true := by simp [h0]
    clear e0 h0 hd hc
    generalize cutB b = cut at *
    generalize devL b = dl at *
    generalize devH b = dh at *
    go_enter Try.func24, Try.ntmps24
    go_wp2_with (first
      | (go_at_call 23; (with_reducible refine (hL _ (envb E)).mono ?_); rintro X wq ⟨rfl, hb⟩; replace E := E.on hb; replace C := E.cells; simp [BC, CF] at C; clear hb))
    go_ret
    exact ⟨rfl, envb E⟩
  · rw [show max (devH b) 1 = 1 by omega] at e0
    have e1 : cutB b = 5 := e0.symm
    have g0 : decide (devH b > 0) = false := by simp; omega
    have g1 : decide (0 < devH b) = false := by simp; omega
    rw [e1]
    clear e0 e1 hd hc
    generalize devL b = dl at *
    generalize devH b = dh at *
    go_enter Try.func24, Try.ntmps24
    go_wp2_with (first
      | (go_at_call 23; (with_reducible refine (hL _ (envb E)).mono ?_); rintro X wq ⟨rfl, hb⟩; replace E := E.on hb; replace C := E.cells; simp [BC, CF] at C; clear hb))
    go_ret
    exact ⟨rfl, envb E⟩
theorem s_bk {w0 w : World} {b : Bar} {h : Nat} (E : Env w0 w [⟨h, 32, #[.string b.mark, .int .i64 b.size, .int .i64 b.count, .int .i64 b.code, .slice b.p b.ds.length b.cap]⟩]) :
    Env w0 w [⟨h, 32, #[.string b.mark, .int .i64 b.size, .int .i64 b.count, .int .i64 b.code, .slice b.p b.ds.length b.cap]⟩] ∧ w.cell? ⟨h, 0, none⟩ = some (.string b.mark) ∧ w.cell? ⟨h, 1, none⟩ = some (.int .i64 b.size) ∧ w.cell? ⟨h, 2, none⟩ = some (.int .i64 b.count) ∧ w.cell? ⟨h, 3, none⟩ = some (.int .i64 b.code) ∧ w.cell? ⟨h, 4, none⟩ = some (.slice b.p b.ds.length b.cap) := by
  have C := E.cells
  simp [BC, CF] at C
  obtain ⟨-, ⟨c0, -⟩, ⟨c1, -⟩, ⟨c2, -⟩, ⟨c3, -⟩, c4, -⟩ := C
  exact ⟨E, c0, c1, c2, c3, c4⟩
set_option maxHeartbeats 8000000 in
set_option maxRecDepth 100000 in
theorem rMass_ok (b : Bar) (w : World) (hk : b.Ok w) (hv : barB b = true) : Calls Try.prog 25 #[b.val] w fun e w' => e = .returned (.int .i64 (massB b)) ∧ Below w.heap.size w w' := by
  have hL := fun W (h : Below w.heap.size w W) => rCut_ok b W (hk.on h) hv
  have E := (Env.nil w).add w.heap.size 32 b.cs rfl
  have hc := cut_bd hv
  have hm := fun W => rmass_ok b.size (cutB b) (barB_and hv).2.2.2.2.1 (by omega) hc.2 W
  have hd := mass_bd hv
  have W1 : IntKind.i64.wrap (b.count * ms b.size (cutB b)) = massB b := IntWalk.i64_in (massB b) (by omega)
  have hcs : b.cs = #[.string b.mark, .int .i64 b.size, .int .i64 b.count, .int .i64 b.code, .slice b.p b.ds.length b.cap] := rfl
  have hvv : b.val = .agg b.cs := rfl
  rw [hcs] at E hvv
  rw [hvv] at hL ⊢
  clear hk hv hcs hvv hc hd
  generalize ms b.size (cutB b) = m at *
  generalize massB b = r at *
  generalize cutB b = cut at *
  have C := E.cells
  simp [BC, CF] at C
  go_enter Try.func25, Try.ntmps25
  go_upto_region 1 with fail
  refine wp_region_plan 8 [(0, true), (1, true), (2, true), (3, true), (4, true), (5, false), (6, false), (7, true)] (fun W' => Env w W' [⟨w.heap.size, 32, #[.string b.mark, .int .i64 b.size, .int .i64 b.count, .int .i64 b.code, .slice b.p b.ds.length b.cap]⟩] ∧ W'.cell? ⟨w.heap.size, 0, none⟩ = some (.string b.mark) ∧ W'.cell? ⟨w.heap.size, 1, none⟩ = some (.int .i64 b.size) ∧ W'.cell? ⟨w.heap.size, 2, none⟩ = some (.int .i64 b.count) ∧ W'.cell? ⟨w.heap.size, 3, none⟩ = some (.int .i64 b.code) ∧ W'.cell? ⟨w.heap.size, 4, none⟩ = some (.slice b.p b.ds.length b.cap)) (by kernel_rfl) (by kernel_rfl) (fun _ _ d _ _ h => by cases d <;> exact h) (s_bk E.drw) ?_
  simp only [List.filterMap_cons, List.filterMap_nil, List.getElem?_cons_zero, List.getElem?_cons_succ, Option.map_some, List.drop_succ_cons, List.drop_zero]
  replace E := E.drw
  iterate 5 (first | (refine wpPlan_still (v := ?_) (Or.inl ⟨by rfl, ?_⟩) ?_; rotate_left; (focus (intro W hW; (try dsimp only at hW); go_split_ands; go_simp; try with_reducible rfl)); try simp only [Act.put, List.setIfInBounds_toArray, List.set_cons_zero, List.set_cons_succ]) | (refine wpPlan_still (Or.inr ⟨by rfl, rfl⟩) ?_; try simp only [Act.put, List.setIfInBounds_toArray, List.set_cons_zero, List.set_cons_succ]))
  refine wpPlan_only (fun K hK => ?_)
  try go_simp
  (go_at_call 24; (with_reducible refine (hL _ (envb E)).mono ?_); rintro X wq ⟨rfl, hb⟩)
  replace E := E.on hb
  clear hb
  refine hK.out _ _ (s_bk E) ?_
  clear hK K
  try simp only [Act.put, List.setIfInBounds_toArray, List.set_cons_zero, List.set_cons_succ]
  refine wpPlan_only (fun K hK => ?_)
  try go_simp
  (go_at_call 53; (with_reducible refine (hm _).mono ?_); rintro X wq ⟨rfl, rfl⟩)
  refine hK.out _ _ (s_bk E) ?_
  clear hK K
  try simp only [Act.put, List.setIfInBounds_toArray, List.set_cons_zero, List.set_cons_succ]
  iterate 1 (first | (refine wpPlan_still (v := ?_) (Or.inl ⟨by rfl, ?_⟩) ?_; rotate_left; (focus (intro W hW; (try dsimp only at hW); go_split_ands; go_simp; try with_reducible rfl)); try simp only [Act.put, List.setIfInBounds_toArray, List.set_cons_zero, List.set_cons_succ]) | (refine wpPlan_still (Or.inr ⟨by rfl, rfl⟩) ?_; try simp only [Act.put, List.setIfInBounds_toArray, List.set_cons_zero, List.set_cons_succ]))
  refine wpPlan_end ?_
  replace C := E.cells
  simp [BC, CF] at C
  go_wp2_with fail
  go_ret
  exact ⟨rfl, envb E⟩
def tot (l : List Int) : Int := l.sum
set_option maxRecDepth 100000 in
theorem total_any (v : Value) (zs : List Int) (w : World) (hR : Rdz w v zs) (hl : zs.length ≤ 100) (hb : ∀ k, k ≤ zs.length → -1000000000 ≤ (zs.take k).sum ∧ (zs.take k).sum ≤ 1000000000) :
    Calls Try.prog 32 #[v] w fun e w' => e = .returned (.int .i64 (zs.sum)) ∧ w = w' := by
  obtain ⟨q, c, rfl, k1⟩ := hR
  have K1 := Lib.hid k1
  have HB := Lib.hid hb
  clear k1 hb
  go_enter Try.func32, Try.ntmps32
  go_wp2
  go_loop [3, 8] (fun v3 v8 => ∃ k : Nat, v3 = .int .i64 (zs.take k).sum ∧ v8 = .int .i64 k ∧ k ≤ zs.length) (fun _ v => zs.length - (intOf v).toNat)
  case atStart => exact ⟨0, by simp, rfl, Nat.zero_le _⟩
  case round =>
    obtain ⟨k, rfl, rfl, hk⟩ := hrel
    by_cases hlt : k < zs.length
    · have g1 : decide ((k : Int) < (zs.length : Int)) = true := by simp [hlt]
      have W5 : IntKind.i64.wrap ((k : Int) + 1) = ((k + 1 : Nat) : Int) := by rw [IntWalk.i64_in _ (by omega)]; omega
      have q1 : (0 : Int) ≤ (k : Int) := by omega
      have q2 : (k : Int) < (zs.length : Int) := by omega
      obtain ⟨a, rfl, d0⟩ := K1.out k hlt
      have f3 := HB.out (k + 1) hlt
      have e : (zs.take (k + 1)).sum = (zs.take k).sum + zs[k] := by rw [List.take_succ_eq_append_getElem hlt, List.sum_append]; simp
      have W7 : IntKind.i64.wrap ((zs.take k).sum + zs[k]) = (zs.take (k + 1)).sum := by rw [e]; exact IntWalk.i64_in _ (by omega)
      clear e f3
      generalize zs[k] = y at *
      generalize (zs.take k).sum = u at *
      go_wp2
      exact ⟨⟨k + 1, rfl, rfl, hlt⟩, by simp [intOf]; omega⟩
    · have g1 : decide ((k : Int) < (zs.length : Int)) = false := by simp; omega
      have HE : Hid ((zs.take k).sum = zs.sum) := Lib.hid (by rw [List.take_of_length_le (by omega)])
      go_wp2
      go_ret
      exact ⟨by rw [HE.out]; rfl, rfl⟩
def xb (g : Nat) : Bar := ⟨⟨#[97]⟩, 12, 1, 11, some ⟨g, 0, none⟩, [300, 400], 2⟩
theorem xb_ok (g : Nat) : barB (xb g) = true := by kernel_rfl
theorem xb_legs (g : Nat) : legs (xb g) = [300, 400] := by kernel_rfl
theorem xb_dev (g : Nat) : devL (xb g) = 687122 ∧ devH (xb g) = 687124 := by
  unfold devL devH
  rw [xb_legs]
  exact ⟨by kernel_rfl, by kernel_rfl⟩
theorem xb_cut (g : Nat) : cutB (xb g) = 690 := by
  unfold cutB
  rw [(xb_dev g).2]
  rfl
theorem rdz_has {w : World} {g : Nat} {l : List Int} {cap : Nat} (h : Has w g 3 (l.map (Value.int .i64)).toArray) : Rdz w (.slice (some ⟨g, 0, none⟩) l.length cap) l := by
  refine ⟨_, cap, rfl, fun j hj => ⟨_, rfl, ?_⟩⟩
  rw [Addr.add_lit, Nat.zero_add, Has.read h]
  simp [hj]
set_option maxHeartbeats 8000000 in
set_option maxRecDepth 100000 in
theorem awake_any (w : World) : Calls Try.prog 10 #[] w fun e w' => e = .returned (.bool true) ∧ Below w.heap.size w w' := by
  have E := ((Env.nil w).add w.heap.size 3 #[.int .i64 300, .int .i64 400] rfl).add (w.heap.size + 1) 32 (xb w.heap.size).cs (by simp)
  have hk : ∀ W, Env w W [⟨w.heap.size + 1, 32, (xb w.heap.size).cs⟩, ⟨w.heap.size, 3, #[.int .i64 300, .int .i64 400]⟩] → (xb w.heap.size).Ok W := fun W h =>
    ⟨by show (1 : Nat) ≤ _; decide, by show (2 : Nat) ≤ _; decide, rdz_has (l := [300, 400]) h.2.2.2.2.2.1⟩
  have h11 := fun W => Arc_ok 12 (by decide) W
  have h18 := fun W h => Dev_ok (xb w.heap.size) W (hk W h) (xb_ok _)
  have h19 := fun W h => Cut_ok (xb w.heap.size) W (hk W h) (xb_ok _)
  rw [(xb_dev _).1, (xb_dev _).2] at h18
  rw [xb_cut] at h19
  rw [show arcL (bn 12) = 47122 by decide, show arcH (bn 12) = 47124 by decide] at h11
  unfold two at *
  have e3 : (xb w.heap.size).val = .agg #[.string ⟨#[97]⟩, .int .i64 12, .int .i64 1, .int .i64 11, .slice (some ⟨w.heap.size, 0, none⟩) 2 2] := rfl
  have e4 : (xb w.heap.size).cs = #[.string ⟨#[97]⟩, .int .i64 12, .int .i64 1, .int .i64 11, .slice (some ⟨w.heap.size, 0, none⟩) 2 2] := rfl
  rw [e3, e4] at h18 h19
  rw [e4] at E
  clear hk e3 e4
  have q24 := fun a b c d W => eq24 a b c d W
  have C := E.cells
  simp [BC, CF] at C
  go_enter Try.func10, Try.ntmps10
  go_wp2_with (first
    | (go_at_call 11; (with_reducible refine (h11 _).mono ?_); rintro X wq ⟨rfl, hb⟩; replace E := E.on hb; have Ea := E.add wq.heap.size 24 #[.int .i64 47122, .int .i64 47124] rfl; replace C := Ea.cells; simp [BC, CF] at C; clear hb)
    | (go_at_call 18; (with_reducible refine (h18 _ Ea.tail).mono ?_); rintro X wq ⟨rfl, hb⟩; replace Ea := (Ea.on hb).add wq.heap.size 24 #[.int .i64 687122, .int .i64 687124] rfl; replace C := Ea.cells; simp [BC, CF] at C; clear hb)
    | (go_at_call 19; (with_reducible refine (h19 _ Ea.tail.tail).mono ?_); rintro X wq ⟨rfl, hb⟩; replace Ea := Ea.on hb; replace C := Ea.cells; simp [BC, CF] at C; clear hb))
  go_ret
  exact ⟨by simp, envb Ea⟩
end Go.Proofs.Ythphgppgdlimeaa
