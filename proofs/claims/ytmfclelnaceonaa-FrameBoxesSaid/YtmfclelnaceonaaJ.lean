/- Turns back; Then, Back, Apply of the program, the reference's Back; the example. -/
import Derived.Test.YtmfclelnaceonaaH
namespace Go.Proofs.Ytmfclelnaceonaa
open Go.ChangeShapes Go.WideShapes Go.ChangeAt Go.RowKit
set_option linter.unusedVariables false
set_option linter.unusedSimpArgs false

def el (k : Nat) : Tn := allT.getD k ⟨0, 0⟩
def KX (t : Tn) : Nat := allT.findIdx fun b => aft t b = ⟨1, 2⟩
theorem el_ok : ∀ k, k < 24 → vT (el k) = true := by decide +kernel
theorem KX_ok : ∀ t ∈ allT, KX t < 24 ∧ (∀ j, j < KX t → ¬ aft t (el j) = ⟨1, 2⟩) ∧ aft t (el (KX t)) = ⟨1, 2⟩ ∧ el (KX t) = bk t := by decide +kernel
/-- All turns in a row. -/
def TnRow (w : World) (g : Nat) : Prop := ∀ k, k < 24 → w.cell? ⟨g, k * 2, none⟩ = some (.int .i64 (el k).x) ∧ w.cell? ⟨g, k * 2 + 1, none⟩ = some (.int .i64 (el k).y)
theorem TnRow.on {w w' : World} {g : Nat} (h : TnRow w g) (hb : Below w.heap.size w w') : TnRow w' g := fun k hk => ⟨cell_later hb (h k hk).1, cell_later hb (h k hk).2⟩
theorem own_tn {B : Nat} {w : World} {v : Value} (h : Own tc 23 2 B w v allT) : ∃ g c, v = .slice (some ⟨g, 0, none⟩) 24 c ∧ TnRow w g ∧ g < w.heap.size := by
  obtain ⟨q, c, rfl, k⟩ := Own.rd tl h
  have hl : allT.length = 24 := allT_len
  obtain ⟨g, rfl, k0⟩ := k 0 (by omega)
  refine ⟨g, c, by rw [hl], fun i hi => ?_, ?_⟩
  · obtain ⟨g', e, hc⟩ := k i (by omega)
    cases e
    have h0 := hc 0 (by omega)
    have h1 := hc 1 (by omega)
    have e : el i = allT[i]'(by omega) := by unfold el; rw [List.getD_eq_getElem?_getD, List.getElem?_eq_getElem (by omega)]; rfl
    rw [e]
    simp [tc] at h0 h1
    exact ⟨h0, h1⟩
  · have h0 := k0 0 (by omega)
    simp [tc] at h0
    exact lt_of_cell h0
theorem eqtn (a : Tn) (W : World) : (binOp .eql 23 (.agg #[.int .i64 a.x, .int .i64 a.y]) (.agg #[.int .i64 1, .int .i64 2])).run Try.prog W = .ok (.bool (decide (a = ⟨1, 2⟩))) W := by
  rw [eq23]
  congr 2
  rw [Bool.eq_iff_iff]
  obtain ⟨x, y⟩ := a; simp [Tn.mk.injEq]
set_option maxHeartbeats 8000000 in
set_option maxRecDepth 100000 in
theorem clo39 (t b : Tn) (c : Nat) (w : World) (ht : vT t = true) (hb : vT b = true) (h1 : w.cell? ⟨c, 0, none⟩ = some (.int .i64 t.x)) (h2 : w.cell? ⟨c, 1, none⟩ = some (.int .i64 t.y)) :
    Calls Try.prog 39 #[b.val, .pointer (some ⟨c, 0, none⟩)] w fun e w' => e = .returned (.bool (decide (aft t b = ⟨1, 2⟩))) ∧ Below w.heap.size w w' := by
  have hA := fun W => then_37 t b W ht hb
  have hO := fun W => one_40 W
  have hE := fun W => eqtn (aft t b) W
  obtain ⟨D, hD⟩ : ∃ D, decide (aft t b = ⟨1, 2⟩) = D := ⟨_, rfl⟩
  rw [hD] at hE ⊢
  clear hD ht hb
  generalize aft t b = A at *
  obtain ⟨x, y⟩ := t
  obtain ⟨bx, b_y⟩ := b
  obtain ⟨ax, ay⟩ := A
  unfold Tn.val at *
  try unfold tv at *
  dsimp only at *
  have E := (Env.nil w).add w.heap.size 23 #[.int .i64 bx, .int .i64 b_y] rfl
  have C := E.cells
  simp [BC, CF] at C
  have d1 := cell_later E.1 h1
  have d2 := cell_later E.1 h2
  go_enter Try.func39, Try.ntmps39
  go_wp2_with (first
    | (go_at_call 37; (with_reducible refine (hA _).mono ?_); rintro X wq ⟨rfl, hb⟩; replace E := E.on hb; replace C := E.cells; simp [BC, CF] at C; clear hb)
    | (go_at_call 40; (with_reducible refine (hO _).mono ?_); rintro X wq ⟨rfl, hb⟩; replace E := E.on hb; replace C := E.cells; simp [BC, CF] at C; clear hb))
  go_ret
  exact ⟨rfl, envb E⟩
set_option maxHeartbeats 8000000 in
set_option maxRecDepth 100000 in
theorem idx38 (t : Tn) (ht : vT t = true) (g cp c : Nat) (w : World) (h1 : w.cell? ⟨c, 0, none⟩ = some (.int .i64 t.x)) (h2 : w.cell? ⟨c, 1, none⟩ = some (.int .i64 t.y)) (hR : TnRow w g) :
    Calls Try.prog 38 #[.slice (some ⟨g, 0, none⟩) 24 cp, .func (.func 39) #[] #[.pointer (some ⟨c, 0, none⟩)]] w fun e w' => e = .returned (.int .i64 (KX t)) ∧ Below w.heap.size w w' := by
  obtain ⟨k1, k2, k3, -⟩ := KX_ok t (mem_allT ht)
  have K2 := Lib.hid k2
  have K3 := Lib.hid k3
  have HR := Lib.hid hR
  have HC := Lib.hid (And.intro h1 h2)
  clear k2 k3 hR h1 h2
  generalize KX t = K at *
  go_enter Try.func38, Try.ntmps38
  go_wp2
  go_loopw [8] (fun v wr => ∃ k : Nat, v = .int .i64 k ∧ k ≤ K ∧ Below w.heap.size w wr) (fun v _ => 24 - (intOf v).toNat)
  case atStart => exact ⟨0, rfl, Nat.zero_le _, Below.refl _ _⟩
  case round =>
    obtain ⟨k, rfl, hk, hB⟩ := hrel
    have hlt : k < 24 := by omega
    have g1 : decide ((k : Int) < 24) = true := by simp; omega
    have W1 : IntKind.i64.wrap ((k : Int) + 1) = ((k + 1 : Nat) : Int) := by rw [IntWalk.i64_in _ (by omega)]; omega
    have q1 : (0 : Int) ≤ (k : Int) := by omega
    have q2 : (k : Int) < 24 := by omega
    obtain ⟨c0, c1⟩ := HR.out.on hB k hlt
    have hb := clo39 t (el k) c wr ht (el_ok k hlt) (cell_later hB HC.out.1) (cell_later hB HC.out.2)
    unfold Tn.val at hb
    rcases Nat.lt_or_ge k K with h | h
    · rw [decide_eq_false (K2.out k h)] at hb
      generalize el k = ek at *
      go_wp2_with (go_at_call 39; (with_reducible refine hb.mono ?_); rintro e1 w1 ⟨rfl, b1⟩)
      exact ⟨⟨k + 1, rfl, h, belows hB b1⟩, by simp [intOf]; omega⟩
    · have e : k = K := by omega
      subst e
      rw [decide_eq_true K3.out] at hb
      generalize el k = ek at *
      go_wp2_with (go_at_call 39; (with_reducible refine hb.mono ?_); rintro e1 w1 ⟨rfl, b1⟩)
      go_ret
      exact ⟨rfl, belows hB b1⟩
set_option maxHeartbeats 8000000 in
set_option maxRecDepth 100000 in
theorem Back_ok (t : Tn) (w : World) (ht : vT t = true) : Calls Try.prog 17 #[t.val] w fun e w' => e = .returned (.tuple #[(bk t).val, .int .i64 0]) ∧ Below w.heap.size w w' := by
  have hv := fun W => valid_11 t W
  rw [ht] at hv
  obtain ⟨k1, -, -, k4⟩ := KX_ok t (mem_allT ht)
  have hi := fun g cp c W h1 h2 hR => idx38 t ht g cp c W h1 h2 hR
  have HB : Hid (el (KX t) = bk t) := Lib.hid k4
  clear k4 ht
  generalize KX t = K at *
  generalize bk t = B at *
  obtain ⟨x, y⟩ := t
  obtain ⟨bx, b_y⟩ := B
  unfold Tn.val at *
  dsimp only at *
  have q1 : (0 : Int) ≤ (K : Int) := by omega
  have q2 : (K : Int) < 24 := by omega
  have E := ((Env.nil w).add w.heap.size 23 #[.int .i64 x, .int .i64 y] rfl).add (w.heap.size + 1) 23 #[.int .i64 0, .int .i64 0] (by simp)
  have C := E.cells
  simp [BC, CF] at C
  go_enter Try.func17, Try.ntmps17
  go_upto_region 5 with (first
    | (go_at_call 11; (with_reducible refine (hv _).mono ?_); rintro X wq ⟨rfl, hb⟩; replace E := E.on hb; replace C := E.cells; simp [BC, CF] at C; clear hb)
    | (go_at_call 14; (with_reducible refine (all_14 _).mono ?_); rintro X wq ⟨v, rfl, hO, hb⟩; replace E := E.on hb; obtain ⟨g, cp, rfl, hR, -⟩ := own_tn hO; clear hO; replace C := E.cells; simp [BC, CF] at C; clear hb)
    | (go_at_call 38; (with_reducible refine (hi _ _ _ _ ?_ ?_ hR).mono ?_); (exact C.2.2.1.1); (exact C.2.2.2.1); rintro X wq ⟨rfl, hb⟩; replace E := E.on hb; replace hR := hR.on hb; replace C := E.cells; simp [BC, CF] at C; clear hb))
  obtain ⟨c0, c1⟩ := hR K k1
  rw [HB.out] at c0 c1
  dsimp only at c0 c1
  go_wp2
  exact bodyPost_ret (v := .tuple #[tv bx b_y, .int .i64 0]) (by simp [results, Try.results17, go_sem, tv, *]) rfl ⟨rfl, envb (E.two _ _ 0 rfl)⟩
set_option maxHeartbeats 8000000 in
set_option maxRecDepth 100000 in
theorem Back_no (t : Tn) (w : World) (ht : vT t = false) : Calls Try.prog 17 #[t.val] w fun e w' => e = .returned (.tuple #[tv 0 0, .int .i64 1]) ∧ Below w.heap.size w w' := by
  have hv := fun W => valid_11 t W
  rw [ht] at hv
  clear ht
  obtain ⟨x, y⟩ := t
  unfold Tn.val at *
  try unfold tv at *
  dsimp only at *
  have E := ((Env.nil w).add w.heap.size 23 #[.int .i64 x, .int .i64 y] rfl).add (w.heap.size + 1) 23 #[.int .i64 0, .int .i64 0] (by simp)
  have C := E.cells
  simp [BC, CF] at C
  go_enter Try.func17, Try.ntmps17
  go_wp2_with (first
    | (go_at_call 11; (with_reducible refine (hv _).mono ?_); rintro X wq ⟨rfl, hb⟩; replace E := E.on hb; replace C := E.cells; simp [BC, CF] at C; clear hb))
  exact bodyPost_ret (v := .tuple #[tv 0 0, .int .i64 1]) (by simp [results, Try.results17, go_sem, tv, *]) rfl ⟨rfl, envb (E.two _ _ 0 rfl)⟩
theorem s_b2 {w0 w : World} {g0 g1 : Nat} {a0_0 a0_1 a1_0 a1_1 : Value} (E : Env w0 w (⟨g0, 23, #[a0_0, a0_1]⟩ :: ⟨g1, 23, #[a1_0, a1_1]⟩ :: [])) : Env w0 w (⟨g0, 23, #[a0_0, a0_1]⟩ :: ⟨g1, 23, #[a1_0, a1_1]⟩ :: []) ∧ w.cell? ⟨g0, 0, none⟩ = some a0_0 ∧ w.cell? ⟨g0, 1, none⟩ = some a0_1 ∧ w.cell? ⟨g1, 0, none⟩ = some a1_0 ∧ w.cell? ⟨g1, 1, none⟩ = some a1_1 := by
  have C := E.cells
  simp [BC, CF] at C
  exact ⟨E, C.1.2.1.1, C.1.2.2.1, C.2.2.1.1, C.2.2.2.1⟩
set_option maxHeartbeats 8000000 in
set_option maxRecDepth 100000 in
theorem rBack_ok (t : Tn) (w : World) (ht : vT t = true) : Calls Try.prog 18 #[t.val] w fun e w' => e = .returned (bk t).val ∧ Below w.heap.size w w' := by
  obtain ⟨k1, k2, k3, k4⟩ := KX_ok t (mem_allT ht)
  have HT := Lib.hid (fun k (hk : k < 24) W => then_19 t (el k) W ht (el_ok k hk))
  have HEq := Lib.hid (fun k W => eqtn (aft t (el k)) W)
  have K2 := Lib.hid k2
  have K3 := Lib.hid k3
  have HB : Hid (el (KX t) = bk t) := Lib.hid k4
  clear k4 ht k2 k3
  generalize KX t = K at *
  generalize bk t = B at *
  generalize aft t = AF at *
  obtain ⟨x, y⟩ := t
  unfold Tn.val at *
  dsimp only at *
  have E := ((Env.nil w).add w.heap.size 23 #[.int .i64 x, .int .i64 y] rfl).add (w.heap.size + 1) 23 #[.int .i64 0, .int .i64 0] (by simp)
  have C := E.cells
  simp [BC, CF] at C
  go_enter Try.func18, Try.ntmps18
  go_wp2_with (go_at_call 15; (with_reducible refine (all_15 _).mono ?_); rintro X wq ⟨v, rfl, hO, hb⟩; replace E := E.on hb; obtain ⟨g, cp, rfl, hR, -⟩ := own_tn hO; clear hO; replace C := E.cells; simp [BC, CF] at C; clear hb)
  go_loopw [4] (fun v wr => ∃ k : Nat, v = .int .i64 k ∧ k ≤ K ∧ Env w wr [⟨w.heap.size + 1, 23, #[.int .i64 0, .int .i64 0]⟩, ⟨w.heap.size, 23, #[.int .i64 x, .int .i64 y]⟩] ∧ TnRow wr g) (fun v _ => 24 - (intOf v).toNat)
  case atStart => exact ⟨0, rfl, Nat.zero_le _, E, hR⟩
  case round =>
    clear E C hR
    obtain ⟨k, rfl, hk, E, hR⟩ := hrel
    have hlt : k < 24 := by omega
    have g1 : decide ((k : Int) < 24) = true := by simp; omega
    have W1 : IntKind.i64.wrap ((k : Int) + 1) = ((k + 1 : Nat) : Int) := by rw [IntWalk.i64_in _ (by omega)]; omega
    have q1 : (0 : Int) ≤ (k : Int) := by omega
    have q2 : (k : Int) < 24 := by omega
    have hb := HT.out k hlt
    have hE := HEq.out k
    obtain ⟨c0, c1⟩ := hR k hlt
    have C := E.cells
    simp [BC, CF] at C
    rcases Nat.lt_or_ge k K with h | h
    · rw [decide_eq_false (K2.out k h)] at hE
      generalize el k = ek at *
      generalize AF ek = A at *
      obtain ⟨ex, ey⟩ := ek
      obtain ⟨ax, ay⟩ := A
      dsimp only at *
      go_upto_region 5 with fail
      refine wp_region_plan 7 [(0, true), (1, true), (2, true), (3, true), (4, true), (6, true), (5, false)] (fun W' => Env w W' [⟨w.heap.size + 1, 23, #[.int .i64 0, .int .i64 0]⟩, ⟨w.heap.size, 23, #[.int .i64 x, .int .i64 y]⟩] ∧ W'.cell? ⟨w.heap.size, 0, none⟩ = some (.int .i64 x) ∧ W'.cell? ⟨w.heap.size, 1, none⟩ = some (.int .i64 y) ∧ W'.cell? ⟨g, k * 2, none⟩ = some (.int .i64 ex) ∧ W'.cell? ⟨g, k * 2 + 1, none⟩ = some (.int .i64 ey)) (by kernel_rfl) (by kernel_rfl) (fun _ _ d _ _ h => by cases d <;> exact h) ⟨E.drw, (s_b2 E.drw).2.2.2.1, (s_b2 E.drw).2.2.2.2, c0, c1⟩ ?_
      simp only [List.filterMap_cons, List.filterMap_nil, List.getElem?_cons_zero, List.getElem?_cons_succ, Option.map_some, List.drop_succ_cons, List.drop_zero]
      replace E := E.drw
      iterate 6 (first | (refine wpPlan_still (v := ?_) (Or.inl ⟨by rfl, ?_⟩) ?_; rotate_left; (focus (intro W hW; (try dsimp only at hW); go_split_ands; go_simp; try with_reducible rfl)); try simp only [Act.put, List.setIfInBounds_toArray, List.set_cons_zero, List.set_cons_succ]) | (refine wpPlan_still (Or.inr ⟨by rfl, rfl⟩) ?_; try simp only [Act.put, List.setIfInBounds_toArray, List.set_cons_zero, List.set_cons_succ]))
      refine wpPlan_only (fun K hK => ?_)
      try go_simp
      (go_at_call 19; (with_reducible refine (hb _).mono ?_); rintro X wq ⟨rfl, hbb⟩)
      replace E := E.on hbb
      replace c0 := cell_later (belows (below_dr (Below.refl _ _)) hbb) c0
      replace c1 := cell_later (belows (below_dr (Below.refl _ _)) hbb) c1
      replace hR := hR.on (belows (below_dr (Below.refl wr.heap.size wr)) hbb)
      clear hbb
      refine hK.out _ _ ⟨E, (s_b2 E).2.2.2.1, (s_b2 E).2.2.2.2, c0, c1⟩ ?_
      clear hK K
      try simp only [Act.put, List.setIfInBounds_toArray, List.set_cons_zero, List.set_cons_succ]
      refine wpPlan_end ?_
      replace C := E.cells
      simp [BC, CF] at C
      go_wp2
      exact ⟨⟨k + 1, rfl, h, E, hR⟩, by simp [intOf]; omega⟩
    · have e : k = K := by omega
      subst e
      rw [decide_eq_true K3.out] at hE
      rw [HB.out] at hb c0 c1 hE
      generalize AF B = A at *
      obtain ⟨ex, ey⟩ := B
      obtain ⟨ax, ay⟩ := A
      dsimp only at *
      go_upto_region 5 with fail
      refine wp_region_plan 7 [(0, true), (1, true), (2, true), (3, true), (4, true), (6, true), (5, false)] (fun W' => Env w W' [⟨w.heap.size + 1, 23, #[.int .i64 0, .int .i64 0]⟩, ⟨w.heap.size, 23, #[.int .i64 x, .int .i64 y]⟩] ∧ W'.cell? ⟨w.heap.size, 0, none⟩ = some (.int .i64 x) ∧ W'.cell? ⟨w.heap.size, 1, none⟩ = some (.int .i64 y) ∧ W'.cell? ⟨g, k * 2, none⟩ = some (.int .i64 ex) ∧ W'.cell? ⟨g, k * 2 + 1, none⟩ = some (.int .i64 ey)) (by kernel_rfl) (by kernel_rfl) (fun _ _ d _ _ h => by cases d <;> exact h) ⟨E.drw, (s_b2 E.drw).2.2.2.1, (s_b2 E.drw).2.2.2.2, c0, c1⟩ ?_
      simp only [List.filterMap_cons, List.filterMap_nil, List.getElem?_cons_zero, List.getElem?_cons_succ, Option.map_some, List.drop_succ_cons, List.drop_zero]
      replace E := E.drw
      iterate 6 (first | (refine wpPlan_still (v := ?_) (Or.inl ⟨by rfl, ?_⟩) ?_; rotate_left; (focus (intro W hW; (try dsimp only at hW); go_split_ands; go_simp; try with_reducible rfl)); try simp only [Act.put, List.setIfInBounds_toArray, List.set_cons_zero, List.set_cons_succ]) | (refine wpPlan_still (Or.inr ⟨by rfl, rfl⟩) ?_; try simp only [Act.put, List.setIfInBounds_toArray, List.set_cons_zero, List.set_cons_succ]))
      refine wpPlan_only (fun K hK => ?_)
      try go_simp
      (go_at_call 19; (with_reducible refine (hb _).mono ?_); rintro X wq ⟨rfl, hbb⟩)
      replace E := E.on hbb
      replace c0 := cell_later (belows (below_dr (Below.refl _ _)) hbb) c0
      replace c1 := cell_later (belows (below_dr (Below.refl _ _)) hbb) c1
      replace hR := hR.on (belows (below_dr (Below.refl wr.heap.size wr)) hbb)
      clear hbb
      refine hK.out _ _ ⟨E, (s_b2 E).2.2.2.1, (s_b2 E).2.2.2.2, c0, c1⟩ ?_
      clear hK K
      try simp only [Act.put, List.setIfInBounds_toArray, List.set_cons_zero, List.set_cons_succ]
      refine wpPlan_end ?_
      replace C := E.cells
      simp [BC, CF] at C
      go_wp2
      exact bodyPost_ret (v := tv ex ey) (by simp [results, Try.results18, go_sem, tv, *]) rfl ⟨rfl, envb (E.two _ _ 0 rfl)⟩
set_option maxHeartbeats 8000000 in
set_option maxRecDepth 100000 in
theorem Then_ok (a b : Tn) (w : World) (ha : vT a = true) (hb : vT b = true) : Calls Try.prog 16 #[a.val, b.val] w fun e w' => e = .returned (.tuple #[(aft a b).val, .int .i64 0]) ∧ Below w.heap.size w w' := by
  have h1 := fun W => valid_11 a W
  have h2 := fun W => valid_11 b W
  have h3 := fun W => then_37 a b W ha hb
  rw [ha] at h1
  rw [hb] at h2
  clear ha hb
  generalize aft a b = A at *
  obtain ⟨ax, ay⟩ := A
  obtain ⟨x, y⟩ := a
  obtain ⟨p, q⟩ := b
  unfold Tn.val at *
  try unfold tv at *
  dsimp only at *
  have E := (((Env.nil w).add w.heap.size 23 #[.int .i64 x, .int .i64 y] rfl).add (w.heap.size + 1) 23 #[.int .i64 p, .int .i64 q] (by simp)).add (w.heap.size + 2) 23 #[.int .i64 0, .int .i64 0] (by simp)
  have C := E.cells
  simp [BC, CF] at C
  go_enter Try.func16, Try.ntmps16
  go_wp2_with (first
    | (go_at_call 11; (with_reducible refine (h1 _).mono ?_); rintro X wq ⟨rfl, hb⟩; replace E := E.on hb; replace C := E.cells; simp [BC, CF] at C; clear hb)
    | (go_at_call 11; (with_reducible refine (h2 _).mono ?_); rintro X wq ⟨rfl, hb⟩; replace E := E.on hb; replace C := E.cells; simp [BC, CF] at C; clear hb)
    | (go_at_call 37; (with_reducible refine (h3 _).mono ?_); rintro X wq ⟨rfl, hb⟩; replace E := E.on hb; replace C := E.cells; simp [BC, CF] at C; clear hb))
  exact bodyPost_ret (v := .tuple #[tv ax ay, .int .i64 0]) (by simp [results, Try.results16, go_sem, tv, *]) rfl ⟨rfl, envb (E.two _ _ 0 rfl)⟩
set_option maxHeartbeats 8000000 in
set_option maxRecDepth 100000 in
theorem Then_no (a b : Tn) (w : World) (h : ¬ (vT a = true ∧ vT b = true)) : Calls Try.prog 16 #[a.val, b.val] w fun e w' => e = .returned (.tuple #[tv 0 0, .int .i64 1]) ∧ Below w.heap.size w w' := by
  have h1 := fun W => valid_11 a W
  have h2 := fun W => valid_11 b W
  cases ha : vT a
  · rw [ha] at h1
    clear h ha h2
    obtain ⟨x, y⟩ := a
    obtain ⟨p, q⟩ := b
    unfold Tn.val at *
    try unfold tv at *
    dsimp only at *
    have E := (((Env.nil w).add w.heap.size 23 #[.int .i64 x, .int .i64 y] rfl).add (w.heap.size + 1) 23 #[.int .i64 p, .int .i64 q] (by simp)).add (w.heap.size + 2) 23 #[.int .i64 0, .int .i64 0] (by simp)
    have C := E.cells
    simp [BC, CF] at C
    go_enter Try.func16, Try.ntmps16
    go_wp2_with (first
      | (go_at_call 11; (with_reducible refine (h1 _).mono ?_); rintro X wq ⟨rfl, hb⟩; replace E := E.on hb; replace C := E.cells; simp [BC, CF] at C; clear hb))
    exact bodyPost_ret (v := .tuple #[tv 0 0, .int .i64 1]) (by simp [results, Try.results16, go_sem, tv, *]) rfl ⟨rfl, envb (E.two _ _ 0 rfl)⟩
  · have hb : vT b = false := by cases e : vT b <;> simp_all
    rw [ha] at h1
    rw [hb] at h2
    clear h ha hb
    obtain ⟨x, y⟩ := a
    obtain ⟨p, q⟩ := b
    unfold Tn.val at *
    try unfold tv at *
    dsimp only at *
    have E := (((Env.nil w).add w.heap.size 23 #[.int .i64 x, .int .i64 y] rfl).add (w.heap.size + 1) 23 #[.int .i64 p, .int .i64 q] (by simp)).add (w.heap.size + 2) 23 #[.int .i64 0, .int .i64 0] (by simp)
    have C := E.cells
    simp [BC, CF] at C
    go_enter Try.func16, Try.ntmps16
    go_wp2_with (first
      | (go_at_call 11; (with_reducible refine (h1 _).mono ?_); rintro X wq ⟨rfl, hb⟩; replace E := E.on hb; replace C := E.cells; simp [BC, CF] at C; clear hb)
      | (go_at_call 11; (with_reducible refine (h2 _).mono ?_); rintro X wq ⟨rfl, hb⟩; replace E := E.on hb; replace C := E.cells; simp [BC, CF] at C; clear hb))
    exact bodyPost_ret (v := .tuple #[tv 0 0, .int .i64 1]) (by simp [results, Try.results16, go_sem, tv, *]) rfl ⟨rfl, envb (E.two _ _ 0 rfl)⟩
set_option maxHeartbeats 8000000 in
set_option maxRecDepth 100000 in
theorem Apply_ok (t : Tn) (p : Pt) (w : World) (ht : vT t = true) (hp : nearB p = true) : Calls Try.prog 20 #[t.val, p.val] w fun e w' => e = .returned (.tuple #[(img t p).val, .int .i64 0]) ∧ Below w.heap.size w w' := by
  have h1 := fun W => valid_11 t W
  have h2 := fun W => far_43 p W
  have h3 := fun W => image_44 t p W ht (bd_mono (nearB_bd hp) (by decide))
  rw [ht] at h1
  rw [hp] at h2
  clear ht hp
  generalize img t p = A at *
  obtain ⟨a0, a1, a2⟩ := A
  obtain ⟨x, y⟩ := t
  obtain ⟨p, q, r⟩ := p
  unfold Tn.val Pt.val at *
  dsimp only at *
  have E := (((Env.nil w).add w.heap.size 23 #[.int .i64 x, .int .i64 y] rfl).add (w.heap.size + 1) 37 #[.int .i64 p, .int .i64 q, .int .i64 r] (by simp)).add (w.heap.size + 2) 37 #[.int .i64 0, .int .i64 0, .int .i64 0] (by simp)
  have C := E.cells
  simp [BC, CF] at C
  go_enter Try.func20, Try.ntmps20
  go_wp2_with (first
    | (go_at_call 11; (with_reducible refine (h1 _).mono ?_); rintro X wq ⟨rfl, hb⟩; replace E := E.on hb; replace C := E.cells; simp [BC, CF] at C; clear hb)
    | (go_at_call 43; (with_reducible refine (h2 _).mono ?_); rintro X wq ⟨rfl, hb⟩; replace E := E.on hb; replace C := E.cells; simp [BC, CF] at C; clear hb)
    | (go_at_call 44; (with_reducible refine (h3 _).mono ?_); rintro X wq ⟨rfl, hb⟩; replace E := E.on hb; replace C := E.cells; simp [BC, CF] at C; clear hb))
  exact bodyPost_ret (v := .tuple #[pv a0 a1 a2, .int .i64 0]) (by simp [results, Try.results20, go_sem, pv, *]) rfl ⟨rfl, envb (E.three _ _ _ 0 rfl)⟩
set_option maxHeartbeats 8000000 in
set_option maxRecDepth 100000 in
theorem Apply_arg (t : Tn) (p : Pt) (w : World) (ht : vT t = false) : Calls Try.prog 20 #[t.val, p.val] w fun e w' => e = .returned (.tuple #[pv 0 0 0, .int .i64 1]) ∧ Below w.heap.size w w' := by
  have h1 := fun W => valid_11 t W
  rw [ht] at h1
  clear ht
  obtain ⟨x, y⟩ := t
  obtain ⟨p, q, r⟩ := p
  unfold Tn.val Pt.val at *
  dsimp only at *
  have E := (((Env.nil w).add w.heap.size 23 #[.int .i64 x, .int .i64 y] rfl).add (w.heap.size + 1) 37 #[.int .i64 p, .int .i64 q, .int .i64 r] (by simp)).add (w.heap.size + 2) 37 #[.int .i64 0, .int .i64 0, .int .i64 0] (by simp)
  have C := E.cells
  simp [BC, CF] at C
  go_enter Try.func20, Try.ntmps20
  go_wp2_with (first
    | (go_at_call 11; (with_reducible refine (h1 _).mono ?_); rintro X wq ⟨rfl, hb⟩; replace E := E.on hb; replace C := E.cells; simp [BC, CF] at C; clear hb))
  exact bodyPost_ret (v := .tuple #[pv 0 0 0, .int .i64 1]) (by simp [results, Try.results20, go_sem, pv, *]) rfl ⟨rfl, envb (E.three _ _ _ 0 rfl)⟩
set_option maxHeartbeats 8000000 in
set_option maxRecDepth 100000 in
theorem Apply_far (t : Tn) (p : Pt) (w : World) (ht : vT t = true) (hp : nearB p = false) : Calls Try.prog 20 #[t.val, p.val] w fun e w' => e = .returned (.tuple #[pv 0 0 0, .int .i64 2]) ∧ Below w.heap.size w w' := by
  have h1 := fun W => valid_11 t W
  have h2 := fun W => far_43 p W
  rw [ht] at h1
  rw [hp] at h2
  clear ht hp
  obtain ⟨x, y⟩ := t
  obtain ⟨p, q, r⟩ := p
  unfold Tn.val Pt.val at *
  dsimp only at *
  have E := (((Env.nil w).add w.heap.size 23 #[.int .i64 x, .int .i64 y] rfl).add (w.heap.size + 1) 37 #[.int .i64 p, .int .i64 q, .int .i64 r] (by simp)).add (w.heap.size + 2) 37 #[.int .i64 0, .int .i64 0, .int .i64 0] (by simp)
  have C := E.cells
  simp [BC, CF] at C
  go_enter Try.func20, Try.ntmps20
  go_wp2_with (first
    | (go_at_call 11; (with_reducible refine (h1 _).mono ?_); rintro X wq ⟨rfl, hb⟩; replace E := E.on hb; replace C := E.cells; simp [BC, CF] at C; clear hb)
    | (go_at_call 43; (with_reducible refine (h2 _).mono ?_); rintro X wq ⟨rfl, hb⟩; replace E := E.on hb; replace C := E.cells; simp [BC, CF] at C; clear hb))
  exact bodyPost_ret (v := .tuple #[pv 0 0 0, .int .i64 2]) (by simp [results, Try.results20, go_sem, pv, *]) rfl ⟨rfl, envb (E.three _ _ _ 0 rfl)⟩
end Go.Proofs.Ytmfclelnaceonaa
