/- The reference: Legs, Path. -/
import Derived.Test.YthphgppgdlimeaaRm
import Derived.Deep.CutBlock
namespace Go.Proofs.Ythphgppgdlimeaa
open Go.ChangeShapes Go.WideShapes Go.ChangeAt Go.RowKit
set_option linter.unusedVariables false
set_option linter.unusedSimpArgs false

theorem moves_len (b : Bar) : (movesL b).length = nl b.code := by simp [movesL]
theorem mov_abs {b : Bar} (h : barB b = true) {k : Nat} (hk : k < nl b.code) : abz (movF b k).x + abz (movF b k).y + abz (movF b k).z = legF b k ∧ (-262144 ≤ (movF b k).x ∧ (movF b k).x ≤ 262144) ∧ (-262144 ≤ (movF b k).y ∧ (movF b k).y ≤ 262144) ∧ (-262144 ≤ (movF b k).z ∧ (movF b k).z ≤ 262144) := by
  have h1 := leg_bd h hk
  unfold movF
  rcases way_in (barB_and h).1 hk with hw | hw | hw | hw | hw <;> rw [hw] <;> simp [mv, abz] <;> (try split) <;> omega
theorem mov_add {b : Bar} (h : barB b = true) {k : Nat} (hk : k < nl b.code) : pt b (k + 1) = ⟨(pt b k).x + (movF b k).x, (pt b k).y + (movF b k).y, (pt b k).z + (movF b k).z⟩ := by
  have e : pt b (k + 1) = mv (pt b k) (way b.code k) (legF b k) := rfl
  rw [e]
  unfold movF
  rcases way_in (barB_and h).1 hk with hw | hw | hw | hw | hw <;> rw [hw] <;> simp [mv] <;> omega
theorem Own.rdz {B : Nat} {w : World} {v : Value} {l : List Int} (h : Own zc 3 1 B w v l) : Rdz w v l := by
  obtain ⟨q, c, rfl, k⟩ := Own.rd zl h
  refine ⟨q, c, rfl, fun j hj => ?_⟩
  obtain ⟨g, rfl, hc⟩ := k j hj
  have := hc 0 (by omega)
  refine ⟨_, rfl, ?_⟩
  rw [Addr.add_lit, Nat.zero_add]
  simpa [zc] using this
set_option maxHeartbeats 16000000 in
set_option maxRecDepth 100000 in
theorem rLegs_any (b : Bar) (w : World) (hk : b.Ok w) (hv : barB b = true) : Calls Try.prog 52 #[b.val] w fun e w' => ∃ v, e = .returned v ∧ Rdz w' v (legs b) ∧ Below w.heap.size w w' := by
  have hV := fun W (h : Below w.heap.size w W) => rmoves_any b W (hk.on h) hv
  have E := (Env.nil w).add w.heap.size 32 b.cs rfl
  have n6 := nl_le (barB_and hv).1
  have n0 := nl_pos (barB_and hv).1
  have HA := Lib.hid (fun k (h : k < nl b.code) => mov_abs hv h)
  have hML := Lib.hid (moves_len b)
  have hM : ∀ k (h : k < (movesL b).length), (movesL b)[k] = movF b k := fun k h => by simp [movesL]
  have HM := Lib.hid hM
  have hL : legs b = (List.range (nl b.code)).map (legF b) := rfl
  have HL := Lib.hid hL
  have hLB := Lib.hid (fun k (h : k < nl b.code) => leg_bd hv h)
  clear hk hv hM hL
  simp only [Bar.val, Bar.cs] at *
  generalize movesL b = ML at *
  generalize movF b = mf at *
  generalize legs b = LS at *
  generalize legF b = lf at *
  generalize nl b.code = n at *
  have C := E.cells
  simp [BC, CF] at C
  obtain ⟨i0, hinf, hz0, hz1, hz2⟩ := info_parts info3
  go_enter Try.func52, Try.ntmps52
  go_wp2_with (go_at_call 64; (with_reducible refine (hV _ (envb E)).mono ?_); rintro X w1 ⟨v, rfl, hO, hb⟩; replace E := E.on hb; replace C := E.cells; simp [BC, CF] at C; clear hb; obtain ⟨gp, cap2, rfl, hP⟩ := hO.fn (by rw [hML.out]; exact n0); rw [hML.out])
  have HPc := Lib.hid hP
  have e1 := envb E
  go_loopw [4, 5] (fun v4 v5 wr => ∃ (k : Nat) (F : Value), v5 = .int .i64 k ∧ F = v4 ∧ k ≤ n ∧ Own zc 3 1 w1.heap.size wr F ((List.range k).map lf) ∧ Below w1.heap.size w1 wr) (fun _ v _ => n - (intOf v).toNat)
  case atStart => exact ⟨0, _, rfl, rfl, Nat.zero_le _, ⟨rfl, .inl ⟨rfl, rfl⟩⟩, Below.refl _ _⟩
  case round =>
    clear E C hO hP
    obtain ⟨k, F, rfl, rfl, hk, hO, B⟩ := hrel
    by_cases hlt : k < n
    · have g1 : decide ((k : Int) < (n : Int)) = true := by simp [hlt]
      have W1 : IntKind.i64.wrap ((k : Int) + 1) = ((k + 1 : Nat) : Int) := by rw [IntWalk.i64_in _ (by omega)]; omega
      have p1 : (0 : Int) ≤ (k : Int) := by omega
      have p2 : (k : Int) < (n : Int) := by omega
      obtain ⟨a0, a1, a2⟩ := HPc.out k (by rw [hML.out]; exact hlt)
      rw [HM.out] at a0 a1 a2
      obtain ⟨ha, hx, hy, hz⟩ := HA.out k hlt
      have hlb := hLB.out k hlt
      obtain ⟨⟨x0, y0, z0⟩, hP2⟩ : ∃ p : Pt, Hid (mf k = p) := ⟨_, Lib.hid rfl⟩
      rw [hP2.out] at a0 a1 a2 ha hx hy hz
      dsimp only at a0 a1 a2 ha hx hy hz
      replace a0 := cell_later B a0
      replace a1 := cell_later B a1
      replace a2 := cell_later B a2
      have s0 := fun W => size_any x0 W (by omega)
      have s1 := fun W => size_any y0 W (by omega)
      have s2 := fun W => size_any z0 W (by omega)
      have ax0 : 0 ≤ abz x0 ∧ abz x0 ≤ 262144 := by unfold abz; split <;> omega
      have ay0 : 0 ≤ abz y0 ∧ abz y0 ≤ 262144 := by unfold abz; split <;> omega
      have az0 : 0 ≤ abz z0 ∧ abz z0 ≤ 262144 := by unfold abz; split <;> omega
      generalize abz x0 = X0 at *
      generalize abz y0 = Y0 at *
      generalize abz z0 = Z0 at *
      have W2 : IntKind.i64.wrap (X0 + Y0) = X0 + Y0 := IntWalk.i64_in _ (by omega)
      have W3 : IntKind.i64.wrap (X0 + Y0 + Z0) = X0 + Y0 + Z0 := IntWalk.i64_in _ (by omega)
      have hl : Hid ((List.range (k + 1)).map lf = (List.range k).map lf ++ [X0 + Y0 + Z0]) := Lib.hid (by rw [List.range_succ, List.map_append, ha]; rfl)
      have hlen : ((List.range k).map lf).length = k := by simp
      generalize (List.range k).map lf = O at *
      clear ha hx hy hz ax0 ay0 az0 hlb
      go_upto_region 6 with fail
      refine wp_region_plan 22 [(0, true), (1, true), (2, true), (3, true), (4, true), (5, true), (7, true), (8, true), (9, true), (10, true), (11, true), (14, true), (15, true), (16, true), (17, true), (18, true), (6, false), (12, false), (13, true), (19, false), (20, true), (21, false)] (fun W' => W'.cell? ⟨gp, k * 3, none⟩ = some (.int .i64 x0) ∧ W'.cell? ⟨gp, k * 3 + 1, none⟩ = some (.int .i64 y0) ∧ W'.cell? ⟨gp, k * 3 + 2, none⟩ = some (.int .i64 z0)) (by kernel_rfl) (by kernel_rfl) (fun _ _ d _ _ h => by cases d <;> exact h) ⟨a0, a1, a2⟩ ?_
      simp only [List.filterMap_cons, List.filterMap_nil, List.getElem?_cons_zero, List.getElem?_cons_succ, Option.map_some, List.drop_succ_cons, List.drop_zero]
      iterate 16 (first | (refine wpPlan_still (v := ?_) (Or.inl ⟨by rfl, ?_⟩) ?_; rotate_left; (focus (intro W hW; (try dsimp only at hW); go_split_ands; go_simp; try with_reducible rfl)); try simp only [Act.put, List.setIfInBounds_toArray, List.set_cons_zero, List.set_cons_succ]) | (refine wpPlan_still (Or.inr ⟨by rfl, rfl⟩) ?_; try simp only [Act.put, List.setIfInBounds_toArray, List.set_cons_zero, List.set_cons_succ]))
      refine wpPlan_only (fun K hK => ?_)
      try go_simp
      (go_at_call 65; (with_reducible refine (s0 _).mono ?_); rintro X wa ⟨rfl, rfl⟩)
      refine hK.out _ _ ⟨a0, a1, a2⟩ ?_
      clear hK K
      try simp only [Act.put, List.setIfInBounds_toArray, List.set_cons_zero, List.set_cons_succ]
      refine wpPlan_only (fun K hK => ?_)
      try go_simp
      (go_at_call 65; (with_reducible refine (s1 _).mono ?_); rintro X wa ⟨rfl, rfl⟩)
      refine hK.out _ _ ⟨a0, a1, a2⟩ ?_
      clear hK K
      try simp only [Act.put, List.setIfInBounds_toArray, List.set_cons_zero, List.set_cons_succ]
      iterate 1 (first | (refine wpPlan_still (v := ?_) (Or.inl ⟨by rfl, ?_⟩) ?_; rotate_left; (focus (intro W hW; (try dsimp only at hW); go_split_ands; go_simp; try with_reducible rfl)); try simp only [Act.put, List.setIfInBounds_toArray, List.set_cons_zero, List.set_cons_succ]) | (refine wpPlan_still (Or.inr ⟨by rfl, rfl⟩) ?_; try simp only [Act.put, List.setIfInBounds_toArray, List.set_cons_zero, List.set_cons_succ]))
      refine wpPlan_only (fun K hK => ?_)
      try go_simp
      (go_at_call 65; (with_reducible refine (s2 _).mono ?_); rintro X wa ⟨rfl, rfl⟩)
      refine hK.out _ _ ⟨a0, a1, a2⟩ ?_
      clear hK K
      try simp only [Act.put, List.setIfInBounds_toArray, List.set_cons_zero, List.set_cons_succ]
      iterate 1 (first | (refine wpPlan_still (v := ?_) (Or.inl ⟨by rfl, ?_⟩) ?_; rotate_left; (focus (intro W hW; (try dsimp only at hW); go_split_ands; go_simp; try with_reducible rfl)); try simp only [Act.put, List.setIfInBounds_toArray, List.set_cons_zero, List.set_cons_succ]) | (refine wpPlan_still (Or.inr ⟨by rfl, rfl⟩) ?_; try simp only [Act.put, List.setIfInBounds_toArray, List.set_cons_zero, List.set_cons_succ]))
      refine wpPlan_only (fun K hK => ?_)
      try go_simp
      have ob := below_dr (al1 wr (.cells #[.int .i64 (X0 + Y0 + Z0)] 3))
      refine hK.out _ _ ⟨cell_later ob a0, cell_later ob a1, cell_later ob a2⟩ ?_
      clear hK K
      try simp only [Act.put, List.setIfInBounds_toArray, List.set_cons_zero, List.set_cons_succ]
      refine wpPlan_end ?_
      have hsz := B.size
      go_wp2_with (at_builtin; refine wpList_append_own_at _ rfl _ _ 30 rfl w1.heap.size 3 i0 _ 1 8 Try.underlying30 hinf hz0 hz1 hz2 rfl (by decide) _ O.length (O.flatMap zc) rfl (own_on hO ob) ⟨_, 0, none⟩ 1 1 [.int .i64 (X0 + Y0 + Z0)] rfl rfl (cell_one_new _ _ _) (by simp [Value.oneCell']) (by unfold maxLen; omega) (by omega) (by simp; omega) ?_)
      intro v' w6 r1 r2 r3 r4
      have O7 : Own zc 3 1 w1.heap.size w6 v' (O ++ [X0 + Y0 + Z0]) := own_snoc (by rw [hlen]; exact r1)
      have B7 : Below w1.heap.size w1 w6 := (belows B ob).grown r2 (by have := ob.size; omega) (fun q hq => (World.ownsRow.lt hO q hq).1)
      clear r1 r2 r3 r4 hO a0 a1 a2 s0 s1 s2 ob
      go_wp2
      go_roundw
      · exact ⟨k + 1, _, rfl, rfl, hlt, (by rw [hl.out]; exact O7), B7⟩
      · simp [intOf]; omega
    · have g1 : decide ((k : Int) < (n : Int)) = false := by simp; omega
      obtain rfl : k = n := by omega
      have hR := Own.rdz hO
      rw [← HL.out] at hR
      have hB := belows e1 B
      clear hO B
      go_wp2
      go_ret
      exact ⟨_, rfl, hR, hB⟩
end Go.Proofs.Ythphgppgdlimeaa
