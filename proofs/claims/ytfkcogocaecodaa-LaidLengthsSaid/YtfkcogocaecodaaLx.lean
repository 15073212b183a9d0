/- LaidLengths: the walk. -/
import Derived.Test.YtfkcogocaecodaaSj
import Derived.Test.YtfkcogocaecodaaLw
import Derived.Deep.CutBlock
namespace Go.Proofs.Ytfkcogocaecodaa
open Go.ChangeShapes Go.WideShapes Go.ChangeAt Go.RowKit
set_option linter.unusedVariables false
set_option linter.unusedSimpArgs false

set_option maxHeartbeats 8000000 in
set_option maxRecDepth 100000 in
theorem lengths_walk (p : Option Addr) (l : List Bar) (cap : Nat) (q : Option Addr) (rs : List Rn) (capr : Nat) (i : Int) (w : World) (hS : Slb w p l cap) (hR : Slr w q rs capr) : Calls Try.prog 4 #[.slice p l.length cap, .slice q rs.length capr, .int .i64 i] w fun e w' => e = .returned (.bool true) ∧ Below w.heap.size w w' := by
  have h14 := fun W (h : Below w.heap.size w W) => large_14 p l cap q rs capr W (hS.on h) (hR.on h)
  have h15 := fun W (h : Below w.heap.size w W) => Legs_15 p l cap q rs capr i W (hS.on h) (hR.on h)
  go_enter Try.func4, Try.ntmps4
  go_upto_region 3 with (go_at_call 8; (with_reducible refine (awake_8 _).mono ?_); rintro X w1 ⟨rfl, hb1⟩)
  go_wp2_with (go_at_call 14; (with_reducible refine (h14 _ hb1).mono ?_); rintro X w2 ⟨⟨o, rfl⟩, hb2⟩; refine StopI.out ?_)
  have B2 := belows hb1 hb2
  clear hb1 hb2 h14
  cases o
  case true =>
    refine StopI.mk ?_
    go_wp2
    go_ret
    exact ⟨rfl, B2⟩
  refine StopI.mk ?_
  rcases legsC_or l rs i with ⟨c, hc, hl⟩ | ⟨hv, k0, x, rfl, hx, hl⟩
  · rw [hl] at h15
    dsimp only at h15
    clear hl
    rcases hc with rfl | rfl
    · go_wp2_with (go_at_call 15; (with_reducible refine (h15 _ B2).mono ?_); rintro X w3 ⟨v, rfl, hO, hb3⟩; obtain ⟨q1, c1, rfl, -⟩ := Own.rd cbl hO; simp only [List.length_nil])
      go_ret
      exact ⟨rfl, belows B2 hb3⟩
    · go_wp2_with (go_at_call 15; (with_reducible refine (h15 _ B2).mono ?_); rintro X w3 ⟨v, rfl, hO, hb3⟩; obtain ⟨q1, c1, rfl, -⟩ := Own.rd cbl hO; simp only [List.length_nil])
      go_ret
      exact ⟨rfl, belows B2 hb3⟩
  rw [hl] at h15
  dsimp only at h15
  have h16 := fun W (h : Below w.heap.size w W) => Mark_16 p l cap q rs capr k0 W (hS.on h) (hR.on h)
  have h23 := fun W (h : Below w.heap.size w W) => Hull_23 p l cap q rs capr k0 W (hS.on h) (hR.on h)
  rw [markC_some hv hx] at h16
  rw [hullC_some hv hx] at h23
  dsimp only at h16 h23
  obtain ⟨kb, hkb, hbb, hfd, hlen, hn0, hn6, hlens, hbo, hto⟩ := leg_facts hv hx
  have h19 := fun W (h : Below w.heap.size w W) => Legs_ok l[kb] W ((hS.ok l[kb] (List.getElem_mem hkb)).on h) hbb
  have h17 := fun c W (h : Below w.heap.size w W) (hc : W.cell? ⟨c, 0, none⟩ = some (.string x.1)) => idx18 c x.1 p l cap W (hS.on h) hc
  rw [hfd] at h17
  have HAt := Lib.hid (fun W (h : Below w.heap.size w W) => (hS.on h).at_ kb hkb)
  have hlm : l.length ≤ maxLen := hS.mx
  unfold maxLen at hlm
  generalize lgsP x.2 = L at *
  generalize x.1 = m at *
  have q1k : (0 : Int) ≤ (kb : Int) := by omega
  have q2k : (kb : Int) < (l.length : Int) := by omega
  have g1k : decide ((kb : Int) < 0) = false := by simp
  have HBO := Lib.hid hbo
  have HTo := Lib.hid hto
  have HLe := Lib.hid hlens
  generalize hcd : nl l[kb].code = n at *
  have HNL := Lib.hid hlen
  have HN := Lib.hid (And.intro hn0 hn6)
  have HOKL : Hid (L.all Bx.ok = true) := Lib.hid (List.all_eq_true.2 fun b hb => (hbo b hb).2)
  clear hx hl hv hfd hlen hn0 hn6 hlens hbo hto hbb
  generalize hmc : mc l[kb].code = cc at *
  generalize legs l[kb] = zs at *
  clear hcd hmc
  rw [vcs] at h19
  generalize l[kb] = bar at *
  obtain ⟨bm, bs, bct, bcd, dp, ds, dc⟩ := bar
  dsimp only at *
  obtain ⟨H, hH⟩ : ∃ H, H = hullL L := ⟨_, rfl⟩
  rw [← hH] at h23
  have h22 := fun B W v (hO : Own cb 54 6 B W v L) => boxhull_22 hO (by have := HNL.out; have := HN.out; omega) HOKL.out
  rw [← hH] at h22
  clear hH
  obtain ⟨ha, hb', hc', hd, he, hf⟩ := H
  unfold Bx.val at h22 h23
  dsimp only at h22 h23
  go_upto_region 8 with (go_at_call 15; (with_reducible refine (h15 _ B2).mono ?_); rintro X w3 ⟨v, rfl, hO, hb3⟩; obtain ⟨q1, c1, rfl, K1⟩ := Own.rd cbl hO; simp only [HNL.out])
  have B3 := belows B2 hb3
  simp only [HNL.out] at hO
  obtain ⟨B1, hB1⟩ : ∃ B1, B1 = w2.heap.size := ⟨_, rfl⟩
  rw [← hB1] at hO
  obtain ⟨g1, hg1, -⟩ := K1 0 (by have := HNL.out; have := HN.out; omega)
  subst hg1
  clear K1 hB1 hb3 B2 h15
  go_upto_region 9 with (go_at_call 16; (with_reducible refine (h16 _ B3).mono ?_); rintro X w4 ⟨rfl, hb4⟩)
  have E : Env w w4 [] := ⟨belows B3 hb4, trivial⟩
  have hO4 := own_on (own_on hO hb4) (al1 w4 (.cells #[.string m] 9))
  replace E := E.add w4.heap.size 9 #[.string m] rfl
  clear hO hb4 B3 h16
  have C := E.cells
  simp [BC, CF] at C
  generalize w4.alloc (.cells #[.string m] 9) = w5 at *
  generalize w4.heap.size = mb at *
  have C := E.cells
  simp [BC, CF] at C
  have hmk : w5.cell? ⟨mb, 0, none⟩ = some (.string m) := E.2.2.1.read 0
  go_upto_region 10 with (go_at_call 17; (with_reducible refine (h17 mb _ (envb E) hmk).mono ?_); rintro X w6 ⟨rfl, hb6⟩)
  have hO6 := own_on hO4 hb6
  replace E := E.on hb6
  clear C hmk hO4 hb6 h17
  obtain ⟨a, rfl, c0, c1', c2, c3, c4⟩ := HAt.out w6 (envb E)
  dsimp only at c0 c1' c2 c3 c4
  generalize ds.length = dl at *
  go_wp2_with (go_at_call 19; (with_reducible refine (h19 _ (envb E)).mono ?_); rintro X w7 ⟨g2, rfl, hRz, hb7⟩)
  have HBW := Lib.hid (belows (envb E) hb7)
  have HO7 := Lib.hid (own_on hO6 hb7)
  have KP := Lib.hid (rows_rd (own_rdx (own_on hO6 hb7)) hRz HNL.out HLe.out HBO.out)
  clear hO6 hRz hb7 E c0 c1' c2 c3 c4 HAt h19 hlm q1k q2k g1k
  generalize w7 = s1 at *
  go_loopw [73] (fun v wr => ∃ j : Nat, v = .int .i64 j ∧ j ≤ n ∧ Below s1.heap.size s1 wr) (fun v _ => n - (intOf v).toNat)
  case atStart => exact ⟨0, rfl, Nat.zero_le _, Below.refl _ _⟩
  case round =>
    obtain ⟨j, rfl, hj, D⟩ := hrel
    have hn6 := HN.out.2
    by_cases hlt : j < n
    · have g5 : decide ((j : Int) < (n : Int)) = true := by simp [hlt]
      have W5 : IntKind.i64.wrap ((j : Int) + 1) = ((j + 1 : Nat) : Int) := by rw [IntWalk.i64_in _ (by omega)]; omega
      obtain ⟨b, hbj, hbd, hok, m1, z1⟩ := KP.out j hlt
      have HM1 := Lib.hid m1
      have h20 := fun W => length_20 b hbd W
      have HBJ := Lib.hid hbj
      have HBD := Lib.hid (And.intro hbd hok)
      obtain ⟨a0, a1, a2, a3, a4, a5⟩ := m1.on D
      have hz1 := cell_later' D z1
      have HZ := Lib.hid (fun W (h : Below wr.heap.size wr W) => cell_later' h hz1)
      generalize lenB b = z at *
      have HBe : Hid (b = ⟨b.a, b.b, b.c, b.d, b.e, b.f⟩) := Lib.hid rfl
      unfold Bx.bd at hbd
      unfold Bx.val at h20
      generalize b.a = ba at *
      generalize b.b = bb at *
      generalize b.c = bc at *
      generalize b.d = bd at *
      generalize b.e = be at *
      generalize b.f = bf at *
      have t1 : decide (ba < -1048576) = false := by simp; omega
      have t2 : decide (bb < -1048576) = false := by simp; omega
      have t3 : decide (bc < -1048576) = false := by simp; omega
      have t4 : decide (bd > 1048576) = false := by simp; omega
      have t5 : decide (be > 1048576) = false := by simp; omega
      have t6 : decide (bf > 1048576) = false := by simp; omega
      have q1' : (0 : Int) ≤ (j : Int) := by omega
      have q2' : (j : Int) < (n : Int) := by omega
      clear hbd hok hbj m1 z1 hz1
      go_upto_region 18 with fail
      clear a0 a1 a2 a3 a4 a5
      have AV := Has.new_ wr 54 #[.int .i64 ba, .int .i64 bb, .int .i64 bc, .int .i64 bd, .int .i64 be, .int .i64 bf]
      have DV := belows D (al1 wr (.cells #[.int .i64 ba, .int .i64 bb, .int .i64 bc, .int .i64 bd, .int .i64 be, .int .i64 bf] 54))
      have HZV := Lib.hid (fun W h => HZ.out W (belows (al1 wr (.cells #[.int .i64 ba, .int .i64 bb, .int .i64 bc, .int .i64 bd, .int .i64 be, .int .i64 bf] 54)) h))
      clear HZ
      generalize wr.alloc (.cells #[.int .i64 ba, .int .i64 bb, .int .i64 bc, .int .i64 bd, .int .i64 be, .int .i64 bf] 54) = V at *
      generalize wr.heap.size = pb at *
      have HK : Hid (∀ W', Below V.heap.size V W' → Below V.heap.size V W' ∧ (W'.cell? ⟨pb, 0, none⟩ = some (.int .i64 ba) ∧ W'.cell? ⟨pb, 1, none⟩ = some (.int .i64 bb) ∧ W'.cell? ⟨pb, 2, none⟩ = some (.int .i64 bc) ∧ W'.cell? ⟨pb, 3, none⟩ = some (.int .i64 bd) ∧ W'.cell? ⟨pb, 4, none⟩ = some (.int .i64 be) ∧ W'.cell? ⟨pb, 5, none⟩ = some (.int .i64 bf)) ∧ W'.cell? ⟨g2, j, none⟩ = some (.int .i64 z)) := Lib.hid fun W' hb =>
        ⟨hb, ⟨(AV.on hb).read 0, (AV.on hb).read 1, (AV.on hb).read 2, (AV.on hb).read 3, (AV.on hb).read 4, (AV.on hb).read 5⟩, HZV.out W' hb⟩
      have HAV := Lib.hid (And.intro AV DV)
      clear AV DV HZV D
      refine wp_region_plan 42 [(0, true), (2, true), (3, true), (4, true), (5, true), (1, false), (6, true), (7, true), (8, true), (9, true), (10, true), (11, true), (12, true), (13, true), (14, true), (15, true), (16, true), (17, true), (18, true), (19, true), (20, true), (21, true), (22, true), (23, true), (24, true), (25, true), (26, true), (27, true), (28, true), (29, true), (30, true), (31, true), (32, true), (33, true), (34, true), (35, true), (36, true), (37, true), (38, true), (39, true), (40, true), (41, true)] (fun W' => Below V.heap.size V W' ∧ (W'.cell? ⟨pb, 0, none⟩ = some (.int .i64 ba) ∧ W'.cell? ⟨pb, 1, none⟩ = some (.int .i64 bb) ∧ W'.cell? ⟨pb, 2, none⟩ = some (.int .i64 bc) ∧ W'.cell? ⟨pb, 3, none⟩ = some (.int .i64 bd) ∧ W'.cell? ⟨pb, 4, none⟩ = some (.int .i64 be) ∧ W'.cell? ⟨pb, 5, none⟩ = some (.int .i64 bf)) ∧ W'.cell? ⟨g2, j, none⟩ = some (.int .i64 z)) (by kernel_rfl) (by kernel_rfl) (fun _ _ d _ _ h => by cases d <;> exact h) (HK.out _ (below_dr (Below.refl _ _))) ?_
      simp only [List.filterMap_cons, List.filterMap_nil, List.getElem?_cons_zero, List.getElem?_cons_succ, Option.map_some, List.drop_succ_cons, List.drop_zero]
      iterate 5 (first | (refine wpPlan_still (v := ?_) (Or.inl ⟨by rfl, ?_⟩) ?_; rotate_left; (focus (intro W hW; (try dsimp only at hW); go_split_ands; go_simp; try with_reducible rfl)); try simp only [Act.put, List.setIfInBounds_toArray, List.set_cons_zero, List.set_cons_succ]) | (refine wpPlan_still (Or.inr ⟨by rfl, rfl⟩) ?_; try simp only [Act.put, List.setIfInBounds_toArray, List.set_cons_zero, List.set_cons_succ]))
      refine wpPlan_only (fun K hK => ?_)
      try go_simp
      (go_at_call 20; (with_reducible refine (h20 _).mono ?_); rintro X wq ⟨rfl, hb⟩)
      refine hK.out _ _ (HK.out _ (belows (below_dr (Below.refl _ _)) hb)) ?_
      clear hK K
      try simp only [Act.put, List.setIfInBounds_toArray, List.set_cons_zero, List.set_cons_succ]
      iterate 36 (first | (refine wpPlan_still (v := ?_) (Or.inl ⟨by rfl, ?_⟩) ?_; rotate_left; (focus (intro W hW; (try dsimp only at hW); go_split_ands; go_simp; try with_reducible rfl)); try simp only [Act.put, List.setIfInBounds_toArray, List.set_cons_zero, List.set_cons_succ]) | (refine wpPlan_still (Or.inr ⟨by rfl, rfl⟩) ?_; try simp only [Act.put, List.setIfInBounds_toArray, List.set_cons_zero, List.set_cons_succ]))
      refine wpPlan_end ?_
      have HAq := Lib.hid ((HAV.out.1).on (belows (below_dr (Below.refl V.heap.size V)) hb))
      have D2 := belows HAV.out.2 (belows (below_dr (Below.refl V.heap.size V)) hb)
      clear HK hb
      by_cases hj0 : j = 0
      · have g6 : decide ((j : Int) > 0) = false := by simp; omega
        have g7 : decide (0 < j) = false := by simp; omega
        clear hj0
        go_wp2
        go_roundw
        case rel => exact ⟨j + 1, rfl, hlt, D2⟩
        case measure => simp [intOf]; omega
      · have g6 : decide ((j : Int) > 0) = true := by simp; omega
        have g7 : decide (0 < j) = true := by simp; omega
        obtain ⟨jp, hjp⟩ : ∃ jp, j = jp + 1 := ⟨j - 1, by omega⟩
        obtain ⟨bp, hbp, hbdp, hokp, mp, -⟩ := KP.out jp (by omega)
        have htc := HTo.out jp bp b hbp (by rw [← hjp]; exact HBJ.out)
        have W6 : IntKind.i64.wrap ((j : Int) - 1) = (jp : Int) := by rw [IntWalk.i64_in _ (by omega)]; omega
        have h21 := fun W => touch_21 bp b hokp HBD.out.2 hbdp HBD.out.1 htc W
        rw [HBe.out] at h21
        have q3' : (0 : Int) ≤ (jp : Int) := by omega
        have q4' : (jp : Int) < (n : Int) := by omega
        have HMP := Lib.hid (fun W (h : Below wq.heap.size wq W) => mp.on (belows D2 h))
        clear hbp hbdp hokp mp htc hjp hj0
        obtain ⟨pa, pb_, pc_, pd, pe, pf⟩ := bp
        unfold Cx6 at HMP
        unfold Bx.val at h21
        dsimp only at h21 HMP
        have C18 : wq.cell? ⟨pb, 0, none⟩ = some (.int .i64 ba) := HAq.out.read 0
        go_upto_region 21 with fail
        clear C18
        generalize wq = V2 at *
        have HK2 : Hid (∀ W', Below V2.heap.size V2 W' → Below V2.heap.size V2 W' ∧ (W'.cell? ⟨pb, 0, none⟩ = some (.int .i64 ba) ∧ W'.cell? ⟨pb, 1, none⟩ = some (.int .i64 bb) ∧ W'.cell? ⟨pb, 2, none⟩ = some (.int .i64 bc) ∧ W'.cell? ⟨pb, 3, none⟩ = some (.int .i64 bd) ∧ W'.cell? ⟨pb, 4, none⟩ = some (.int .i64 be) ∧ W'.cell? ⟨pb, 5, none⟩ = some (.int .i64 bf)) ∧ (W'.cell? ⟨g1, jp * 6, none⟩ = some (.int .i64 pa) ∧ W'.cell? ⟨g1, jp * 6 + 1, none⟩ = some (.int .i64 pb_) ∧ W'.cell? ⟨g1, jp * 6 + 2, none⟩ = some (.int .i64 pc_) ∧ W'.cell? ⟨g1, jp * 6 + 3, none⟩ = some (.int .i64 pd) ∧ W'.cell? ⟨g1, jp * 6 + 4, none⟩ = some (.int .i64 pe) ∧ W'.cell? ⟨g1, jp * 6 + 5, none⟩ = some (.int .i64 pf))) := Lib.hid fun W' hb =>
          ⟨hb, ⟨(HAq.out.on hb).read 0, (HAq.out.on hb).read 1, (HAq.out.on hb).read 2, (HAq.out.on hb).read 3, (HAq.out.on hb).read 4, (HAq.out.on hb).read 5⟩, HMP.out W' hb⟩
        have HD2 := Lib.hid D2
        clear D2
        refine wp_region_plan 11 [(0, true), (1, true), (2, true), (3, true), (4, true), (5, true), (6, false), (7, true), (8, true), (9, true), (10, true)] (fun W' => Below V2.heap.size V2 W' ∧ (W'.cell? ⟨pb, 0, none⟩ = some (.int .i64 ba) ∧ W'.cell? ⟨pb, 1, none⟩ = some (.int .i64 bb) ∧ W'.cell? ⟨pb, 2, none⟩ = some (.int .i64 bc) ∧ W'.cell? ⟨pb, 3, none⟩ = some (.int .i64 bd) ∧ W'.cell? ⟨pb, 4, none⟩ = some (.int .i64 be) ∧ W'.cell? ⟨pb, 5, none⟩ = some (.int .i64 bf)) ∧ (W'.cell? ⟨g1, jp * 6, none⟩ = some (.int .i64 pa) ∧ W'.cell? ⟨g1, jp * 6 + 1, none⟩ = some (.int .i64 pb_) ∧ W'.cell? ⟨g1, jp * 6 + 2, none⟩ = some (.int .i64 pc_) ∧ W'.cell? ⟨g1, jp * 6 + 3, none⟩ = some (.int .i64 pd) ∧ W'.cell? ⟨g1, jp * 6 + 4, none⟩ = some (.int .i64 pe) ∧ W'.cell? ⟨g1, jp * 6 + 5, none⟩ = some (.int .i64 pf))) (by kernel_rfl) (by kernel_rfl) (fun _ _ d _ _ h => by cases d <;> exact h) (HK2.out _ (below_dr (Below.refl _ _))) ?_
        simp only [List.filterMap_cons, List.filterMap_nil, List.getElem?_cons_zero, List.getElem?_cons_succ, Option.map_some, List.drop_succ_cons, List.drop_zero]
        iterate 6 (first | (refine wpPlan_still (v := ?_) (Or.inl ⟨by rfl, ?_⟩) ?_; rotate_left; (focus (intro W hW; (try dsimp only at hW); go_split_ands; go_simp; try with_reducible rfl)); try simp only [Act.put, List.setIfInBounds_toArray, List.set_cons_zero, List.set_cons_succ]) | (refine wpPlan_still (Or.inr ⟨by rfl, rfl⟩) ?_; try simp only [Act.put, List.setIfInBounds_toArray, List.set_cons_zero, List.set_cons_succ]))
        refine wpPlan_only (fun K hK => ?_)
        try go_simp
        (go_at_call 21; (with_reducible refine (h21 _).mono ?_); rintro X wq2 ⟨rfl, hb2⟩)
        refine hK.out _ _ (HK2.out _ (belows (below_dr (Below.refl _ _)) hb2)) ?_
        clear hK K
        try simp only [Act.put, List.setIfInBounds_toArray, List.set_cons_zero, List.set_cons_succ]
        iterate 4 (first | (refine wpPlan_still (v := ?_) (Or.inl ⟨by rfl, ?_⟩) ?_; rotate_left; (focus (intro W hW; (try dsimp only at hW); go_split_ands; go_simp; try with_reducible rfl)); try simp only [Act.put, List.setIfInBounds_toArray, List.set_cons_zero, List.set_cons_succ]) | (refine wpPlan_still (Or.inr ⟨by rfl, rfl⟩) ?_; try simp only [Act.put, List.setIfInBounds_toArray, List.set_cons_zero, List.set_cons_succ]))
        refine wpPlan_end ?_
        have D3 := belows HD2.out (belows (below_dr (Below.refl V2.heap.size V2)) hb2)
        clear hb2 HK2
        go_wp2
        go_roundw
        case rel => exact ⟨j + 1, rfl, hlt, D3⟩
        case measure => simp [intOf]; omega
    · have g5 : decide ((j : Int) < (n : Int)) = false := by simp; omega
      have B9 : Below w.heap.size w wr := belows HBW.out D
      have O9 : Own cb 54 6 B1 wr (.slice (some ⟨g1, 0, none⟩) n c1) L := own_on HO7.out D
      clear D
      go_upto_region 26 with (go_at_call 22; (with_reducible refine (h22 _ _ _ O9).mono ?_); rintro X w8 ⟨rfl, hb8⟩)
      have E : Env w w8 [] := ⟨belows B9 hb8, trivial⟩
      replace E := E.add w8.heap.size 54 #[.int .i64 ha, .int .i64 hb', .int .i64 hc', .int .i64 hd, .int .i64 he, .int .i64 hf] rfl
      clear O9 B9 hb8
      generalize w8.alloc (.cells #[.int .i64 ha, .int .i64 hb', .int .i64 hc', .int .i64 hd, .int .i64 he, .int .i64 hf] 54) = w9 at *
      generalize w8.heap.size = m1 at *
      go_upto_region 27 with (go_at_call 23; (with_reducible refine (h23 _ (envb E)).mono ?_); rintro X w10 ⟨rfl, hb10⟩)
      replace E := (E.on hb10).add w10.heap.size 54 #[.int .i64 ha, .int .i64 hb', .int .i64 hc', .int .i64 hd, .int .i64 he, .int .i64 hf] rfl
      clear hb10
      generalize w10.alloc (.cells #[.int .i64 ha, .int .i64 hb', .int .i64 hc', .int .i64 hd, .int .i64 he, .int .i64 hf] 54) = w11 at *
      generalize w10.heap.size = m2 at *
      have C := E.cells
      simp [BC, CF] at C
      have heq : ∀ W, (binOp .eql 54 (.agg #[.int .i64 ha, .int .i64 hb', .int .i64 hc', .int .i64 hd, .int .i64 he, .int .i64 hf]) (.agg #[.int .i64 ha, .int .i64 hb', .int .i64 hc', .int .i64 hd, .int .i64 he, .int .i64 hf])).run Try.prog W = .ok (.bool true) W := fun W => (eq54 ⟨ha, hb', hc', hd, he, hf⟩ ⟨ha, hb', hc', hd, he, hf⟩ W).trans (by rw [decide_eq_true rfl])
      go_wp2
      go_ret
      exact ⟨rfl, envb E⟩
end Go.Proofs.Ytfkcogocaecodaa
