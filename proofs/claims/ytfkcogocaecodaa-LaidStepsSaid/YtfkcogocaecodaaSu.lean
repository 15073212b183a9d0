/- LaidSteps: the walk. -/
import Derived.Test.YtfkcogocaecodaaSj
import Derived.Test.YtfkcogocaecodaaSt
import Derived.Deep.CutBlock
namespace Go.Proofs.Ytfkcogocaecodaa
open Go.ChangeShapes Go.WideShapes Go.ChangeAt Go.RowKit
set_option linter.unusedVariables false
set_option linter.unusedSimpArgs false

set_option maxHeartbeats 8000000 in
set_option maxRecDepth 100000 in
theorem steps_walk (p : Option Addr) (l : List Bar) (cap : Nat) (q : Option Addr) (rs : List Rn) (capr : Nat) (i : Int) (d : Pt) (w : World) (hS : Slb w p l cap) (hR : Slr w q rs capr) : Calls Try.prog 5 #[.slice p l.length cap, .slice q rs.length capr, .int .i64 i, d.val] w fun e w' => e = .returned (.bool true) ∧ Below w.heap.size w w' := by
  have h14 := fun W (h : Below w.heap.size w W) => large_14 p l cap q rs capr W (hS.on h) (hR.on h)
  have h15 := fun W (h : Below w.heap.size w W) => Legs_15 p l cap q rs capr i W (hS.on h) (hR.on h)
  obtain ⟨dx, dy, dz⟩ := d
  unfold Pt.val
  dsimp only
  have E := (Env.nil w).add w.heap.size 24 #[.int .i64 dx, .int .i64 dy, .int .i64 dz] rfl
  go_enter Try.func5, Try.ntmps5
  go_upto_region 3 with (go_at_call 8; (with_reducible refine (awake_8 _).mono ?_); rintro X w1 ⟨rfl, hb1⟩; replace E := E.on hb1; clear hb1)
  go_wp2_with (go_at_call 14; (with_reducible refine (h14 _ (envb E)).mono ?_); rintro X w2 ⟨⟨o, rfl⟩, hb2⟩; refine StopI.out ?_)
  replace E := E.on hb2
  clear hb2 h14
  cases o
  case true =>
    refine StopI.mk ?_
    go_wp2
    go_ret
    exact ⟨rfl, envb E⟩
  refine StopI.mk ?_
  rcases legsC_or l rs i with ⟨c, hc, hl⟩ | ⟨hv, k0, x, rfl, hx, hl⟩
  · rw [hl] at h15
    dsimp only at h15
    clear hl
    rcases hc with rfl | rfl
    · go_wp2_with (go_at_call 15; (with_reducible refine (h15 _ (envb E)).mono ?_); rintro X w3 ⟨v, rfl, hO, hb3⟩; obtain ⟨q1, c1, rfl, -⟩ := Own.rd cbl hO; simp only [List.length_nil])
      go_ret
      exact ⟨rfl, belows (envb E) hb3⟩
    · go_wp2_with (go_at_call 15; (with_reducible refine (h15 _ (envb E)).mono ?_); rintro X w3 ⟨v, rfl, hO, hb3⟩; obtain ⟨q1, c1, rfl, -⟩ := Own.rd cbl hO; simp only [List.length_nil])
      go_ret
      exact ⟨rfl, belows (envb E) hb3⟩
  rw [hl] at h15
  dsimp only at h15
  obtain ⟨hn6, hlb⟩ := lgs_len hv hx
  obtain ⟨hvl, h60, hfit, htot⟩ := validR_and hv
  have hk0 : (k0 : Int) < totR rs := by rw [← lay_len hfit]; have := (List.getElem?_eq_some_iff.1 hx).1; omega
  obtain ⟨L, hL⟩ : ∃ L, L = lgsP x.2 := ⟨_, rfl⟩
  obtain ⟨n, hn⟩ : ∃ n, L.length = n := ⟨_, rfl⟩
  have HX := Lib.hid hx
  have HLL : Hid (lgsP x.2 = L) := Lib.hid hL.symm
  rw [← hL] at h15 hn6 hlb
  rw [hn] at hn6
  have HN6 := Lib.hid hn6
  have HNL := Lib.hid hn
  have HLB := Lib.hid hlb
  have HV := Lib.hid hv
  have H60 := Lib.hid h60
  have HF := Lib.hid hfit
  have HK0 : Hid ((k0 : Int) < totR rs ∧ totR rs ≤ 2000) := Lib.hid ⟨hk0, htot⟩
  clear hx hL hn hn6 hlb hv hvl h60 hfit htot hk0 hl
  go_upto_region 6 with (go_at_call 15; (with_reducible refine (h15 _ (envb E)).mono ?_); rintro X w3 ⟨v, rfl, hO, hb3⟩; obtain ⟨q1, c1, rfl, -⟩ := Own.rd cbl hO; simp only [HNL.out])
  have HE1 := Lib.hid (E.on hb3)
  simp only [HNL.out] at hO
  obtain ⟨B1, hB1⟩ : ∃ B1, B1 = w2.heap.size := ⟨_, rfl⟩
  rw [← hB1] at hO
  have HO1 := Lib.hid hO
  clear hO E hb3 hB1
  generalize w3 = s1 at *
  go_upto_region 9 with fail
  go_wp2
  go_loopw [11, 44] (fun v11 v wr => ∃ kr j : Nat, v = .int .i64 kr ∧ v11 = .int .i64 j ∧ kr ≤ rs.length ∧ (k0 : Int) = totR (rs.take kr) + j ∧ Below s1.heap.size s1 wr) (fun _ v _ => rs.length - (intOf v).toNat)
  case atStart => exact ⟨0, k0, rfl, rfl, Nat.zero_le _, by simp [totR], Below.refl _ _⟩
  case round =>
    obtain ⟨kr, j, rfl, rfl, hkr, hj, D0⟩ := hrel
    have h60 := H60.out
    have hk2 := HK0.out
    by_cases hltr : kr < rs.length
    · have g1 : decide ((kr : Int) < (rs.length : Int)) = true := by simp [hltr]
      have W1 : IntKind.i64.wrap ((kr : Int) + 1) = ((kr + 1 : Nat) : Int) := by rw [IntWalk.i64_in _ (by omega)]; omega
      obtain ⟨a, rfl, h0, h1, h2, h3, h4, h5, h6, h7, h8, h9⟩ := (hR.on (envb (HE1.out.on D0))).at_ kr hltr
      have hct := fitsM_ct (HF.out _ (List.getElem_mem hltr))
      have htk := totR_take hltr
      have hfk : ∀ r ∈ rs.take kr, 1 ≤ r.ct ∧ r.ct ≤ 1000 := fun r hr => fitsM_ct (HF.out r (List.mem_of_mem_take hr))
      have htb := totR_bd hfk
      have HNx : Hid ((j : Int) + 1 < rs[kr].ct → legsC l rs ((k0 : Int) + 1) = (L.map (shB rs[kr].st), 0) ∧ rs[kr].st.bd 2097152) := Lib.hid fun h => by
        have := legs_next HV.out hltr hj h HX.out
        rw [HLL.out] at this
        exact this
      generalize rs[kr] = r at *
      obtain ⟨rm, ⟨tx, ty⟩, ⟨ax, ay, az⟩, ⟨sx, sy, sz⟩, ct⟩ := r
      dsimp only at *
      have HT := Lib.hid (And.intro hj htk)
      have HR1 := Has.new_ wr 30 #[.string rm, .int .i64 tx, .int .i64 ty, .int .i64 ax, .int .i64 ay, .int .i64 az, .int .i64 sx, .int .i64 sy, .int .i64 sz, .int .i64 ct]
      have D1 := belows D0 (al1 wr (.cells #[.string rm, .int .i64 tx, .int .i64 ty, .int .i64 ax, .int .i64 ay, .int .i64 az, .int .i64 sx, .int .i64 sy, .int .i64 sz, .int .i64 ct] 30))
      clear hfk D0
      by_cases c1 : (j : Int) < ct
      · have g2 : decide ((j : Int) < ct) = true := by simp [c1]
        have W2 : IntKind.i64.wrap ((j : Int) + 1) = (j : Int) + 1 := IntWalk.i64_in _ (by omega)
        go_upto_region 12 with fail
        generalize wr.alloc (.cells #[.string rm, .int .i64 tx, .int .i64 ty, .int .i64 ax, .int .i64 ay, .int .i64 az, .int .i64 sx, .int .i64 sy, .int .i64 sz, .int .i64 ct] 30) = w4 at *
        generalize wr.heap.size = rb at *
        clear h0 h1 h2 h3 h4 h5 h6 h7 h8 h9
        have r9 := HR1.read 9
        simp only [List.getElem?_toArray, List.getElem?_cons_succ, List.getElem?_cons_zero] at r9
        by_cases c2 : (j : Int) + 1 < ct
        · have g3 : decide ((j : Int) + 1 < ct) = true := by simp [c2]
          obtain ⟨hnx, hsb⟩ := HNx.out c2
          have W3 : IntKind.i64.wrap ((k0 : Int) + 1) = (k0 : Int) + 1 := IntWalk.i64_in _ (by omega)
          have h15n := Legs_15 p l cap (some a) rs capr ((k0 : Int) + 1) w4 (hS.on (envb (HE1.out.on D1))) (hR.on (envb (HE1.out.on D1)))
          rw [hnx] at h15n
          dsimp only at h15n
          have HSB := Lib.hid hsb
          have HD1 := Lib.hid D1
          have HHR := Lib.hid HR1
          clear hnx hsb htb htk hct hj D1 HR1
          go_wp2_with (go_at_call 15; (with_reducible refine h15n.mono ?_); rintro X w6 ⟨v6, rfl, hO6, hb6⟩; obtain ⟨q6, c6, rfl, -⟩ := Own.rd cbl hO6; simp only [List.length_map, HNL.out])
          have R6 := own_rdx hO6
          simp only [List.length_map, HNL.out] at R6
          have KP := Lib.hid (pair_rd (own_rdx (own_on (own_on HO1.out HD1.out) hb6)) R6 HNL.out HLB.out)
          have HD2 := Lib.hid (belows HD1.out hb6)
          have HBW := HD2
          have HSt : Hid (∀ W, Below w6.heap.size w6 W → W.cell? ⟨rb, 6, none⟩ = some (.int .i64 sx) ∧ W.cell? ⟨rb, 7, none⟩ = some (.int .i64 sy) ∧ W.cell? ⟨rb, 8, none⟩ = some (.int .i64 sz)) := Lib.hid fun W h => by
            have A := (HHR.out.on hb6).on h
            exact ⟨A.read 6, A.read 7, A.read 8⟩
          clear R6 hO6 hb6 HHR r9 HD1
          generalize w6 = s2 at *
          go_loopw [76] (fun v wr => ∃ k : Nat, v = .int .i64 k ∧ k ≤ n ∧ Below s2.heap.size s2 wr) (fun v _ => n - (intOf v).toNat)
          case atStart => exact ⟨0, rfl, Nat.zero_le _, Below.refl _ _⟩
          case round =>
            obtain ⟨k, rfl, hk, D⟩ := hrel
            have hn6 := HN6.out
            by_cases hlt : k < n
            · have g5 : decide ((k : Int) < (n : Int)) = true := by simp [hlt]
              have W5 : IntKind.i64.wrap ((k : Int) + 1) = ((k + 1 : Nat) : Int) := by rw [IntWalk.i64_in _ (by omega)]; omega
              obtain ⟨g1, g2, b, rfl, rfl, hbd, m1, m2⟩ := KP.out k hlt
              have HK0 := Lib.hid (fun W (h : Below wr.heap.size wr W) => And.intro (m2.on (belows D h)) (HSt.out W (belows D h)))
              obtain ⟨a0, a1, a2, a3, a4, a5⟩ := m1.on D
              obtain ⟨ba, bb, bc, bd, be, bf⟩ := b
              unfold Cx6 shB at HK0
              unfold Bx.bd at hbd
              dsimp only at *
              have hsb := HSB.out
              unfold Pt.bd at hsb
              dsimp only at hsb
              have h24a := fun W => plus_24 ba bb bc sx sy sz (ba + sx) (bb + sy) (bc + sz) (i64w (by unfold I64; omega)) (i64w (by unfold I64; omega)) (i64w (by unfold I64; omega)) W
              have h24b := fun W => plus_24 bd be bf sx sy sz (bd + sx) (be + sy) (bf + sz) (i64w (by unfold I64; omega)) (i64w (by unfold I64; omega)) (i64w (by unfold I64; omega)) W
              have hne : ∀ W, (binOp .neq 54 (.agg #[.int .i64 (ba + sx), .int .i64 (bb + sy), .int .i64 (bc + sz), .int .i64 (bd + sx), .int .i64 (be + sy), .int .i64 (bf + sz)]) (.agg #[.int .i64 (ba + sx), .int .i64 (bb + sy), .int .i64 (bc + sz), .int .i64 (bd + sx), .int .i64 (be + sy), .int .i64 (bf + sz)])).run Try.prog W = .ok (.bool false) W := fun W => (ne54 ⟨ba + sx, bb + sy, bc + sz, bd + sx, be + sy, bf + sz⟩ ⟨ba + sx, bb + sy, bc + sz, bd + sx, be + sy, bf + sz⟩ W).trans (by rw [decide_eq_true rfl]; rfl)
              have q1' : (0 : Int) ≤ (k : Int) := by omega
              have q2' : (k : Int) < (n : Int) := by omega
              clear m1 m2 hbd hsb
              go_upto_region 20 with fail
              clear a0 a1 a2 a3 a4 a5
              have AV := Has.new_ wr 54 #[.int .i64 ba, .int .i64 bb, .int .i64 bc, .int .i64 bd, .int .i64 be, .int .i64 bf]
              have DV := belows D (al1 wr (.cells #[.int .i64 ba, .int .i64 bb, .int .i64 bc, .int .i64 bd, .int .i64 be, .int .i64 bf] 54))
              have HK1 := Lib.hid (fun W h => HK0.out W (belows (al1 wr (.cells #[.int .i64 ba, .int .i64 bb, .int .i64 bc, .int .i64 bd, .int .i64 be, .int .i64 bf] 54)) h))
              clear HK0
              generalize wr.alloc (.cells #[.int .i64 ba, .int .i64 bb, .int .i64 bc, .int .i64 bd, .int .i64 be, .int .i64 bf] 54) = V at *
              generalize wr.heap.size = pb at *
              have HK : Hid (∀ W', Below V.heap.size V W' → Below V.heap.size V W' ∧ (W'.cell? ⟨g2, k * 6, none⟩ = some (.int .i64 (ba + sx)) ∧ W'.cell? ⟨g2, k * 6 + 1, none⟩ = some (.int .i64 (bb + sy)) ∧ W'.cell? ⟨g2, k * 6 + 2, none⟩ = some (.int .i64 (bc + sz)) ∧ W'.cell? ⟨g2, k * 6 + 3, none⟩ = some (.int .i64 (bd + sx)) ∧ W'.cell? ⟨g2, k * 6 + 4, none⟩ = some (.int .i64 (be + sy)) ∧ W'.cell? ⟨g2, k * 6 + 5, none⟩ = some (.int .i64 (bf + sz))) ∧ (W'.cell? ⟨pb, 0, none⟩ = some (.int .i64 ba) ∧ W'.cell? ⟨pb, 1, none⟩ = some (.int .i64 bb) ∧ W'.cell? ⟨pb, 2, none⟩ = some (.int .i64 bc) ∧ W'.cell? ⟨pb, 3, none⟩ = some (.int .i64 bd) ∧ W'.cell? ⟨pb, 4, none⟩ = some (.int .i64 be) ∧ W'.cell? ⟨pb, 5, none⟩ = some (.int .i64 bf)) ∧ W'.cell? ⟨rb, 6, none⟩ = some (.int .i64 sx) ∧ W'.cell? ⟨rb, 7, none⟩ = some (.int .i64 sy) ∧ W'.cell? ⟨rb, 8, none⟩ = some (.int .i64 sz)) := Lib.hid fun W' hb =>
                ⟨hb, (HK1.out W' hb).1, ⟨(AV.on hb).read 0, (AV.on hb).read 1, (AV.on hb).read 2, (AV.on hb).read 3, (AV.on hb).read 4, (AV.on hb).read 5⟩, (HK1.out W' hb).2⟩
              have HDV := Lib.hid DV
              clear AV DV HK1 D
              refine wp_region_plan 15 [(0, true), (1, true), (2, true), (3, true), (4, true), (5, true), (6, true), (7, true), (9, true), (10, true), (11, true), (12, true), (8, false), (13, false), (14, true)] (fun W' => Below V.heap.size V W' ∧ (W'.cell? ⟨g2, k * 6, none⟩ = some (.int .i64 (ba + sx)) ∧ W'.cell? ⟨g2, k * 6 + 1, none⟩ = some (.int .i64 (bb + sy)) ∧ W'.cell? ⟨g2, k * 6 + 2, none⟩ = some (.int .i64 (bc + sz)) ∧ W'.cell? ⟨g2, k * 6 + 3, none⟩ = some (.int .i64 (bd + sx)) ∧ W'.cell? ⟨g2, k * 6 + 4, none⟩ = some (.int .i64 (be + sy)) ∧ W'.cell? ⟨g2, k * 6 + 5, none⟩ = some (.int .i64 (bf + sz))) ∧ (W'.cell? ⟨pb, 0, none⟩ = some (.int .i64 ba) ∧ W'.cell? ⟨pb, 1, none⟩ = some (.int .i64 bb) ∧ W'.cell? ⟨pb, 2, none⟩ = some (.int .i64 bc) ∧ W'.cell? ⟨pb, 3, none⟩ = some (.int .i64 bd) ∧ W'.cell? ⟨pb, 4, none⟩ = some (.int .i64 be) ∧ W'.cell? ⟨pb, 5, none⟩ = some (.int .i64 bf)) ∧ W'.cell? ⟨rb, 6, none⟩ = some (.int .i64 sx) ∧ W'.cell? ⟨rb, 7, none⟩ = some (.int .i64 sy) ∧ W'.cell? ⟨rb, 8, none⟩ = some (.int .i64 sz)) (by kernel_rfl) (by kernel_rfl) (fun _ _ d _ _ h => by cases d <;> exact h) (HK.out _ (below_dr (Below.refl _ _))) ?_
              simp only [List.filterMap_cons, List.filterMap_nil, List.getElem?_cons_zero, List.getElem?_cons_succ, Option.map_some, List.drop_succ_cons, List.drop_zero]
              iterate 12 (first | (refine wpPlan_still (v := ?_) (Or.inl ⟨by rfl, ?_⟩) ?_; rotate_left; (focus (intro W hW; (try dsimp only at hW); go_split_ands; go_simp; try with_reducible rfl)); try simp only [Act.put, List.setIfInBounds_toArray, List.set_cons_zero, List.set_cons_succ]) | (refine wpPlan_still (Or.inr ⟨by rfl, rfl⟩) ?_; try simp only [Act.put, List.setIfInBounds_toArray, List.set_cons_zero, List.set_cons_succ]))
              refine wpPlan_only (fun K hK => ?_)
              try go_simp
              (go_at_call 24; (with_reducible refine (h24a _).mono ?_); rintro X wq ⟨rfl, hb⟩)
              refine hK.out _ _ (HK.out _ (belows (below_dr (Below.refl _ _)) hb)) ?_
              clear hK K
              try simp only [Act.put, List.setIfInBounds_toArray, List.set_cons_zero, List.set_cons_succ]
              refine wpPlan_only (fun K hK => ?_)
              try go_simp
              (go_at_call 24; (with_reducible refine (h24b _).mono ?_); rintro X wq2 ⟨rfl, hb2⟩)
              refine hK.out _ _ (HK.out _ (belows (belows (below_dr (Below.refl _ _)) hb) hb2)) ?_
              clear hK K
              try simp only [Act.put, List.setIfInBounds_toArray, List.set_cons_zero, List.set_cons_succ]
              iterate 1 (first | (refine wpPlan_still (v := ?_) (Or.inl ⟨by rfl, ?_⟩) ?_; rotate_left; (focus (intro W hW; (try dsimp only at hW); go_split_ands; go_simp; try with_reducible rfl)); try simp only [Act.put, List.setIfInBounds_toArray, List.set_cons_zero, List.set_cons_succ]) | (refine wpPlan_still (Or.inr ⟨by rfl, rfl⟩) ?_; try simp only [Act.put, List.setIfInBounds_toArray, List.set_cons_zero, List.set_cons_succ]))
              refine wpPlan_end ?_
              have D2 := belows HDV.out (belows (belows (below_dr (Below.refl V.heap.size V)) hb) hb2)
              clear hb hb2 HK
              go_wp2
              go_roundw
              case rel => exact ⟨k + 1, rfl, hlt, D2⟩
              case measure => simp [intOf]; omega
            · have g5 : decide ((k : Int) < (n : Int)) = false := by simp; omega
              have DT : Below s1.heap.size s1 wr := belows HD2.out D
              clear D HSt KP HSB HBW
              have ET := HE1.out.on DT
              have C := ET.cells
              simp [BC, CF] at C
              have HBT := Lib.hid (envb ET)
              rcases movC_or H60.out ⟨dx, dy, dz⟩ with hm | ⟨hm, hdb, hall⟩
              · have h11 := fun W (h : Below w.heap.size w W) => Moved_11 _ rs capr ⟨dx, dy, dz⟩ W (hR.on h)
                unfold Pt.val at h11
                rw [hm] at h11
                dsimp only at h11
                clear hm
                go_wp2_with (go_at_call 11; (with_reducible refine (h11 _ HBT.out).mono ?_); rintro X w5 ⟨v5, rfl, hO5, hb5⟩; obtain ⟨q5, c5, rfl, -⟩ := Own.rd rcl hO5; simp only [List.length_nil])
                go_ret
                exact ⟨rfl, belows HBT.out hb5⟩
              · have h11 := fun W (h : Below w.heap.size w W) => Moved_11 _ rs capr ⟨dx, dy, dz⟩ W (hR.on h)
                unfold Pt.val at h11
                rw [hm] at h11
                dsimp only at h11
                have HMOk : Hid (∀ r ∈ rs.map (movR ⟨dx, dy, dz⟩), r.Ok) := Lib.hid fun r hr => by
                  obtain ⟨x, hx, rfl⟩ := List.mem_map.1 hr
                  exact mov_ok (hR.ok x hx) (hall x hx)
                have HSB := Lib.hid hdb
                clear hm hall hdb
                go_upto_region 28 with (go_at_call 11; (with_reducible refine (h11 _ HBT.out).mono ?_); rintro X w5 ⟨v5, rfl, hO5, hb5⟩; obtain ⟨p5, c5, rfl, hR5⟩ := own_slr hO5 HMOk.out; replace ET := ET.on hb5; replace DT := belows DT hb5)
                have h15m := Legs_15 p l cap p5 (rs.map (movR ⟨dx, dy, dz⟩)) c5 k0 w5 (hS.on (envb ET)) hR5
                rw [List.length_map] at h15m
                try simp only [List.length_map]
                have HBT5 := Lib.hid (envb ET)
                cases hv5 : validR l (rs.map (movR ⟨dx, dy, dz⟩))
                · rw [legs_inv hv5] at h15m
                  dsimp only at h15m
                  clear hv5
                  go_wp2_with (go_at_call 15; (with_reducible refine h15m.mono ?_); rintro X w6 ⟨v6, rfl, hO6, hb6⟩)
                  go_ret
                  exact ⟨rfl, belows HBT5.out hb6⟩
                · rw [legs_mov hv5 HX.out, HLL.out] at h15m
                  dsimp only at h15m
                  clear hv5
                  have O5 := own_on HO1.out DT
                  clear C
                  go_wp2_with (go_at_call 15; (with_reducible refine h15m.mono ?_); rintro X w6 ⟨v6, rfl, hO6, hb6⟩; obtain ⟨q6, c6, rfl, -⟩ := Own.rd cbl hO6; simp only [List.length_map, HNL.out])
                  have R6 := own_rdx hO6
                  simp only [List.length_map, HNL.out] at R6
                  have KP := Lib.hid (pair_rd (own_rdx (own_on O5 hb6)) R6 HNL.out HLB.out)
                  have HBW := Lib.hid (belows HBT5.out hb6)
                  have HSt : Hid (∀ W, Below w6.heap.size w6 W → W.cell? ⟨w.heap.size, 0, none⟩ = some (.int .i64 dx) ∧ W.cell? ⟨w.heap.size, 1, none⟩ = some (.int .i64 dy) ∧ W.cell? ⟨w.heap.size, 2, none⟩ = some (.int .i64 dz)) := Lib.hid fun W h => by
                    have A := ((ET.on hb6).on h).2.2.1
                    exact ⟨A.read 0, A.read 1, A.read 2⟩
                  clear R6 O5 hO5 hO6 hb5 hb6 ET DT
                  generalize w6 = s3 at *
                  go_loopw [136] (fun v wr => ∃ k : Nat, v = .int .i64 k ∧ k ≤ n ∧ Below s3.heap.size s3 wr) (fun v _ => n - (intOf v).toNat)
                  case atStart => exact ⟨0, rfl, Nat.zero_le _, Below.refl _ _⟩
                  case round =>
                    obtain ⟨k, rfl, hk, D⟩ := hrel
                    have hn6 := HN6.out
                    by_cases hlt : k < n
                    · have g5 : decide ((k : Int) < (n : Int)) = true := by simp [hlt]
                      have W5 : IntKind.i64.wrap ((k : Int) + 1) = ((k + 1 : Nat) : Int) := by rw [IntWalk.i64_in _ (by omega)]; omega
                      obtain ⟨g1, g2, b, rfl, rfl, hbd, m1, m2⟩ := KP.out k hlt
                      have HK0 := Lib.hid (fun W (h : Below wr.heap.size wr W) => And.intro (m2.on (belows D h)) (HSt.out W (belows D h)))
                      obtain ⟨a0, a1, a2, a3, a4, a5⟩ := m1.on D
                      obtain ⟨ba, bb, bc, bd, be, bf⟩ := b
                      unfold Cx6 shB at HK0
                      unfold Bx.bd at hbd
                      dsimp only at *
                      have hsb := HSB.out
                      unfold Pt.bd at hsb
                      dsimp only at hsb
                      have h24a := fun W => plus_24 ba bb bc dx dy dz (ba + dx) (bb + dy) (bc + dz) (i64w (by unfold I64; omega)) (i64w (by unfold I64; omega)) (i64w (by unfold I64; omega)) W
                      have h24b := fun W => plus_24 bd be bf dx dy dz (bd + dx) (be + dy) (bf + dz) (i64w (by unfold I64; omega)) (i64w (by unfold I64; omega)) (i64w (by unfold I64; omega)) W
                      have hne : ∀ W, (binOp .neq 54 (.agg #[.int .i64 (ba + dx), .int .i64 (bb + dy), .int .i64 (bc + dz), .int .i64 (bd + dx), .int .i64 (be + dy), .int .i64 (bf + dz)]) (.agg #[.int .i64 (ba + dx), .int .i64 (bb + dy), .int .i64 (bc + dz), .int .i64 (bd + dx), .int .i64 (be + dy), .int .i64 (bf + dz)])).run Try.prog W = .ok (.bool false) W := fun W => (ne54 ⟨ba + dx, bb + dy, bc + dz, bd + dx, be + dy, bf + dz⟩ ⟨ba + dx, bb + dy, bc + dz, bd + dx, be + dy, bf + dz⟩ W).trans (by rw [decide_eq_true rfl]; rfl)
                      have q1' : (0 : Int) ≤ (k : Int) := by omega
                      have q2' : (k : Int) < (n : Int) := by omega
                      clear m1 m2 hbd hsb
                      go_upto_region 36 with fail
                      clear a0 a1 a2 a3 a4 a5
                      have AV := Has.new_ wr 54 #[.int .i64 ba, .int .i64 bb, .int .i64 bc, .int .i64 bd, .int .i64 be, .int .i64 bf]
                      have DV := belows D (al1 wr (.cells #[.int .i64 ba, .int .i64 bb, .int .i64 bc, .int .i64 bd, .int .i64 be, .int .i64 bf] 54))
                      have HK1 := Lib.hid (fun W h => HK0.out W (belows (al1 wr (.cells #[.int .i64 ba, .int .i64 bb, .int .i64 bc, .int .i64 bd, .int .i64 be, .int .i64 bf] 54)) h))
                      clear HK0
                      generalize wr.alloc (.cells #[.int .i64 ba, .int .i64 bb, .int .i64 bc, .int .i64 bd, .int .i64 be, .int .i64 bf] 54) = V at *
                      generalize wr.heap.size = pb at *
                      have HK : Hid (∀ W', Below V.heap.size V W' → Below V.heap.size V W' ∧ (W'.cell? ⟨g2, k * 6, none⟩ = some (.int .i64 (ba + dx)) ∧ W'.cell? ⟨g2, k * 6 + 1, none⟩ = some (.int .i64 (bb + dy)) ∧ W'.cell? ⟨g2, k * 6 + 2, none⟩ = some (.int .i64 (bc + dz)) ∧ W'.cell? ⟨g2, k * 6 + 3, none⟩ = some (.int .i64 (bd + dx)) ∧ W'.cell? ⟨g2, k * 6 + 4, none⟩ = some (.int .i64 (be + dy)) ∧ W'.cell? ⟨g2, k * 6 + 5, none⟩ = some (.int .i64 (bf + dz))) ∧ (W'.cell? ⟨pb, 0, none⟩ = some (.int .i64 ba) ∧ W'.cell? ⟨pb, 1, none⟩ = some (.int .i64 bb) ∧ W'.cell? ⟨pb, 2, none⟩ = some (.int .i64 bc) ∧ W'.cell? ⟨pb, 3, none⟩ = some (.int .i64 bd) ∧ W'.cell? ⟨pb, 4, none⟩ = some (.int .i64 be) ∧ W'.cell? ⟨pb, 5, none⟩ = some (.int .i64 bf)) ∧ W'.cell? ⟨w.heap.size, 0, none⟩ = some (.int .i64 dx) ∧ W'.cell? ⟨w.heap.size, 1, none⟩ = some (.int .i64 dy) ∧ W'.cell? ⟨w.heap.size, 2, none⟩ = some (.int .i64 dz)) := Lib.hid fun W' hb =>
                        ⟨hb, (HK1.out W' hb).1, ⟨(AV.on hb).read 0, (AV.on hb).read 1, (AV.on hb).read 2, (AV.on hb).read 3, (AV.on hb).read 4, (AV.on hb).read 5⟩, (HK1.out W' hb).2⟩
                      have HDV := Lib.hid DV
                      clear AV DV HK1 D
                      refine wp_region_plan 13 [(0, true), (1, true), (2, true), (3, true), (4, true), (5, true), (6, true), (8, true), (9, true), (10, true), (7, false), (11, false), (12, true)] (fun W' => Below V.heap.size V W' ∧ (W'.cell? ⟨g2, k * 6, none⟩ = some (.int .i64 (ba + dx)) ∧ W'.cell? ⟨g2, k * 6 + 1, none⟩ = some (.int .i64 (bb + dy)) ∧ W'.cell? ⟨g2, k * 6 + 2, none⟩ = some (.int .i64 (bc + dz)) ∧ W'.cell? ⟨g2, k * 6 + 3, none⟩ = some (.int .i64 (bd + dx)) ∧ W'.cell? ⟨g2, k * 6 + 4, none⟩ = some (.int .i64 (be + dy)) ∧ W'.cell? ⟨g2, k * 6 + 5, none⟩ = some (.int .i64 (bf + dz))) ∧ (W'.cell? ⟨pb, 0, none⟩ = some (.int .i64 ba) ∧ W'.cell? ⟨pb, 1, none⟩ = some (.int .i64 bb) ∧ W'.cell? ⟨pb, 2, none⟩ = some (.int .i64 bc) ∧ W'.cell? ⟨pb, 3, none⟩ = some (.int .i64 bd) ∧ W'.cell? ⟨pb, 4, none⟩ = some (.int .i64 be) ∧ W'.cell? ⟨pb, 5, none⟩ = some (.int .i64 bf)) ∧ W'.cell? ⟨w.heap.size, 0, none⟩ = some (.int .i64 dx) ∧ W'.cell? ⟨w.heap.size, 1, none⟩ = some (.int .i64 dy) ∧ W'.cell? ⟨w.heap.size, 2, none⟩ = some (.int .i64 dz)) (by kernel_rfl) (by kernel_rfl) (fun _ _ d _ _ h => by cases d <;> exact h) (HK.out _ (below_dr (Below.refl _ _))) ?_
                      simp only [List.filterMap_cons, List.filterMap_nil, List.getElem?_cons_zero, List.getElem?_cons_succ, Option.map_some, List.drop_succ_cons, List.drop_zero]
                      iterate 10 (first | (refine wpPlan_still (v := ?_) (Or.inl ⟨by rfl, ?_⟩) ?_; rotate_left; (focus (intro W hW; (try dsimp only at hW); go_split_ands; go_simp; try with_reducible rfl)); try simp only [Act.put, List.setIfInBounds_toArray, List.set_cons_zero, List.set_cons_succ]) | (refine wpPlan_still (Or.inr ⟨by rfl, rfl⟩) ?_; try simp only [Act.put, List.setIfInBounds_toArray, List.set_cons_zero, List.set_cons_succ]))
                      refine wpPlan_only (fun K hK => ?_)
                      try go_simp
                      (go_at_call 24; (with_reducible refine (h24a _).mono ?_); rintro X wq ⟨rfl, hb⟩)
                      refine hK.out _ _ (HK.out _ (belows (below_dr (Below.refl _ _)) hb)) ?_
                      clear hK K
                      try simp only [Act.put, List.setIfInBounds_toArray, List.set_cons_zero, List.set_cons_succ]
                      refine wpPlan_only (fun K hK => ?_)
                      try go_simp
                      (go_at_call 24; (with_reducible refine (h24b _).mono ?_); rintro X wq2 ⟨rfl, hb2⟩)
                      refine hK.out _ _ (HK.out _ (belows (belows (below_dr (Below.refl _ _)) hb) hb2)) ?_
                      clear hK K
                      try simp only [Act.put, List.setIfInBounds_toArray, List.set_cons_zero, List.set_cons_succ]
                      iterate 1 (first | (refine wpPlan_still (v := ?_) (Or.inl ⟨by rfl, ?_⟩) ?_; rotate_left; (focus (intro W hW; (try dsimp only at hW); go_split_ands; go_simp; try with_reducible rfl)); try simp only [Act.put, List.setIfInBounds_toArray, List.set_cons_zero, List.set_cons_succ]) | (refine wpPlan_still (Or.inr ⟨by rfl, rfl⟩) ?_; try simp only [Act.put, List.setIfInBounds_toArray, List.set_cons_zero, List.set_cons_succ]))
                      refine wpPlan_end ?_
                      have D2 := belows HDV.out (belows (belows (below_dr (Below.refl V.heap.size V)) hb) hb2)
                      clear hb hb2 HK
                      go_wp2
                      go_roundw
                      case rel => exact ⟨k + 1, rfl, hlt, D2⟩
                      case measure => simp [intOf]; omega
                    · have g5 : decide ((k : Int) < (n : Int)) = false := by simp; omega
                      go_wp2
                      go_ret
                      exact ⟨rfl, belows HBW.out D⟩

        · have g3 : decide ((j : Int) + 1 < ct) = false := by simp; omega
          have DT := D1
          clear HR1 D1 htb htk hct hj
          have ET := HE1.out.on DT
          have C := ET.cells
          simp [BC, CF] at C
          have HBT := Lib.hid (envb ET)
          rcases movC_or H60.out ⟨dx, dy, dz⟩ with hm | ⟨hm, hdb, hall⟩
          · have h11 := fun W (h : Below w.heap.size w W) => Moved_11 _ rs capr ⟨dx, dy, dz⟩ W (hR.on h)
            unfold Pt.val at h11
            rw [hm] at h11
            dsimp only at h11
            clear hm
            go_wp2_with (go_at_call 11; (with_reducible refine (h11 _ HBT.out).mono ?_); rintro X w5 ⟨v5, rfl, hO5, hb5⟩; obtain ⟨q5, c5, rfl, -⟩ := Own.rd rcl hO5; simp only [List.length_nil])
            go_ret
            exact ⟨rfl, belows HBT.out hb5⟩
          · have h11 := fun W (h : Below w.heap.size w W) => Moved_11 _ rs capr ⟨dx, dy, dz⟩ W (hR.on h)
            unfold Pt.val at h11
            rw [hm] at h11
            dsimp only at h11
            have HMOk : Hid (∀ r ∈ rs.map (movR ⟨dx, dy, dz⟩), r.Ok) := Lib.hid fun r hr => by
              obtain ⟨x, hx, rfl⟩ := List.mem_map.1 hr
              exact mov_ok (hR.ok x hx) (hall x hx)
            have HSB := Lib.hid hdb
            clear hm hall hdb
            go_upto_region 28 with (go_at_call 11; (with_reducible refine (h11 _ HBT.out).mono ?_); rintro X w5 ⟨v5, rfl, hO5, hb5⟩; obtain ⟨p5, c5, rfl, hR5⟩ := own_slr hO5 HMOk.out; replace ET := ET.on hb5; replace DT := belows DT hb5)
            have h15m := Legs_15 p l cap p5 (rs.map (movR ⟨dx, dy, dz⟩)) c5 k0 w5 (hS.on (envb ET)) hR5
            rw [List.length_map] at h15m
            try simp only [List.length_map]
            have HBT5 := Lib.hid (envb ET)
            cases hv5 : validR l (rs.map (movR ⟨dx, dy, dz⟩))
            · rw [legs_inv hv5] at h15m
              dsimp only at h15m
              clear hv5
              go_wp2_with (go_at_call 15; (with_reducible refine h15m.mono ?_); rintro X w6 ⟨v6, rfl, hO6, hb6⟩)
              go_ret
              exact ⟨rfl, belows HBT5.out hb6⟩
            · rw [legs_mov hv5 HX.out, HLL.out] at h15m
              dsimp only at h15m
              clear hv5
              have O5 := own_on HO1.out DT
              clear C
              go_wp2_with (go_at_call 15; (with_reducible refine h15m.mono ?_); rintro X w6 ⟨v6, rfl, hO6, hb6⟩; obtain ⟨q6, c6, rfl, -⟩ := Own.rd cbl hO6; simp only [List.length_map, HNL.out])
              have R6 := own_rdx hO6
              simp only [List.length_map, HNL.out] at R6
              have KP := Lib.hid (pair_rd (own_rdx (own_on O5 hb6)) R6 HNL.out HLB.out)
              have HBW := Lib.hid (belows HBT5.out hb6)
              have HSt : Hid (∀ W, Below w6.heap.size w6 W → W.cell? ⟨w.heap.size, 0, none⟩ = some (.int .i64 dx) ∧ W.cell? ⟨w.heap.size, 1, none⟩ = some (.int .i64 dy) ∧ W.cell? ⟨w.heap.size, 2, none⟩ = some (.int .i64 dz)) := Lib.hid fun W h => by
                have A := ((ET.on hb6).on h).2.2.1
                exact ⟨A.read 0, A.read 1, A.read 2⟩
              clear R6 O5 hO5 hO6 hb5 hb6 ET DT
              generalize w6 = s3 at *
              go_loopw [136] (fun v wr => ∃ k : Nat, v = .int .i64 k ∧ k ≤ n ∧ Below s3.heap.size s3 wr) (fun v _ => n - (intOf v).toNat)
              case atStart => exact ⟨0, rfl, Nat.zero_le _, Below.refl _ _⟩
              case round =>
                obtain ⟨k, rfl, hk, D⟩ := hrel
                have hn6 := HN6.out
                by_cases hlt : k < n
                · have g5 : decide ((k : Int) < (n : Int)) = true := by simp [hlt]
                  have W5 : IntKind.i64.wrap ((k : Int) + 1) = ((k + 1 : Nat) : Int) := by rw [IntWalk.i64_in _ (by omega)]; omega
                  obtain ⟨g1, g2, b, rfl, rfl, hbd, m1, m2⟩ := KP.out k hlt
                  have HK0 := Lib.hid (fun W (h : Below wr.heap.size wr W) => And.intro (m2.on (belows D h)) (HSt.out W (belows D h)))
                  obtain ⟨a0, a1, a2, a3, a4, a5⟩ := m1.on D
                  obtain ⟨ba, bb, bc, bd, be, bf⟩ := b
                  unfold Cx6 shB at HK0
                  unfold Bx.bd at hbd
                  dsimp only at *
                  have hsb := HSB.out
                  unfold Pt.bd at hsb
                  dsimp only at hsb
                  have h24a := fun W => plus_24 ba bb bc dx dy dz (ba + dx) (bb + dy) (bc + dz) (i64w (by unfold I64; omega)) (i64w (by unfold I64; omega)) (i64w (by unfold I64; omega)) W
                  have h24b := fun W => plus_24 bd be bf dx dy dz (bd + dx) (be + dy) (bf + dz) (i64w (by unfold I64; omega)) (i64w (by unfold I64; omega)) (i64w (by unfold I64; omega)) W
                  have hne : ∀ W, (binOp .neq 54 (.agg #[.int .i64 (ba + dx), .int .i64 (bb + dy), .int .i64 (bc + dz), .int .i64 (bd + dx), .int .i64 (be + dy), .int .i64 (bf + dz)]) (.agg #[.int .i64 (ba + dx), .int .i64 (bb + dy), .int .i64 (bc + dz), .int .i64 (bd + dx), .int .i64 (be + dy), .int .i64 (bf + dz)])).run Try.prog W = .ok (.bool false) W := fun W => (ne54 ⟨ba + dx, bb + dy, bc + dz, bd + dx, be + dy, bf + dz⟩ ⟨ba + dx, bb + dy, bc + dz, bd + dx, be + dy, bf + dz⟩ W).trans (by rw [decide_eq_true rfl]; rfl)
                  have q1' : (0 : Int) ≤ (k : Int) := by omega
                  have q2' : (k : Int) < (n : Int) := by omega
                  clear m1 m2 hbd hsb
                  go_upto_region 36 with fail
                  clear a0 a1 a2 a3 a4 a5
                  have AV := Has.new_ wr 54 #[.int .i64 ba, .int .i64 bb, .int .i64 bc, .int .i64 bd, .int .i64 be, .int .i64 bf]
                  have DV := belows D (al1 wr (.cells #[.int .i64 ba, .int .i64 bb, .int .i64 bc, .int .i64 bd, .int .i64 be, .int .i64 bf] 54))
                  have HK1 := Lib.hid (fun W h => HK0.out W (belows (al1 wr (.cells #[.int .i64 ba, .int .i64 bb, .int .i64 bc, .int .i64 bd, .int .i64 be, .int .i64 bf] 54)) h))
                  clear HK0
                  generalize wr.alloc (.cells #[.int .i64 ba, .int .i64 bb, .int .i64 bc, .int .i64 bd, .int .i64 be, .int .i64 bf] 54) = V at *
                  generalize wr.heap.size = pb at *
                  have HK : Hid (∀ W', Below V.heap.size V W' → Below V.heap.size V W' ∧ (W'.cell? ⟨g2, k * 6, none⟩ = some (.int .i64 (ba + dx)) ∧ W'.cell? ⟨g2, k * 6 + 1, none⟩ = some (.int .i64 (bb + dy)) ∧ W'.cell? ⟨g2, k * 6 + 2, none⟩ = some (.int .i64 (bc + dz)) ∧ W'.cell? ⟨g2, k * 6 + 3, none⟩ = some (.int .i64 (bd + dx)) ∧ W'.cell? ⟨g2, k * 6 + 4, none⟩ = some (.int .i64 (be + dy)) ∧ W'.cell? ⟨g2, k * 6 + 5, none⟩ = some (.int .i64 (bf + dz))) ∧ (W'.cell? ⟨pb, 0, none⟩ = some (.int .i64 ba) ∧ W'.cell? ⟨pb, 1, none⟩ = some (.int .i64 bb) ∧ W'.cell? ⟨pb, 2, none⟩ = some (.int .i64 bc) ∧ W'.cell? ⟨pb, 3, none⟩ = some (.int .i64 bd) ∧ W'.cell? ⟨pb, 4, none⟩ = some (.int .i64 be) ∧ W'.cell? ⟨pb, 5, none⟩ = some (.int .i64 bf)) ∧ W'.cell? ⟨w.heap.size, 0, none⟩ = some (.int .i64 dx) ∧ W'.cell? ⟨w.heap.size, 1, none⟩ = some (.int .i64 dy) ∧ W'.cell? ⟨w.heap.size, 2, none⟩ = some (.int .i64 dz)) := Lib.hid fun W' hb =>
                    ⟨hb, (HK1.out W' hb).1, ⟨(AV.on hb).read 0, (AV.on hb).read 1, (AV.on hb).read 2, (AV.on hb).read 3, (AV.on hb).read 4, (AV.on hb).read 5⟩, (HK1.out W' hb).2⟩
                  have HDV := Lib.hid DV
                  clear AV DV HK1 D
                  refine wp_region_plan 13 [(0, true), (1, true), (2, true), (3, true), (4, true), (5, true), (6, true), (8, true), (9, true), (10, true), (7, false), (11, false), (12, true)] (fun W' => Below V.heap.size V W' ∧ (W'.cell? ⟨g2, k * 6, none⟩ = some (.int .i64 (ba + dx)) ∧ W'.cell? ⟨g2, k * 6 + 1, none⟩ = some (.int .i64 (bb + dy)) ∧ W'.cell? ⟨g2, k * 6 + 2, none⟩ = some (.int .i64 (bc + dz)) ∧ W'.cell? ⟨g2, k * 6 + 3, none⟩ = some (.int .i64 (bd + dx)) ∧ W'.cell? ⟨g2, k * 6 + 4, none⟩ = some (.int .i64 (be + dy)) ∧ W'.cell? ⟨g2, k * 6 + 5, none⟩ = some (.int .i64 (bf + dz))) ∧ (W'.cell? ⟨pb, 0, none⟩ = some (.int .i64 ba) ∧ W'.cell? ⟨pb, 1, none⟩ = some (.int .i64 bb) ∧ W'.cell? ⟨pb, 2, none⟩ = some (.int .i64 bc) ∧ W'.cell? ⟨pb, 3, none⟩ = some (.int .i64 bd) ∧ W'.cell? ⟨pb, 4, none⟩ = some (.int .i64 be) ∧ W'.cell? ⟨pb, 5, none⟩ = some (.int .i64 bf)) ∧ W'.cell? ⟨w.heap.size, 0, none⟩ = some (.int .i64 dx) ∧ W'.cell? ⟨w.heap.size, 1, none⟩ = some (.int .i64 dy) ∧ W'.cell? ⟨w.heap.size, 2, none⟩ = some (.int .i64 dz)) (by kernel_rfl) (by kernel_rfl) (fun _ _ d _ _ h => by cases d <;> exact h) (HK.out _ (below_dr (Below.refl _ _))) ?_
                  simp only [List.filterMap_cons, List.filterMap_nil, List.getElem?_cons_zero, List.getElem?_cons_succ, Option.map_some, List.drop_succ_cons, List.drop_zero]
                  iterate 10 (first | (refine wpPlan_still (v := ?_) (Or.inl ⟨by rfl, ?_⟩) ?_; rotate_left; (focus (intro W hW; (try dsimp only at hW); go_split_ands; go_simp; try with_reducible rfl)); try simp only [Act.put, List.setIfInBounds_toArray, List.set_cons_zero, List.set_cons_succ]) | (refine wpPlan_still (Or.inr ⟨by rfl, rfl⟩) ?_; try simp only [Act.put, List.setIfInBounds_toArray, List.set_cons_zero, List.set_cons_succ]))
                  refine wpPlan_only (fun K hK => ?_)
                  try go_simp
                  (go_at_call 24; (with_reducible refine (h24a _).mono ?_); rintro X wq ⟨rfl, hb⟩)
                  refine hK.out _ _ (HK.out _ (belows (below_dr (Below.refl _ _)) hb)) ?_
                  clear hK K
                  try simp only [Act.put, List.setIfInBounds_toArray, List.set_cons_zero, List.set_cons_succ]
                  refine wpPlan_only (fun K hK => ?_)
                  try go_simp
                  (go_at_call 24; (with_reducible refine (h24b _).mono ?_); rintro X wq2 ⟨rfl, hb2⟩)
                  refine hK.out _ _ (HK.out _ (belows (belows (below_dr (Below.refl _ _)) hb) hb2)) ?_
                  clear hK K
                  try simp only [Act.put, List.setIfInBounds_toArray, List.set_cons_zero, List.set_cons_succ]
                  iterate 1 (first | (refine wpPlan_still (v := ?_) (Or.inl ⟨by rfl, ?_⟩) ?_; rotate_left; (focus (intro W hW; (try dsimp only at hW); go_split_ands; go_simp; try with_reducible rfl)); try simp only [Act.put, List.setIfInBounds_toArray, List.set_cons_zero, List.set_cons_succ]) | (refine wpPlan_still (Or.inr ⟨by rfl, rfl⟩) ?_; try simp only [Act.put, List.setIfInBounds_toArray, List.set_cons_zero, List.set_cons_succ]))
                  refine wpPlan_end ?_
                  have D2 := belows HDV.out (belows (belows (below_dr (Below.refl V.heap.size V)) hb) hb2)
                  clear hb hb2 HK
                  go_wp2
                  go_roundw
                  case rel => exact ⟨k + 1, rfl, hlt, D2⟩
                  case measure => simp [intOf]; omega
                · have g5 : decide ((k : Int) < (n : Int)) = false := by simp; omega
                  go_wp2
                  go_ret
                  exact ⟨rfl, belows HBW.out D⟩

      · have g2 : decide ((j : Int) < ct) = false := by simp; omega
        have W2 : IntKind.i64.wrap ((j : Int) - ct) = ((j - ct.toNat : Nat) : Int) := by rw [IntWalk.i64_in _ (by omega)]; omega
        go_upto_region 12 with fail
        generalize wr.alloc (.cells #[.string rm, .int .i64 tx, .int .i64 ty, .int .i64 ax, .int .i64 ay, .int .i64 az, .int .i64 sx, .int .i64 sy, .int .i64 sz, .int .i64 ct] 30) = w4 at *
        generalize wr.heap.size = rb at *
        have r9 := HR1.read 9
        simp only [List.getElem?_toArray, List.getElem?_cons_succ, List.getElem?_cons_zero] at r9
        clear h0 h1 h2 h3 h4 h5 h6 h7 h8 h9
        go_wp2
        go_roundw
        case rel => exact ⟨kr + 1, j - ct.toNat, rfl, rfl, hltr, by have := HT.out; omega, D1⟩
        case measure => simp [intOf]; omega
    · exfalso
      obtain rfl : kr = rs.length := by omega
      rw [List.take_length] at hj
      omega
end Go.Proofs.Ytfkcogocaecodaa
