/- LaidSingles: the walk. -/
import Derived.Test.YtfkcogocaecodaaSj
import Derived.Test.YtfkcogocaecodaaRm
import Derived.Deep.CutBlock
namespace Go.Proofs.Ytfkcogocaecodaa
open Go.ChangeShapes Go.WideShapes Go.ChangeAt Go.RowKit
set_option linter.unusedVariables false
set_option linter.unusedSimpArgs false

set_option maxHeartbeats 8000000 in
set_option maxRecDepth 100000 in
theorem singles_walk (p : Option Addr) (l : List Bar) (cap : Nat) (q : Option Addr) (rs : List Rn) (capr : Nat) (w : World) (hS : Slb w p l cap) (hR : Slr w q rs capr) : Calls Try.prog 6 #[.slice p l.length cap, .slice q rs.length capr] w fun e w' => e = .returned (.bool true) ∧ Below w.heap.size w w' := by
  have h25 := fun W (h : Below w.heap.size w W) => Small_25 p l cap q rs capr 8 20 W (hS.on h) (hR.on h)
  have h26 := fun W (h : Below w.heap.size w W) => Valid_26 p l cap q rs capr W (hS.on h) (hR.on h)
  have h27 := fun W (h : Below w.heap.size w W) => Count_27 p l cap q rs capr W (hS.on h) (hR.on h)
  have h28 := fun W (h : Below w.heap.size w W) => bal_28 p l cap q rs capr W (hS.on h) (hR.on h)
  have hI := Lib.hid (info_parts info30)
  go_enter Try.func6, Try.ntmps6
  go_upto_region 3 with (go_at_call 8; (with_reducible refine (awake_8 _).mono ?_); rintro X w1 ⟨rfl, hb1⟩)
  go_wp2_with (go_at_call 25; (with_reducible refine (h25 _ hb1).mono ?_); rintro X w2 ⟨⟨o, rfl⟩, hb2⟩; refine StopI.out ?_)
  have B2 := belows hb1 hb2
  clear hb1 hb2 h25
  cases o
  case false =>
    refine StopI.mk ?_
    go_wp2
    go_ret
    exact ⟨rfl, B2⟩
  refine StopI.mk ?_
  cases hv : validR l rs
  · rw [hv] at h26
    clear hv h27 h28
    go_wp2_with (go_at_call 26; (with_reducible refine (h26 _ B2).mono ?_); rintro X w3 ⟨rfl, hb3⟩)
    go_ret
    exact ⟨rfl, belows B2 hb3⟩
  rw [hv] at h26 h27 h28
  simp only [if_true] at h27 h28
  have HV := Lib.hid hv
  obtain ⟨-, h60, hfit, htot⟩ := validR_and hv
  have hct : ∀ r ∈ rs, 1 ≤ r.ct ∧ r.ct ≤ 1000 := fun r hr => fitsM_ct (hfit r hr)
  have hN : totR rs = ((sing rs).length : Nat) := (sing_len hct).symm
  have HL := Lib.hid (lay_len hfit)
  have HN : Hid ((sing rs).length ≤ 2000) := Lib.hid (by omega)
  have H60 := Lib.hid h60
  have HF := Lib.hid hfit
  have HC := Lib.hid hct
  have HB := Lib.hid (bal_sing l hct)
  have HPre := Lib.hid (fun k => sing_pre hfit h60 k)
  have HOk := Lib.hid (sing_ok hR.ok hfit)
  rw [hN] at h27
  clear hv h60 hfit htot hct hN
  go_upto_region 6 with (go_at_call 26; (with_reducible refine (h26 _ B2).mono ?_); rintro X w3 ⟨rfl, hb3⟩; replace B2 := belows B2 hb3)
  clear h26 hb3
  go_wp2
  go_loopw [5, 40] (fun v5 v wr => ∃ (k : Nat) (F : Value), v = .int .i64 k ∧ F = v5 ∧ k ≤ rs.length ∧ Own rc 30 10 w.heap.size wr F (sing (rs.take k)) ∧ Below w.heap.size w wr) (fun _ v _ => rs.length - (intOf v).toNat)
  case atStart => exact ⟨0, _, rfl, rfl, Nat.zero_le _, Fm.own_nil _ _ _ _ _, B2⟩
  case round =>
    clear B2
    obtain ⟨k, F, rfl, rfl, hk, hO, hB⟩ := hrel
    have h60 := H60.out
    by_cases hlt : k < rs.length
    · have g2 : decide ((k : Int) < (rs.length : Int)) = true := by simp [hlt]
      have W1 : IntKind.i64.wrap ((k : Int) + 1) = ((k + 1 : Nat) : Int) := by rw [IntWalk.i64_in _ (by omega)]; omega
      obtain ⟨a, rfl, h0, h1, h2, h3, h4, h5, h6, h7, h8, h9⟩ := (hR.on hB).at_ k hlt
      have hrc := HC.out _ (List.getElem_mem hlt)
      have HT := Lib.hid (sing_take hlt)
      have HBd : Hid (∀ j : Nat, (j : Int) < rs[k].ct → (adp rs[k].at_ (scp rs[k].st j)).ok) := Lib.hid fun j hj => by
        obtain ⟨b, -, hb⟩ := fitsM_bar (HF.out _ (List.getElem_mem hlt))
        exact sng_bd hb hj
      have HA := Lib.hid (HPre.out k)
      have HTk := Lib.hid (fun j => sngs_take (r := rs[k]) (k := j))
      have HSl := Lib.hid (sngs_len rs[k])
      have HSr : Hid (∀ j, sngR rs[k] j = ⟨rs[k].mark, rs[k].tn, adp rs[k].at_ (scp rs[k].st j), ⟨0, 0, 0⟩, 1⟩) := Lib.hid fun j => rfl
      generalize hsa : sing (rs.take k) = A at *
      generalize hrk : rs[k] = r at *
      clear hrk hsa
      generalize hsr : sngs r = SR at *
      generalize hsf : sngR r = SF at *
      clear hsr hsf
      obtain ⟨rm, ⟨tx, ty⟩, ⟨ax, ay, az⟩, ⟨sx, sy, sz⟩, ct⟩ := r
      unfold adp scp Pt.ok at HBd
      unfold adp scp at HSr
      dsimp only at *
      have E1 := ((Env.nil w).on hB).add wr.heap.size 30 #[.string rm, .int .i64 tx, .int .i64 ty, .int .i64 ax, .int .i64 ay, .int .i64 az, .int .i64 sx, .int .i64 sy, .int .i64 sz, .int .i64 ct] rfl
      have hO1 := own_on hO (al1 wr (.cells #[.string rm, .int .i64 tx, .int .i64 ty, .int .i64 ax, .int .i64 ay, .int .i64 az, .int .i64 sx, .int .i64 sy, .int .i64 sz, .int .i64 ct] 30))
      have HOL := Lib.hid (World.ownsRow.lt hO)
      have HWB := Lib.hid hB.size
      clear hO hB
      go_upto_region 9 with fail
      generalize wr.alloc (.cells #[.string rm, .int .i64 tx, .int .i64 ty, .int .i64 ax, .int .i64 ay, .int .i64 az, .int .i64 sx, .int .i64 sy, .int .i64 sz, .int .i64 ct] 30) = w1 at *
      generalize wr.heap.size = rb at *
      have hr1 := E1.lt 0 (by simp)
      simp only [numB] at hr1
      have C := E1.cells
      simp [BC, CF] at C
      have E2 := E1.add w1.heap.size 24 #[.int .i64 ax, .int .i64 ay, .int .i64 az] rfl
      have hO2 := own_on hO1 (al1 w1 (.cells #[.int .i64 ax, .int .i64 ay, .int .i64 az] 24))
      clear hO1 E1
      go_upto_region 10 with fail
      generalize w1.alloc (.cells #[.int .i64 ax, .int .i64 ay, .int .i64 az] 24) = w4 at *
      generalize w1.heap.size = pb at *
      clear C
      have C := E2.cells
      simp [BC, CF] at C
      have HNe : Hid (∀ g, F.ownBlock = some g → g ≠ pb ∧ g ≠ rb) := Lib.hid fun g e => by have := HOL.out g e; omega
      have HE2 := Lib.hid E2
      have HO2 := Lib.hid hO2
      clear hO2 E2
      go_wp2
      clear C
      go_loopw [5, 48] (fun v5 v wi => ∃ (j : Nat) (F : Value) (x y z : Int), v = .int .i64 j ∧ F = v5 ∧ (j : Int) ≤ ct ∧ Hid ((j : Int) < ct → x = ax + sx * j ∧ y = ay + sy * j ∧ z = az + sz * j) ∧ Hid (∀ g, F.ownBlock = some g → g ≠ pb ∧ g ≠ rb) ∧ Own rc 30 10 w.heap.size wi F (A ++ SR.take j) ∧ Env w wi [⟨pb, 24, #[.int .i64 x, .int .i64 y, .int .i64 z]⟩, ⟨rb, 30, #[.string rm, .int .i64 tx, .int .i64 ty, .int .i64 ax, .int .i64 ay, .int .i64 az, .int .i64 sx, .int .i64 sy, .int .i64 sz, .int .i64 ct]⟩]) (fun _ v _ => ct.toNat - (intOf v).toNat)
      case atStart => exact ⟨0, _, ax, ay, az, rfl, rfl, by omega, Lib.hid (by simp), HNe, by rw [List.take_zero, List.append_nil]; exact HO2.out, HE2.out⟩
      case round =>
        clear HNe HE2 HO2 HOL
        obtain ⟨j, F, x, y, z, rfl, rfl, hj, HX, HNe, hO, E⟩ := hrel
        by_cases hjt : (j : Int) < ct
        · have g3 : decide ((j : Int) < ct) = true := by simp [hjt]
          have W2 : IntKind.i64.wrap ((j : Int) + 1) = ((j + 1 : Nat) : Int) := by rw [IntWalk.i64_in _ (by omega)]; omega
          have C := E.cells
          simp [BC, CF] at C
          have HTj := Lib.hid (HTk.out j (by omega))
          have hlen : (A ++ SR.take j).length ≤ 61000 := by have := HA.out; simp; omega
          have HLen := Lib.hid hlen
          have hn := Has.new_ wr 30 #[.string rm, .int .i64 tx, .int .i64 ty, .int .i64 x, .int .i64 y, .int .i64 z, .int .i64 0, .int .i64 0, .int .i64 0, .int .i64 1]
          have HNw := Lib.hid hn
          have oo := own_on hO (al1 wr (.cells #[.string rm, .int .i64 tx, .int .i64 ty, .int .i64 x, .int .i64 y, .int .i64 z, .int .i64 0, .int .i64 0, .int .i64 0, .int .i64 1] 30))
          have E14 := Lib.hid (E.more (.cells #[.string rm, .int .i64 tx, .int .i64 ty, .int .i64 x, .int .i64 y, .int .i64 z, .int .i64 0, .int .i64 0, .int .i64 0, .int .i64 1] 30))
          have s7 := (envb E14.out).size
          have hp1 := E.lt 0 (by simp)
          have hp2 := E.lt 1 (by simp)
          simp only [numB] at hp1 hp2
          have HP := Lib.hid (And.intro hp1 hp2)
          have HAs : Hid (A ++ SR.take j ++ [⟨rm, ⟨tx, ty⟩, ⟨x, y, z⟩, ⟨0, 0, 0⟩, 1⟩] = A ++ SR.take (j + 1)) := Lib.hid (by
            obtain ⟨e1, e2, e3⟩ := HX.out hjt
            rw [HTj.out, HSr.out, e1, e2, e3, List.append_assoc])
          clear hn hO E hlen hp1 hp2
          generalize A ++ SR.take j = O at *
          obtain ⟨i0, hi, hz0, hz1, hz2⟩ := hI.out
          go_wp2_with (at_builtin; refine wpList_append_own_at _ rfl _ _ 22 rfl w.heap.size 30 i0 _ 10 88 Try.underlying22 hi hz0 hz1 hz2 rfl (by decide) _ O.length (O.flatMap rc) rfl oo ⟨_, 0, none⟩ 1 1 [.string rm, .int .i64 tx, .int .i64 ty, .int .i64 x, .int .i64 y, .int .i64 z, .int .i64 0, .int .i64 0, .int .i64 0, .int .i64 1] rfl rfl (World.news_of_block (cs := #[.string rm, .int .i64 tx, .int .i64 ty, .int .i64 x, .int .i64 y, .int .i64 z, .int .i64 0, .int .i64 0, .int .i64 0, .int .i64 1]) (t := 30) (fr := (0, 0)) HNw.out) (by simp [Value.oneCell']) (by have := HLen.out; unfold maxLen; omega) (by have := HLen.out; omega) s7 ?_)
          intro v' wc r1 r2 r3 r4
          have O7 : Own rc 30 10 w.heap.size wc v' (O ++ [⟨rm, ⟨tx, ty⟩, ⟨x, y, z⟩, ⟨0, 0, 0⟩, 1⟩]) := own_snoc r1
          have hge := fun q (hq : _ = some q) => (World.ownsRow.lt oo q hq).1
          have E7 : Env w wc [⟨pb, 24, #[.int .i64 x, .int .i64 y, .int .i64 z]⟩, ⟨rb, 30, #[.string rm, .int .i64 tx, .int .i64 ty, .int .i64 ax, .int .i64 ay, .int .i64 az, .int .i64 sx, .int .i64 sy, .int .i64 sz, .int .i64 ct]⟩] := (E14.out).grow r2 (fun q hq => ⟨fun y hy => by
            have := HNe.out q hq
            simp only [List.mem_cons, List.not_mem_nil, or_false] at hy
            rcases hy with rfl | rfl
            · dsimp only; omega
            · dsimp only; omega, by have := hge q hq; omega⟩)
          have HNe2 : Hid (∀ g, v'.ownBlock = some g → g ≠ pb ∧ g ≠ rb) := Lib.hid fun g e => by
            rcases r4 with h | h
            · exact HNe.out g (h ▸ e)
            · rw [h] at e
              have h5 := HP.out
              simp at e
              omega
          rw [HAs.out] at O7
          clear r1 r2 r3 r4 oo E14 hge HNe C HNw
          have C := E7.cells
          simp [BC, CF] at C
          have HSt : Hid (((j + 1 : Nat) : Int) < ct → IntKind.i64.wrap (x + sx) = ax + sx * ((j + 1 : Nat) : Int) ∧ IntKind.i64.wrap (y + sy) = ay + sy * ((j + 1 : Nat) : Int) ∧ IntKind.i64.wrap (z + sz) = az + sz * ((j + 1 : Nat) : Int)) := Lib.hid fun h => by
            obtain ⟨e1, e2, e3⟩ := HX.out hjt
            obtain ⟨b1, b2, b3⟩ := HBd.out (j + 1) h
            exact ⟨wrap_next e1 b1, wrap_next e2 b2, wrap_next e3 b3⟩
          obtain ⟨x2, hx2⟩ : ∃ u, u = IntKind.i64.wrap (x + sx) := ⟨_, rfl⟩
          obtain ⟨y2, hy2⟩ : ∃ u, u = IntKind.i64.wrap (y + sy) := ⟨_, rfl⟩
          obtain ⟨z2, hz2'⟩ : ∃ u, u = IntKind.i64.wrap (z + sz) := ⟨_, rfl⟩
          have h24 := fun W => plus_24 x y z sx sy sz x2 y2 z2 hx2.symm hy2.symm hz2'.symm W
          rw [← hx2, ← hy2, ← hz2'] at HSt
          clear hx2 hy2 hz2'
          go_upto_region 14 with (go_at_call 24; (with_reducible refine (h24 _).mono ?_); rintro X wa ⟨rfl, hba⟩; replace E7 := E7.on hba; replace C := E7.cells; simp [BC, CF] at C; have oa := own_on O7 hba)
          have E13 := Env.put (Env.put (Env.put E7 0 0 (.int .i64 x2) rfl) 0 1 (.int .i64 y2) rfl) 0 2 (.int .i64 z2) rfl
          have o13 := own_at (own_at (own_at oa (at_put wa pb 0 (.int .i64 x2)) (fun e => (HNe2.out _ e).1 rfl)) (at_put _ pb 1 (.int .i64 y2)) (fun e => (HNe2.out _ e).1 rfl)) (at_put _ pb 2 (.int .i64 z2)) (fun e => (HNe2.out _ e).1 rfl)
          have HE13 : Hid (Env w (((wa.setCell ⟨pb, 0, none⟩ (.int .i64 x2)).setCell ⟨pb, 1, none⟩ (.int .i64 y2)).setCell ⟨pb, 2, none⟩ (.int .i64 z2)) [⟨pb, 24, #[.int .i64 x2, .int .i64 y2, .int .i64 z2]⟩, ⟨rb, 30, #[.string rm, .int .i64 tx, .int .i64 ty, .int .i64 ax, .int .i64 ay, .int .i64 az, .int .i64 sx, .int .i64 sy, .int .i64 sz, .int .i64 ct]⟩]) := Lib.hid E13
          have HO13 := Lib.hid o13
          clear E7 C oa O7 E13 o13 hba
          go_wp2
          go_roundw
          · exact ⟨j + 1, _, x2, y2, z2, rfl, rfl, by omega, HSt, HNe2, HO13.out, HE13.out⟩
          · simp [intOf]; omega
        · have g3 : decide ((j : Int) < ct) = false := by simp; omega
          have hfull : A ++ SR.take j = sing (rs.take (k + 1)) := by rw [HT.out, List.take_of_length_le (by have := HSl.out; omega)]
          rw [hfull] at hO
          have HZ := Lib.hid (And.intro hO (envb E))
          clear hO E hfull
          go_wp2
          go_roundw
          · exact ⟨k + 1, _, rfl, rfl, hlt, HZ.out.1, HZ.out.2⟩
          · simp [intOf]; omega
    · have g2 : decide ((k : Int) < (rs.length : Int)) = false := by simp; omega
      obtain rfl : k = rs.length := by omega
      rw [List.take_length] at hO
      obtain ⟨p2, cap2, rfl, hR2⟩ := own_slr hO HOk.out
      have k27 := fun W (h : Below wr.heap.size wr W) => Count_27 p l cap p2 (sing rs) cap2 W (hS.on (belows hB h)) (hR2.on h)
      have k28 := fun W (h : Below wr.heap.size wr W) => bal_28 p l cap p2 (sing rs) cap2 W (hS.on (belows hB h)) (hR2.on h)
      have D := Below.refl wr.heap.size wr
      have hB' := hB
      have HLy : Hid ((lay l rs).length = (sing rs).length) := Lib.hid (by have e1 := HL.out; have e2 := sing_len HC.out; omega)
      have HBl : Hid ((bal l rs).length ≤ 100000) := Lib.hid (by have h1 := bal_le l rs; have h2 := validL_le (validR_and HV.out).1; omega)
      clear hO hk
      generalize wr = s1 at *
      cases hv2 : validR l (sing rs)
      · rw [hv2] at k27 k28
        simp only [Bool.false_eq_true, if_false] at k27 k28
        clear hv2 hB
        go_wp2_with (first
          | (go_at_call 27; (with_reducible refine (h27 _ hB').mono ?_); rintro X wq ⟨rfl, hb⟩; replace hB' := belows hB' hb; replace D := belows D hb; clear hb)
          | (go_at_call 27; (with_reducible refine (k27 _ D).mono ?_); rintro X wq ⟨rfl, hb⟩; replace hB' := belows hB' hb; replace D := belows D hb; clear hb)
          | (go_at_call 28; (with_reducible refine (h28 _ hB').mono ?_); rintro X wq ⟨va, rfl, hOa, hb⟩; replace hB' := belows hB' hb; replace D := belows D hb; clear hb)
          | (go_at_call 28; (with_reducible refine (k28 _ D).mono ?_); rintro X wq ⟨vb, rfl, hOb, hb⟩; replace hB' := belows hB' hb; replace D := belows D hb; clear hb))
        go_ret
        exact ⟨rfl, hB'⟩
      rw [hv2, totR_sing] at k27
      rw [hv2, HB.out] at k28
      simp only [if_true] at k27 k28
      have HV2 := Lib.hid hv2
      clear hv2
      go_wp2_with (first
        | (go_at_call 27; (with_reducible refine (h27 _ hB').mono ?_); rintro X wq ⟨rfl, hb⟩; replace hB' := belows hB' hb; replace D := belows D hb; clear hb)
        | (go_at_call 27; (with_reducible refine (k27 _ D).mono ?_); rintro X wq ⟨rfl, hb⟩; replace hB' := belows hB' hb; replace D := belows D hb; clear hb)
        | (go_at_call 28; (with_reducible refine (h28 _ hB').mono ?_); rintro X wq ⟨va, rfl, hOa, hb⟩; replace hB' := belows hB' hb; replace D := belows D hb; clear hb)
        | (go_at_call 28; (with_reducible refine (k28 _ D).mono ?_); rintro X wq2 ⟨vb, rfl, hOb, hb⟩; have ra := own_rdf (own_on hOa hb); have rb := own_rdf hOb; replace hB' := belows hB' hb; replace D := belows D hb; clear hb)
        | (go_at_call 29; (with_reducible refine (equalf_same _ _ _ _ ra rb HBl.out).mono ?_); rintro X wq3 ⟨rfl, hb⟩; replace hB' := belows hB' hb; replace D := belows D hb; clear hb))
      generalize hSN : (sing rs).length = SN at *
      go_loopw [127] (fun v wi => ∃ k : Nat, v = .int .i64 k ∧ k ≤ SN ∧ Below w.heap.size w wi ∧ Below s1.heap.size s1 wi) (fun v _ => SN - (intOf v).toNat)
      case atStart => exact ⟨0, rfl, Nat.zero_le _, hB', D⟩
      case round =>
        clear hB' D
        obtain ⟨k, rfl, hk, hB', D⟩ := hrel
        have hN := HN.out
        by_cases hlt : k < SN
        · have g4 : decide ((k : Int) < (SN : Int)) = true := by simp [hlt]
          have W1 : IntKind.i64.wrap ((k : Int) + 1) = ((k + 1 : Nat) : Int) := by rw [IntWalk.i64_in _ (by omega)]; omega
          have hlay : k < (lay l rs).length := by rw [HLy.out]; exact hlt
          obtain ⟨L, hleg, hll⟩ := legsC_at HV.out hlay
          have hmk := markC_at HV.out hlay
          have a15 := fun W (h : Below w.heap.size w W) => Legs_15 p l cap q rs capr k W (hS.on h) (hR.on h)
          have b15 := fun W (h : Below s1.heap.size s1 W) => Legs_15 p l cap p2 (sing rs) cap2 k W (hS.on (belows hB h)) (hR2.on h)
          have a16 := fun W (h : Below w.heap.size w W) => Mark_16 p l cap q rs capr k W (hS.on h) (hR.on h)
          have b16 := fun W (h : Below s1.heap.size s1 W) => Mark_16 p l cap p2 (sing rs) cap2 k W (hS.on (belows hB h)) (hR2.on h)
          rw [legsC_sing HV.out HV2.out, hleg, hSN] at b15
          rw [hleg] at a15
          rw [markC_sing HV.out HV2.out, hmk, hSN] at b16
          rw [hmk] at a16
          dsimp only at a15 a16 b15 b16
          generalize (lay l rs)[k].1 = mk at *
          have HLL := Lib.hid hll
          clear hleg hmk hlay hll
          go_wp2_with (first
            | (go_at_call 15; (with_reducible refine (a15 _ hB').mono ?_); rintro X wq ⟨va, rfl, hOa, hb⟩; replace hB' := belows hB' hb; replace D := belows D hb; clear hb)
            | (go_at_call 15; (with_reducible refine (b15 _ D).mono ?_); rintro X wq2 ⟨vb, rfl, hOb, hb⟩; have ra := own_rdx (own_on hOa hb); have rb := own_rdx hOb; have ra0 := own_on hOa hb; replace hB' := belows hB' hb; replace D := belows D hb; clear hb)
            | (go_at_call 16; (with_reducible refine (a16 _ hB').mono ?_); rintro X wq3 ⟨rfl, hb⟩; have oa3 := own_on ra0 hb; have ob3 := own_on hOb hb; replace hB' := belows hB' hb; replace D := belows D hb; clear hb)
            | (go_at_call 16; (with_reducible refine (b16 _ D).mono ?_); rintro X wq4 ⟨rfl, hb⟩; have oa4 := own_rdx (own_on oa3 hb); have ob4 := own_rdx (own_on ob3 hb); replace hB' := belows hB' hb; replace D := belows D hb; clear hb)
            | (go_at_call 30; (with_reducible refine (equalx_same _ _ _ _ oa4 ob4 HLL.out).mono ?_); rintro X wq5 ⟨rfl, hb⟩; replace hB' := belows hB' hb; replace D := belows D hb; clear hb))
          go_roundw
          case rel => exact ⟨k + 1, rfl, hlt, hB', D⟩
          case measure => simp [intOf]; omega
        · have g4 : decide ((k : Int) < (SN : Int)) = false := by simp; omega
          go_wp2
          go_ret
          exact ⟨rfl, hB'⟩
end Go.Proofs.Ytfkcogocaecodaa
