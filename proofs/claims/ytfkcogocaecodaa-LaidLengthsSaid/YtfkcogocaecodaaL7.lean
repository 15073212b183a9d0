/- LaidBalances: the walk. -/
import Derived.Test.YtfkcogocaecodaaSl
import Derived.Deep.CutBlock
namespace Go.Proofs.Ytfkcogocaecodaa
open Go.ChangeShapes Go.WideShapes Go.ChangeAt Go.RowKit Go.Maps
set_option linter.unusedVariables false
set_option linter.unusedSimpArgs false

theorem large_14 (p : Option Addr) (l : List Bar) (cap : Nat) (q : Option Addr) (rs : List Rn) (capr : Nat) (w : World) (hS : Slb w p l cap) (hR : Slr w q rs capr) : Calls Try.prog 14 #[.slice p l.length cap, .slice q rs.length capr] w fun e w' => (∃ o, e = .returned (.bool o)) ∧ Below w.heap.size w w' := by
  go_enter Try.func14, Try.ntmps14
  go_wp2_with (go_at_call 25; (with_reducible refine (Small_25 p l cap q rs capr 8 60 _ hS hR).mono ?_); rintro X w1 ⟨⟨o, rfl⟩, hb1⟩)
  go_ret
  exact ⟨⟨_, rfl⟩, hb1⟩
/-- How often a mark stands among the first n laid bars. -/
def cntM (L : List (ByteArray × List Pt)) (m : ByteArray) : Int := ((L.filter fun x => decide (x.1 = m)).length : Nat)
theorem cntM_take {L : List (ByteArray × List Pt)} {k : Nat} (hk : k < L.length) (m : ByteArray) : cntM (L.take (k + 1)) m = cntM (L.take k) m + if L[k].1 = m then 1 else 0 := by
  unfold cntM
  rw [List.take_succ_eq_append_getElem hk, List.filter_append, List.length_append]
  by_cases h : L[k].1 = m <;> simp [h]
theorem cntM_bd (L : List (ByteArray × List Pt)) (m : ByteArray) : 0 ≤ cntM L m ∧ cntM L m ≤ L.length := by
  unfold cntM
  have := List.length_filter_le (fun x : ByteArray × List Pt => decide (x.1 = m)) L
  omega
theorem cntM_app (A B : List (ByteArray × List Pt)) (m : ByteArray) : cntM (A ++ B) m = cntM A m + cntM B m := by
  unfold cntM
  rw [List.filter_append, List.length_append]; omega
theorem cntM_runs (b : Bar) (r : Rn) (hc : 0 ≤ r.ct) (m : ByteArray) : cntM (rpaths b r) m = if r.mark = m then r.ct else 0 := by
  unfold cntM rpaths
  rw [List.filter_map, List.length_map]
  by_cases h : r.mark = m
  · rw [if_pos h]
    rw [List.filter_eq_self.2 (fun x hx => by simp [h])]
    simp; omega
  · rw [if_neg h]
    rw [List.filter_eq_nil_iff.2 (fun x hx => by simp [h])]
    rfl
/-- The numbers of laid bars by marks are what the balance counts. -/
theorem cntM_lay {l : List Bar} : ∀ {rs : List Rn} (m : ByteArray), (∀ r ∈ rs, fitsM l r = true) → cntM (lay l rs) m = laidN rs m
  | [], m, _ => rfl
  | r :: rs, m, h => by
    have ih := cntM_lay (l := l) (rs := rs) m fun x hx => h x (by simp [hx])
    obtain ⟨b, hb, hf⟩ := fitsM_bar (h r (by simp))
    have hc := (fitsB_and hf).2.1
    have e : lay l (r :: rs) = layR l r ++ lay l rs := by simp [lay]
    have e2 : layR l r = rpaths b r := by unfold layR; rw [hb]
    rw [e, e2, cntM_app, ih, cntM_runs b r (by omega)]
    unfold laidN
    rw [List.filter_cons]
    by_cases h : r.mark = m
    · rw [if_pos h, if_pos (by simpa using h)]; simp
    · rw [if_neg h, if_neg (by simpa using h)]; simp
def cntF (L : List (ByteArray × List Pt)) (m : ByteArray) : Option Value := if cntM L m = 0 then none else some (.int .i64 (cntM L m))
theorem cntF_getD (L : List (ByteArray × List Pt)) (m : ByteArray) : (cntF L m).getD (.int .i64 0) = .int .i64 (cntM L m) := by
  unfold cntF
  split
  · rename_i h; rw [h]; rfl
  · rfl
theorem cntF_step {L : List (ByteArray × List Pt)} {k : Nat} (hk : k < L.length) (x : ByteArray) : cntF (L.take (k + 1)) x = if x = L[k].1 then some (.int .i64 (cntM (L.take k) L[k].1 + 1)) else cntF (L.take k) x := by
  by_cases e : x = L[k].1
  · subst e
    rw [if_pos rfl]
    unfold cntF
    rw [cntM_take hk, if_pos rfl]
    have := (cntM_bd (L.take k) L[k].1).1
    rw [if_neg (by omega)]
  · rw [if_neg e]
    unfold cntF
    have ez : (if L[k].1 = x then (1 : Int) else 0) = 0 := if_neg (fun h => e h.symm)
    rw [cntM_take hk, ez, Int.add_zero]
theorem markC_at {l : List Bar} {rs : List Rn} (hv : validR l rs = true) {k : Nat} (hk : k < (lay l rs).length) : markC l rs (k : Int) = ((lay l rs)[k].1, 0) := by
  unfold markC layAt
  rw [hv, if_pos (by omega : (0 : Int) ≤ (k : Int))]
  rw [show ((k : Int)).toNat = k by omega, List.getElem?_eq_getElem hk]
  rfl
theorem barOf_at {l : List Bar} {m : ByteArray} {b : Bar} (h : barOf l m = some b) : ¬ fndV m l < 0 := by
  obtain ⟨k, hk, -, e⟩ := barOf_mem h
  unfold fndV
  rw [if_pos (by omega)]
  omega
theorem bal_get {l : List Bar} {rs : List Rn} {k : Nat} (hk : k < l.length) {x : Fg} (h : balO rs l[k] = some x) : (bal l rs)[(bal (l.take k) rs).length]? = some x := by
  have e : bal l rs = bal (l.take k) rs ++ bal (l.drop k) rs := by
    unfold bal
    rw [← List.filterMap_append, List.take_append_drop]
  rw [e, List.getElem?_append_right (Nat.le_refl _), Nat.sub_self, List.drop_eq_getElem_cons hk]
  unfold bal
  rw [List.filterMap_cons, h]
  rfl
set_option maxHeartbeats 8000000 in
set_option maxRecDepth 100000 in
theorem balances_walk (p : Option Addr) (l : List Bar) (cap : Nat) (q : Option Addr) (rs : List Rn) (capr : Nat) (w : World) (hS : Slb w p l cap) (hR : Slr w q rs capr) : Calls Try.prog 7 #[.slice p l.length cap, .slice q rs.length capr] w fun e w' => e = .returned (.bool true) ∧ Below w.heap.size w w' := by
  have h14 := fun W (h : Below w.heap.size w W) => large_14 p l cap q rs capr W (hS.on h) (hR.on h)
  have h28 := fun W (h : Below w.heap.size w W) => bal_28 p l cap q rs capr W (hS.on h) (hR.on h)
  have h27 := fun W (h : Below w.heap.size w W) => Count_27 p l cap q rs capr W (hS.on h) (hR.on h)
  have hmm := @run_makeMap Try.prog
  go_enter Try.func7, Try.ntmps7
  go_upto_region 3 with (go_at_call 8; (with_reducible refine (awake_8 _).mono ?_); rintro X w1 ⟨rfl, hb1⟩)
  go_wp2_with (go_at_call 14; (with_reducible refine (h14 _ hb1).mono ?_); rintro X w2 ⟨⟨o, rfl⟩, hb2⟩; refine StopI.out ?_)
  have B2 := belows hb1 hb2
  clear hb1 hb2 h14
  cases o
  case true =>
    refine StopI.mk ?_
    go_wp2
    go_ret
    exact ⟨rfl, B2⟩
  refine StopI.mk ?_
  cases hv : validR l rs
  · rw [hv] at h28 h27
    simp only [Bool.false_eq_true, if_false] at h28 h27
    clear hv
    go_wp2_with (first
      | (go_at_call 28; (with_reducible refine (h28 _ B2).mono ?_); rintro X w3 ⟨v, rfl, hO, hb3⟩; obtain ⟨q0, c0, rfl, -⟩ := Own.rd fcl hO; simp only [List.length_nil]; replace B2 := belows B2 hb3)
      | (go_at_call 27; (with_reducible refine (h27 _ B2).mono ?_); rintro X w4 ⟨rfl, hb4⟩; replace B2 := belows B2 hb4))
    go_ret
    exact ⟨rfl, B2⟩
  rw [hv] at h28 h27
  simp only [if_true] at h28 h27
  have HV := Lib.hid hv
  obtain ⟨hvl, h60, hfit, htot⟩ := validR_and hv
  have HVL := Lib.hid hvl
  have HF := Lib.hid hfit
  have hN : totR rs = ((lay l rs).length : Nat) := (lay_len hfit).symm
  have HN : Hid ((lay l rs).length ≤ 2000) := Lib.hid (by omega)
  have HL := Lib.hid (validL_le hvl)
  have HCn := Lib.hid (fun m => cntM_lay (l := l) (rs := rs) m hfit)
  have HM := Lib.hid (fun x hx => lay_mark (l := l) (rs := rs) hR.ok (x := x) hx)
  rw [hN] at h27
  clear hv hvl hfit h60 htot hN
  go_upto_region 9 with (first
    | (go_at_call 28; (with_reducible refine (h28 _ B2).mono ?_); rintro X w3 ⟨v, rfl, hO, hb3⟩; obtain ⟨q0, c0, rfl, -⟩ := Own.rd fcl hO; replace B2 := belows B2 hb3)
    | (go_at_call 27; (with_reducible refine (h27 _ B2).mono ?_); rintro X w4 ⟨rfl, hb4⟩; replace B2 := belows B2 hb4; have hO4 := own_on hO hb4))
  go_upto_region 10 with fail
  have M0 := Smap.made w4
  have B0 := al1 w4 (.map #[] 0)
  have hmb : w.heap.size ≤ w4.heap.size := B2.size
  have hO5 := own_on hO4 B0
  have BW := belows B2 B0
  clear hO hO4 hb3 hb4 B2 B0 h28 h27
  generalize w4.alloc (.map #[] 0) = wz at *
  generalize w4.heap.size = mb at *
  generalize hw3 : w2.heap.size = n2 at hO5
  have HO5 := Lib.hid (And.intro hO5 BW)
  clear hw3 hO5 BW
  have M00 : Smap wz mb 0 (cntF ((lay l rs).take 0)) := M0.cong fun x => rfl
  clear M0
  go_wp2
  go_loopw [50] (fun v wr => ∃ k : Nat, v = .int .i64 k ∧ k ≤ (lay l rs).length ∧ Smap wr mb k (cntF ((lay l rs).take k)) ∧ Own fc 71 2 n2 wr (.slice q0 (bal l rs).length c0) (bal l rs) ∧ Below w.heap.size w wr) (fun v _ => (lay l rs).length - (intOf v).toNat)
  case atStart => exact ⟨0, rfl, Nat.zero_le _, M00, HO5.out.1, HO5.out.2⟩
  case round =>
    clear M00
    obtain ⟨k, rfl, hk, M, hO, hB⟩ := hrel
    have hN2 := HN.out
    by_cases hlt : k < (lay l rs).length
    · have g1 : decide ((k : Int) < ((lay l rs).length : Int)) = true := by simp [hlt]
      have W1 : IntKind.i64.wrap ((k : Int) + 1) = ((k + 1 : Nat) : Int) := by rw [IntWalk.i64_in _ (by omega)]; omega
      have h16 := Mark_16 p l cap q rs capr k wr (hS.on hB) (hR.on hB)
      rw [markC_at HV.out hlt] at h16
      have hmem := List.getElem_mem hlt
      have hnm := HM.out _ hmem
      obtain ⟨r, hr, b, hb, -, -, k2, -, hx⟩ := lay_mem HV.out hmem
      have h31 := fun W (h : Below w.heap.size w W) => rFind_any p l cap (lay l rs)[k].1 W (hS.on h)
      have hfd : ¬ fndV (lay l rs)[k].1 l < 0 := by rw [hx]; exact barOf_at hb
      have g2 : decide (fndV (lay l rs)[k].1 l < 0) = false := by simpa using hfd
      obtain ⟨cn1, hc1⟩ : ∃ z : Int, z = cntM ((lay l rs).take k) (lay l rs)[k].1 + 1 := ⟨_, rfl⟩
      have hst := cntF_step hlt
      simp only [← hc1] at hst
      have HSt := Lib.hid hst
      clear hst
      have hcb := cntM_bd ((lay l rs).take k) (lay l rs)[k].1
      have hlk : ((lay l rs).take k).length ≤ 2000 := by simp; omega
      have W2 : IntKind.i64.wrap (cntM ((lay l rs).take k) (lay l rs)[k].1 + 1) = cn1 := by rw [hc1]; exact IntWalk.i64_in _ (by omega)
      dsimp only at h16
      have HMk := Lib.hid M
      have HOk := Lib.hid hO
      have HLk : Hid (∀ W, Below wr.heap.size wr W → (Instr.lookup 73 (.map (some mb)) (.string (lay l rs)[k].1) false).run Try.prog W = .ok (.int .i64 (cntM ((lay l rs).take k) (lay l rs)[k].1)) W ∧ ∃ w', (Instr.mapUpdate 73 (.map (some mb)) (.string (lay l rs)[k].1) (.int .i64 cn1)).run Try.prog W = .ok () w' ∧ Smap w' mb (k + 1) (cntF ((lay l rs).take (k + 1))) ∧ W.grownBy w' (some mb)) := Lib.hid fun W hW => by
        have R := (HMk.out.on hW).look (lay l rs)[k].1 hnm Try.underlying73 (zero3 _)
        rw [cntF_getD] at R
        obtain ⟨w', hr, M', hg⟩ := (HMk.out.on hW).put (lay l rs)[k].1 (.int .i64 cn1) hnm (by omega) Try.underlying73
        exact ⟨R, w', hr, M'.cong fun x => (HSt.out x).symm, hg⟩
      clear hmem hx hb hr hfd hcb hlk M hO hc1
      have HNB := Lib.hid (smap_row HMk.out HOk.out)
      generalize cntM ((lay l rs).take k) (lay l rs)[k].1 = cn at *
      generalize (lay l rs)[k].1 = mk at *
      generalize fndV mk l = fv at *
      go_upto_region 16 with (first
        | (go_at_call 16; (with_reducible refine h16.mono ?_); rintro X w5 ⟨rfl, hb5⟩)
        | (go_at_call 31; (with_reducible refine (h31 _ (belows hB hb5)).mono ?_); rintro X w6 ⟨rfl, rfl⟩))
      obtain ⟨R, w7, R7, M7, hg7⟩ := HLk.out w5 hb5
      have HB7 : Hid (Own fc 71 2 n2 w7 (.slice q0 (bal l rs).length c0) (bal l rs) ∧ Below w.heap.size w w7) := Lib.hid ⟨own_kps (own_on HOk.out hb5) fun z hz => hg7.block z (by have := World.ownsRow.lt (own_on HOk.out hb5) z hz; omega) (fun e => HNB.out (by rw [hz, e])), (belows hB hb5).grown hg7 (belows hB hb5).size (fun j hj => by cases hj; omega)⟩
      have HM7 := Lib.hid M7
      clear M7 hg7
      go_wp2
      exact ⟨⟨k + 1, rfl, hlt, HM7.out, HB7.out.1, HB7.out.2⟩, by simp [intOf]; omega⟩
    · have g1 : decide ((k : Int) < ((lay l rs).length : Int)) = false := by simp; omega
      rw [List.take_of_length_le (by omega)] at M
      have HM1 := Lib.hid (M.more (show k ≤ 2000 by omega))
      have HO1 := Lib.hid (And.intro hO hB)
      clear M hO hB
      go_wp2
      go_loopw [13, 75] (fun v13 v wr => ∃ k : Nat, v = .int .i64 k ∧ v13 = .int .i64 ((bal (l.take k) rs).length : Nat) ∧ k ≤ l.length ∧ Smap wr mb 2000 (cntF (lay l rs)) ∧ Own fc 71 2 n2 wr (.slice q0 (bal l rs).length c0) (bal l rs) ∧ Below w.heap.size w wr) (fun _ v _ => l.length - (intOf v).toNat)
      case atStart => exact ⟨0, rfl, rfl, Nat.zero_le _, HM1.out, HO1.out.1, HO1.out.2⟩
      case round =>
        clear hk
        obtain ⟨k, rfl, rfl, hk, M, hO, hB⟩ := hrel
        have hle := HL.out
        by_cases hlt : k < l.length
        · have g1 : decide ((k : Int) < (l.length : Int)) = true := by simp [hlt]
          have W1 : IntKind.i64.wrap ((k : Int) + 1) = ((k + 1 : Nat) : Int) := by rw [IntWalk.i64_in _ (by omega)]; omega
          have HT := Lib.hid (bal_take (rs := rs) hlt)
          have HGet := Lib.hid (fun x => bal_get (rs := rs) hlt (x := x))
          have hnm := (hS.ok _ (List.getElem_mem hlt)).nm
          have hlen : (bal (l.take k) rs).length ≤ 60 := by have := bal_le (l.take k) rs; simp at this; omega
          obtain ⟨a, rfl, c0', c1, c2, c3, c4⟩ := (hS.on hB).at_ k hlt
          have E := (Env.nil wr).add wr.heap.size 49 l[k].cs rfl
          rw [bcs] at E
          obtain ⟨-, C0, C1, C2, C3, C4⟩ := s_b5 E
          have R1 := (M.on (envb E)).look l[k].mark hnm Try.underlying73 (zero3 _)
          rw [cntF_getD, HCn.out] at R1
          have HM5 := Lib.hid (M.on (envb E))
          have hO5 := own_on hO (envb E)
          have HB5 := Lib.hid (And.intro hO5 (belows hB (envb E)))
          have hbd : balO rs l[k] = if laidN rs l[k].mark < l[k].count then some ⟨1, l[k].mark⟩ else if l[k].count < laidN rs l[k].mark then some ⟨2, l[k].mark⟩ else none := rfl
          have HBd := Lib.hid hbd
          clear hbd M hO
          generalize hkk : (bal (l.take k) rs).length = kk at *
          have HKK := Lib.hid hkk
          clear hkk
          have W3 : IntKind.i64.wrap ((kk : Int) + 1) = ((kk + 1 : Nat) : Int) := by rw [IntWalk.i64_in _ (by omega)]; omega
          generalize laidN rs l[k].mark = ln at *
          generalize balO rs l[k] = bo at *
          generalize l[k].mark = mk at *
          generalize l[k].size = bs at *
          generalize l[k].count = bct at *
          generalize l[k].code = cd at *
          generalize l[k].ds.length = dl at *
          generalize l[k].cap = dc at *
          generalize l[k].p = dp at *
          clear E
          rcases (by omega : ln < bct ∨ bct < ln ∨ ln = bct) with hc | hc | hc
          · have g2 : decide (ln < bct) = true := by simp; omega
            have g3 : decide (ln > bct) = false := by simp; omega
            have hbo : bo = some ⟨1, mk⟩ := by rw [HBd.out, if_pos (by omega)]
            have hget := HGet.out _ hbo
            have hkl : kk < (bal l rs).length := (List.getElem?_eq_some_iff.1 hget).1
            have hel : (bal l rs)[kk] = ⟨1, mk⟩ := by
              rw [List.getElem?_eq_getElem hkl] at hget
              simpa using hget
            obtain ⟨q1, c1', e1, K1⟩ := Own.rd fcl hO5
            simp only [Value.slice.injEq] at e1
            obtain ⟨rfl, -, rfl⟩ := e1
            obtain ⟨g, rfl, K2⟩ := K1 kk hkl
            rw [hel] at K2
            have k0 := K2 0 (by omega)
            have k1 := K2 1 (by omega)
            have k0' : (wr.alloc (.cells #[.string mk, .int .i64 bs, .int .i64 bct, .int .i64 cd, .slice dp dl dc] 49)).cell? ⟨g, kk * 2, none⟩ = some (.int .i64 1) := k0
            have k1' : (wr.alloc (.cells #[.string mk, .int .i64 bs, .int .i64 bct, .int .i64 cd, .slice dp dl dc] 49)).cell? ⟨g, kk * 2 + 1, none⟩ = some (.string mk) := k1
            have g4 : decide ((kk : Int) ≥ ((bal l rs).length : Int)) = false := by simp; omega
            have q1 : (0 : Int) ≤ (kk : Int) := by omega
            have q2 : (kk : Int) < ((bal l rs).length : Int) := by omega
            have hne : ∀ W, (binOp .neq 71 (.agg #[.int .i64 1, .string mk]) (.agg #[.int .i64 1, .string mk])).run Try.prog W = .ok (.bool false) W := fun W => (ne71 ⟨1, mk⟩ ⟨1, mk⟩ W).trans (by rw [decide_eq_true rfl]; rfl)
            have HB0 := Lib.hid hbo
            clear hc hbo hget hel K1 K2 k0 k1 hO5
            go_wp2_with fail
            go_quiet (fail)
            go_wp2
            go_roundw
            case rel => exact ⟨k + 1, rfl, by rw [HT.out, HB0.out, List.length_append, HKK.out]; rfl, hlt, HM5.out.on (below_drewN (Below.refl _ _) _), own_on HB5.out.1 (below_drewN (Below.refl _ _) _), belows HB5.out.2 (below_drewN (Below.refl _ _) _)⟩
            case measure => simp [intOf]; omega
          · have g2 : decide (ln < bct) = false := by simp; omega
            have g3 : decide (ln > bct) = true := by simp; omega
            have hbo : bo = some ⟨2, mk⟩ := by rw [HBd.out, if_neg (by omega), if_pos (by omega)]
            have hget := HGet.out _ hbo
            have hkl : kk < (bal l rs).length := (List.getElem?_eq_some_iff.1 hget).1
            have hel : (bal l rs)[kk] = ⟨2, mk⟩ := by
              rw [List.getElem?_eq_getElem hkl] at hget
              simpa using hget
            obtain ⟨q1, c1', e1, K1⟩ := Own.rd fcl hO5
            simp only [Value.slice.injEq] at e1
            obtain ⟨rfl, -, rfl⟩ := e1
            obtain ⟨g, rfl, K2⟩ := K1 kk hkl
            rw [hel] at K2
            have k0 := K2 0 (by omega)
            have k1 := K2 1 (by omega)
            have k0' : (wr.alloc (.cells #[.string mk, .int .i64 bs, .int .i64 bct, .int .i64 cd, .slice dp dl dc] 49)).cell? ⟨g, kk * 2, none⟩ = some (.int .i64 2) := k0
            have k1' : (wr.alloc (.cells #[.string mk, .int .i64 bs, .int .i64 bct, .int .i64 cd, .slice dp dl dc] 49)).cell? ⟨g, kk * 2 + 1, none⟩ = some (.string mk) := k1
            have g4 : decide ((kk : Int) ≥ ((bal l rs).length : Int)) = false := by simp; omega
            have q1 : (0 : Int) ≤ (kk : Int) := by omega
            have q2 : (kk : Int) < ((bal l rs).length : Int) := by omega
            have hne : ∀ W, (binOp .neq 71 (.agg #[.int .i64 2, .string mk]) (.agg #[.int .i64 2, .string mk])).run Try.prog W = .ok (.bool false) W := fun W => (ne71 ⟨2, mk⟩ ⟨2, mk⟩ W).trans (by rw [decide_eq_true rfl]; rfl)
            have HB0 := Lib.hid hbo
            clear hc hbo hget hel K1 K2 k0 k1 hO5
            go_wp2_with fail
            go_quiet (fail)
            go_wp2
            go_roundw
            case rel => exact ⟨k + 1, rfl, by rw [HT.out, HB0.out, List.length_append, HKK.out]; rfl, hlt, HM5.out.on (below_drewN (Below.refl _ _) _), own_on HB5.out.1 (below_drewN (Below.refl _ _) _), belows HB5.out.2 (below_drewN (Below.refl _ _) _)⟩
            case measure => simp [intOf]; omega
          · have g2 : decide (ln < bct) = false := by simp; omega
            have g3 : decide (ln > bct) = false := by simp; omega
            have HB0 : Hid (bo = none) := Lib.hid (by rw [HBd.out, if_neg (by omega), if_neg (by omega)])
            clear hc
            go_wp2
            go_roundw
            case rel => exact ⟨k + 1, rfl, by rw [HT.out, HB0.out, List.length_append, HKK.out]; rfl, hlt, HM5.out, HB5.out.1, HB5.out.2⟩
            case measure => simp [intOf]; omega
        · have g1 : decide ((k : Int) < (l.length : Int)) = false := by simp; omega
          rw [List.take_of_length_le (by omega)]
          have hBh := Lib.hid hB
          clear hB hO M
          go_wp2
          go_ret
          exact ⟨by simp, hBh.out⟩
end Go.Proofs.Ytfkcogocaecodaa
