/- ScheduleAdds. -/
import Derived.Test.YthdafpbmmfelpaaGreatDoorPm
import Derived.Test.YthdafpbmmfelpaaGreatDoorCo
namespace Go.Proofs.YthdafpbmmfelpaaGreatDoor
open Go.ChangeShapes Go.WideShapes Go.ChangeAt Go.RowKit
set_option linter.unusedVariables false
set_option linter.unusedSimpArgs false

theorem valid_nil : validL [] = true := by unfold validL; simp
theorem merge_nil {a : List Bar} (hva : validL a = true) (p : Option Addr) (cp : Nat) (W : World) (hA : Slb W p a cp) :
    Calls Tryz.prog 27 #[.slice p a.length cp, .slice none 0 0] W fun e w' => ∃ pN lN cN, e = .returned (.tuple #[.slice pN lN.length cN, .int .i64 0]) ∧ Slb w' pN lN cN ∧ lN.map nrm = a.map nrm ∧ Below W.heap.size W w' := by
  obtain ⟨e0, e1⟩ := mgE_nil hva
  refine (show Calls Tryz.prog 27 #[.slice p a.length cp, .slice none ([] : List Bar).length 0] W _ from Merge_ok p none a [] cp 0 W hA (Slb.nil W) hva valid_nil).mono ?_
  rintro X w' ⟨v, rfl, k1, k2, hb⟩
  obtain ⟨p', l, c', rfl, h1, h2⟩ := mg_shape k1 k2
  exact ⟨p', l, c', by rw [e0], h1, by rw [h2, e1], hb⟩
theorem ds_nil {a : List Bar} (hva : validL a = true) {l : List Bar} (h : l.map nrm = a.map nrm) : ∀ x ∈ l, x.ds.length ≤ 1000 :=
  resN_ds (a := a) (b := []) (valid_all hva).2 (fun x h => by cases h) (by rw [h, (mgE_nil hva).2])
theorem concat3 (wc : World) (qa qb qc : Option Addr) (ca cb cc : Nat) (A B M : List S2) (la : A.length ≤ 60) (lb : B.length ≤ 60) (lm : M.length ≤ 60)
    (H : Own sc 49 2 0 wc (.slice qa A.length ca) A ∧ Own sc 49 2 0 wc (.slice qb B.length cb) B ∧ Own sc 49 2 0 wc (.slice qc M.length cc) M) :
    Calls Tryz.prog 33 #[.slice (some ⟨wc.heap.size, 0, none⟩) 3 3] (wc.alloc (.cells #[.slice qa A.length ca, .slice qb B.length cb, .slice qc M.length cc] 43)) fun e w' => ∃ qd cd CC, e = .returned (.slice qd CC.length cd) ∧ Rd sc 2 w' (.slice qd CC.length cd) CC ∧ CC.length ≤ 180 ∧
      Below (wc.alloc (.cells #[.slice qa A.length ca, .slice qb B.length cb, .slice qc M.length cc] 43)).heap.size (wc.alloc (.cells #[.slice qa A.length ca, .slice qb B.length cb, .slice qc M.length cc] 43)) w' := by
  have HN := Has.new_ wc 43 #[.slice qa A.length ca, .slice qb B.length cb, .slice qc M.length cc]
  have hb := al1 wc (.cells #[.slice qa A.length ca, .slice qb B.length cb, .slice qc M.length cc] 43)
  refine (show Calls Tryz.prog 33 #[.slice (some ⟨wc.heap.size, 0, none⟩) [(Value.slice qa A.length ca, A), (Value.slice qb B.length cb, B), (Value.slice qc M.length cc, M)].length 3] _ _ from concat_any wc.heap.size 3 [(.slice qa A.length ca, A), (.slice qb B.length cb, B), (.slice qc M.length cc, M)] 0 _ (Nat.le_refl 3) (by intro r hr; simp at hr; rcases hr with rfl | rfl | rfl <;> assumption) (by
    intro i hi
    match i, hi with
    | 0, _ => exact ⟨HN.read 0, H.1.on hb⟩
    | 1, _ => exact ⟨HN.read 1, H.2.1.on hb⟩
    | 2, _ => exact ⟨HN.read 2, H.2.2.on hb⟩)).mono ?_
  rintro X w' ⟨v, rfl, hO, hB⟩
  obtain ⟨q, c, rfl⟩ := rd_form4 (Own.rd sl hO)
  exact ⟨q, c, _, rfl, Own.rd sl hO, by simp; omega, hB⟩
set_option maxHeartbeats 16000000 in
set_option maxRecDepth 100000 in
theorem adds_main (p : Option Addr) (a : List Bar) (cp : Nat) (q : Option Addr) (b : List Bar) (cq : Nat) (w : World) (hA : Slb w p a cp) (hB : Slb w q b cq) (hT : Tab w) (hs : (smallL a && smallL b) = true) (hva : validL a = true) (E : Int) (RN : List Bar)
    (h27 : ∀ W, Below w.heap.size w W → Calls Tryz.prog 27 #[.slice p a.length cp, .slice q b.length cq] W fun e w' => ∃ pM lM cM, e = .returned (.tuple #[.slice pM lM.length cM, .int .i64 E]) ∧ Slb w' pM lM cM ∧ lM.map nrm = RN ∧ Below W.heap.size W w')
    (hE : E ≠ 0 → RN = []) (hV : E = 0 → validL b = true ∧ ∀ l : List Bar, l.map nrm = RN → validL l = true ∧ totL l = totL a + totL b ∧ ∀ d x, kct l d x = kct a d x + kct b d x) :
    Calls Tryz.prog 9 #[.slice p a.length cp, .slice q b.length cq] w fun e w' => e = .returned (.bool true) ∧ Below w.heap.size w w' := by
  have few1 := few_two p q a b cp cq
  rw [hs] at few1
  have h27n := fun W (h : Below w.heap.size w W) => merge_nil hva p cp W (hA.on h)
  have HDs := Lib.hid (fun l h => ds_nil hva (l := l) h)
  by_cases hE0 : E = 0
  rotate_left
  · have g1 : (E != 0) = true := by simp [hE0]
    have HRN := Lib.hid (hE hE0)
    clear hE0 hE hV hs hva
    go_enter Tryz.func9, Tryz.ntmps9
    go_wp2_with (first
      | (go_at_call 10; (with_reducible refine (awake_any _ hT).mono ?_); rintro X w1 ⟨rfl, hb1⟩; have h11 := few1 w1 (hA.on hb1) (hB.on hb1))
      | (go_at_call 11; (with_reducible refine h11.mono ?_); rintro X w2 ⟨rfl, rfl⟩; have B2 := al hb1 (.cells #[.slice p a.length cp, .slice q b.length cq] 22))
      | (go_at_call 27; (with_reducible refine (h27 _ B2).mono ?_); rintro X w3 ⟨pM, lM, cM, rfl, hM, hN, hb⟩; have B3 := belows B2 hb; obtain rfl : lM = [] := (by rw [HRN.out] at hN; simpa using hN); clear hb hN)
      | (go_at_call 27; (with_reducible refine (h27n _ B3).mono ?_); rintro X w4 ⟨pN, lN, cN, rfl, hNl, hNn, hb⟩; have B4 := belows B3 hb; have HNn := Lib.hid hNn; have h22 := rSame_list pN p lN a cN cp w4 hNl (hA.on B4) (HDs.out lN hNn); clear hb hNn)
      | (go_at_call 22; (with_reducible refine h22.mono ?_); rintro X w5 ⟨R, rfl, hRR, hb⟩; obtain rfl : R = true := hRR.2 HNn.out; have B5 := belows B4 hb; clear hb hRR))
    go_ret
    exact ⟨rfl, B5⟩
  subst hE0
  obtain ⟨hvb, hres⟩ := hV rfl
  obtain ⟨hla, hAv⟩ := valid_all hva
  obtain ⟨hlb, hBv⟩ := valid_all hvb
  have h13a := fun W (h : Below w.heap.size w W) => Total_ok p a cp W (hA.on h) hva
  have h13b := fun W (h : Below w.heap.size w W) => Total_ok q b cq W (hB.on h) hvb
  have ta := tot_bd hAv
  have tb := tot_bd hBv
  obtain ⟨PA, hPA⟩ : ∃ PA : Int → List S2, ∀ d, pcs a d = PA d := ⟨pcs a, fun d => rfl⟩
  obtain ⟨PB, hPB⟩ : ∃ PB : Int → List S2, ∀ d, pcs b d = PB d := ⟨pcs b, fun d => rfl⟩
  have HA0 := Lib.hid (And.intro hva (And.intro hPA (pcs_ok hPA hAv hla)))
  have HB0 := Lib.hid (And.intro hvb (And.intro hPB (pcs_ok hPB hBv hlb)))
  have HSA := Lib.hid (fun d x => sumC_pcs hAv d x)
  have HSB := Lib.hid (fun d x => sumC_pcs hBv d x)
  have HRes := Lib.hid hres
  have tw : IntKind.i64.wrap (totL a + totL b) = totL a + totL b := IntWalk.i64_in _ (by omega)
  clear hva hvb hAv hBv hE hV hs hres hPA hPB ta tb
  generalize hTA : totL a = TA at *
  generalize hTB : totL b = TB at *
  clear hTA hTB
  go_enter Tryz.func9, Tryz.ntmps9
  go_wp2_with (first
    | (go_at_call 10; (with_reducible refine (awake_any _ hT).mono ?_); rintro X w1 ⟨rfl, hb1⟩; have h11 := few1 w1 (hA.on hb1) (hB.on hb1))
    | (go_at_call 11; (with_reducible refine h11.mono ?_); rintro X w2 ⟨rfl, rfl⟩; have B2 := al hb1 (.cells #[.slice p a.length cp, .slice q b.length cq] 22))
    | (go_at_call 27; (with_reducible refine (h27 _ B2).mono ?_); rintro X w3 ⟨pM, lM, cM, rfl, hM, hN, hb⟩; have B3 := belows B2 hb; have HM3 := Lib.hid hM; obtain ⟨hvm, htm, hkm⟩ := HRes.out lM hN; clear hb hN hM)
    | (go_at_call 27; (with_reducible refine (h27n _ B3).mono ?_); rintro X w4 ⟨pN, lN, cN, rfl, hNl, hNn, hb⟩; have B4 := belows B3 hb; have HM4 := Lib.hid (HM3.out.on hb); have HNn := Lib.hid hNn; have h22 := rSame_list pN p lN a cN cp w4 hNl (hA.on B4) (HDs.out lN hNn); clear hb hNn)
    | (go_at_call 22; (with_reducible refine h22.mono ?_); rintro X w5 ⟨R, rfl, hRR, hb⟩; obtain rfl : R = true := hRR.2 HNn.out; have B5 := belows B4 hb; have HM5 := Lib.hid (HM4.out.on hb); clear hb hRR)
    | (go_at_call 13; (with_reducible refine (h13a _ B5).mono ?_); rintro X w6 ⟨rfl, hb⟩; have B6 := belows B5 hb; have HM6 := Lib.hid (HM5.out.on hb); clear hb)
    | (go_at_call 13; (with_reducible refine (h13b _ B6).mono ?_); rintro X w7 ⟨rfl, hb⟩; have B7 := belows B6 hb; have HM7 := Lib.hid (HM6.out.on hb); have h13m := Total_ok pM lM cM w7 HM7.out hvm; rw [htm] at h13m; clear hb)
    | (go_at_call 13; (with_reducible refine h13m.mono ?_); rintro X w8 ⟨rfl, hb⟩; have B8 := belows B7 hb; have HM8 := Lib.hid (HM7.out.on hb); clear hb)
    | (go_at_call 31; (with_reducible refine (sizes_any w8).mono ?_); rintro X w9 ⟨g, rfl, hZ9, hb, hg⟩; have B9 := belows B8 hb; have HM9 := Lib.hid (HM8.out.on hb); clear hb))
  obtain ⟨PM, hPM⟩ : ∃ PM : Int → List S2, ∀ d, pcs lM d = PM d := ⟨pcs lM, fun d => rfl⟩
  have HC0 := Lib.hid (And.intro hvm (And.intro hPM (pcs_ok hPM (valid_all hvm).2 (valid_all hvm).1)))
  have HSum : Hid (∀ d x, sumC (PM d) x = sumC (PA d) x + sumC (PB d) x) := Lib.hid fun d x => by
    rw [← hPM, ← HA0.out.2.1, ← HB0.out.2.1, HSA.out, HSB.out, sumC_pcs (valid_all hvm).2, hkm]
  have hSA := Lib.hid (fun d W (hz : isz d = true) (h : Below w9.heap.size w9 W) => pieces_l HA0.out.2.1 HA0.out.1 p cp d W ((hA.on B9).on h) hz)
  have hSB := Lib.hid (fun d W (hz : isz d = true) (h : Below w9.heap.size w9 W) => pieces_l HB0.out.2.1 HB0.out.1 q cq d W ((hB.on B9).on h) hz)
  have hSM := Lib.hid (fun d W (hz : isz d = true) (h : Below w9.heap.size w9 W) => pieces_l HC0.out.2.1 HC0.out.1 pM cM d W (HM9.out.on h) hz)
  clear h27 h27n h13a h13b h13m h22 h11 few1 HM3 HM4 HM5 HM6 HM7 HM8 HM9 HSA HSB HRes HDs hkm htm hvm hPM B2 B3 B4 B5 B6 B7 B8 hb1 HNn hNl tw
  go_loopw [99] (fun v wr => ∃ k : Nat, v = .int .i64 k ∧ k ≤ 9 ∧ Below w9.heap.size w9 wr) (fun v _ => 9 - (intOf v).toNat)
  case atStart => exact ⟨0, rfl, Nat.zero_le _, Below.refl _ _⟩
  case round =>
    obtain ⟨k, rfl, hk, hX⟩ := hrel
    by_cases hlt : k < 9
    · have g1 : decide ((k : Int) < 9) = true := by simp; omega
      have W1 : IntKind.i64.wrap ((k : Int) + 1) = ((k + 1 : Nat) : Int) := by rw [IntWalk.i64_in _ (by omega)]; omega
      have q1 : (0 : Int) ≤ (k : Int) := by omega
      have q2 : (k : Int) < 9 := by omega
      have hzc := (hZ9.on hX).read hlt
      have hz : isz (sz[k]'hlt) = true := List.contains_iff_mem.2 (List.getElem_mem _)
      generalize sz[k]'hlt = d at *
      obtain ⟨la, -, oa⟩ := HA0.out.2.2 d
      obtain ⟨lb, -, ob⟩ := HB0.out.2.2 d
      obtain ⟨lm, -, om⟩ := HC0.out.2.2 d
      have HOa := Lib.hid (fun i h => And.intro (oa i h).1 (oa i h).2.1)
      have HOb := Lib.hid (fun i h => And.intro (ob i h).1 (ob i h).2.1)
      have HOm := Lib.hid (fun i h => And.intro (om i h).1 (om i h).2.1)
      have HSd := Lib.hid (HSum.out d)
      have h23a := hSA.out d wr hz hX
      have h23b := fun W (h : Below w9.heap.size w9 W) => hSB.out d W hz h
      have h23m := fun W (h : Below w9.heap.size w9 W) => hSM.out d W hz h
      clear oa ob om hz
      generalize PA d = A at *
      generalize PB d = B at *
      generalize PM d = M at *
      go_wp2_with (first
        | (go_at_call 23; (with_reducible refine h23a.mono ?_); rintro X wa ⟨va, rfl, hOa, hb⟩; have Ba := belows hX hb; clear hb; obtain ⟨qa, ca, rfl⟩ := rd_form4 (Own.rd sl hOa); have Ha := Lib.hid (hOa.mono (Nat.zero_le _)); clear hOa)
        | (go_at_call 23; (with_reducible refine (h23b _ Ba).mono ?_); rintro X wb ⟨vb, rfl, hOb, hb⟩; have Bb := belows Ba hb; obtain ⟨qb, cb, rfl⟩ := rd_form4 (Own.rd sl hOb); have Hb := Lib.hid (And.intro (Ha.out.on hb) (hOb.mono (Nat.zero_le _))); clear hOb hb)
        | (go_at_call 23; (with_reducible refine (h23m _ Bb).mono ?_); rintro X wc ⟨vc, rfl, hOc, hb⟩; have Bc := belows Bb hb; obtain ⟨qc, cc, rfl⟩ := rd_form4 (Own.rd sl hOc); have Hc := Lib.hid (And.intro (Hb.out.1.on hb) (And.intro (Hb.out.2.on hb) (hOc.mono (Nat.zero_le _)))); clear hOc hb;
            have h33 := concat3 wc qa qb qc ca cb cc A B M la lb lm Hc.out)
        | (go_at_call 33; (with_reducible refine h33.mono ?_); rintro X wd ⟨qd, cd, CC, rfl, hRd, hlc, hb⟩; have Bcd := al1 wc (.cells #[.slice qa A.length ca, .slice qb B.length cb, .slice qc M.length cc] 43); have Bd := belows Bc (belows Bcd hb); have Hd := Lib.hid (And.intro hRd (And.intro (Own.rd sl (Hc.out.1.on (belows Bcd hb))) (And.intro (Own.rd sl (Hc.out.2.1.on (belows Bcd hb))) (Own.rd sl (Hc.out.2.2.on (belows Bcd hb)))))); clear hRd hb Bcd))
      clear h33 h23a h23b h23m Ha Hb Hc hX Ba Bb Bc hzc
      go_loopw [137] (fun v wr => ∃ j : Nat, v = .int .i64 j ∧ j ≤ CC.length ∧ Below wd.heap.size wd wr) (fun v _ => CC.length - (intOf v).toNat)
      case atStart => exact ⟨0, rfl, Nat.zero_le _, Below.refl _ _⟩
      case round =>
        obtain ⟨j, rfl, hj, hY⟩ := hrel
        by_cases hjl : j < CC.length
        · have t1 : decide ((j : Int) < (CC.length : Int)) = true := by simp; omega
          have V1 : IntKind.i64.wrap ((j : Int) + 1) = ((j + 1 : Nat) : Int) := by rw [IntWalk.i64_in _ (by omega)]; omega
          have u1 : (0 : Int) ≤ (j : Int) := by omega
          have u2 : (j : Int) < (CC.length : Int) := by omega
          obtain ⟨q2, c2, e2, kk⟩ := Hd.out.1.on sl hY
          simp only [Value.slice.injEq] at e2
          obtain ⟨rfl, -, rfl⟩ := e2
          obtain ⟨g2, rfl, c⟩ := kk j hjl
          have c0 := c 0 (by omega)
          have c1 := c 1 (by omega)
          generalize CC[j] = x at c0 c1
          obtain ⟨xl, xc⟩ := x
          replace c0 : wr.cell? ⟨g2, j * 2, none⟩ = some (.int .i64 xl) := c0
          replace c1 : wr.cell? ⟨g2, j * 2 + 1, none⟩ = some (.int .i64 xc) := c1
          have E := (Env.nil wr).add wr.heap.size 49 #[.int .i64 xl, .int .i64 xc] rfl
          obtain ⟨-, s0, s1⟩ := s_b2 E
          have BV := al hY (.cells #[.int .i64 xl, .int .i64 xc] 49)
          have h32a := fun W (h : Below (wr.alloc (.cells #[.int .i64 xl, .int .i64 xc] 49)).heap.size (wr.alloc (.cells #[.int .i64 xl, .int .i64 xc] 49)) W) => sumq_any (.slice qa A.length ca) A xl W ((Hd.out.2.1.on sl BV).on sl h) la HOa.out
          have h32b := fun W (h : Below (wr.alloc (.cells #[.int .i64 xl, .int .i64 xc] 49)).heap.size (wr.alloc (.cells #[.int .i64 xl, .int .i64 xc] 49)) W) => sumq_any (.slice qb B.length cb) B xl W ((Hd.out.2.2.1.on sl BV).on sl h) lb HOb.out
          have h32m := fun W (h : Below (wr.alloc (.cells #[.int .i64 xl, .int .i64 xc] 49)).heap.size (wr.alloc (.cells #[.int .i64 xl, .int .i64 xc] 49)) W) => sumq_any (.slice qc M.length cc) M xl W ((Hd.out.2.2.2.on sl BV).on sl h) lm HOm.out
          have ba := sumC_bd HOa.out la xl A.length
          have bb := sumC_bd HOb.out lb xl B.length
          rw [List.take_length] at ba bb
          have hsd := HSd.out xl
          have W2 : IntKind.i64.wrap (sumC A xl + sumC B xl) = sumC A xl + sumC B xl := IntWalk.i64_in _ (by omega)
          have ne : (sumC M xl != sumC A xl + sumC B xl) = false := by simp [hsd]
          clear ba bb hsd E kk c
          generalize sumC A xl = sa at *
          generalize sumC B xl = sb at *
          generalize sumC M xl = sm at *
          go_upto_region 28 with fail
          generalize hVd : wr.alloc (.cells #[.int .i64 xl, .int .i64 xc] 49) = V at *
          go_region_held3 (fun W => W.cell? ⟨wr.heap.size, 0, none⟩ = some (.int .i64 xl) ∧ Below V.heap.size V W) (first | exact hS | exact ⟨hS.1, hS.2.drew⟩ | exact ⟨s0, Below.refl _ _⟩ | exact ⟨s0, (Below.refl _ _).drew⟩ | (go_split_ands; assumption) | go_keep)
            (first
              | (go_at_call 32; (with_reducible refine (h32m _ ?_).mono ?_); (first | exact hS.2 | exact hS.2.drew | exact (Below.refl _ _).drew | exact Below.refl _ _); rintro X w1 ⟨rfl, hb⟩; have hS : w1.cell? ⟨wr.heap.size, 0, none⟩ = some (.int .i64 xl) ∧ Below V.heap.size V w1 := (by first | exact ⟨cell_later hb hS.1, belows hS.2 hb⟩ | exact ⟨cell_later hb hS.1, belows hS.2.drew hb⟩ | exact ⟨cell_later hb s0, belows (Below.refl _ V).drew hb⟩ | exact ⟨cell_later hb s0, belows (Below.refl _ V) hb⟩))
              | (go_at_call 32; (with_reducible refine (h32a _ ?_).mono ?_); (first | exact hS.2 | exact hS.2.drew | exact (Below.refl _ _).drew | exact Below.refl _ _); rintro X w1 ⟨rfl, hb⟩; have hS : w1.cell? ⟨wr.heap.size, 0, none⟩ = some (.int .i64 xl) ∧ Below V.heap.size V w1 := (by first | exact ⟨cell_later hb hS.1, belows hS.2 hb⟩ | exact ⟨cell_later hb hS.1, belows hS.2.drew hb⟩ | exact ⟨cell_later hb s0, belows (Below.refl _ V).drew hb⟩ | exact ⟨cell_later hb s0, belows (Below.refl _ V) hb⟩))
              | (go_at_call 32; (with_reducible refine (h32b _ ?_).mono ?_); (first | exact hS.2 | exact hS.2.drew | exact (Below.refl _ _).drew | exact Below.refl _ _); rintro X w1 ⟨rfl, hb⟩; have hS : w1.cell? ⟨wr.heap.size, 0, none⟩ = some (.int .i64 xl) ∧ Below V.heap.size V w1 := (by first | exact ⟨cell_later hb hS.1, belows hS.2 hb⟩ | exact ⟨cell_later hb hS.1, belows hS.2.drew hb⟩ | exact ⟨cell_later hb s0, belows (Below.refl _ V).drew hb⟩ | exact ⟨cell_later hb s0, belows (Below.refl _ V) hb⟩)))
          go_wp2
          exact ⟨⟨j + 1, rfl, hjl, belows BV hS.2⟩, by simp [intOf]; omega⟩
        · have t1 : decide ((j : Int) < (CC.length : Int)) = false := by simp; omega
          go_wp2
          exact ⟨⟨k + 1, rfl, hlt, belows Bd hY⟩, by simp [intOf]; omega⟩
    · have g1 : decide ((k : Int) < 9) = false := by simp; omega
      go_wp2
      go_ret
      exact ⟨rfl, belows B9 hX⟩
end Go.Proofs.YthdafpbmmfelpaaGreatDoor
