/- The closure of parts. -/
import Derived.Test.YteofbbakegcohaaTe
namespace Go.Proofs.Yteofbbakegcohaa
open Go.ChangeShapes Go.WideShapes Go.ChangeAt Go.RowKit
set_option linter.unusedVariables false
set_option linter.unusedSimpArgs false


def Tq (c : Tc) (n : Nat) (w0 : World) (r : TS × Nat) (e : Ending) (w' : World) : Prop := e = .returned (.int .i64 ((r.2 : Nat) : Int)) ∧ Tw c n w0 w' r.1 ∧ c.B ≤ w'.heap.size
set_option maxRecDepth 100000 in
set_option maxHeartbeats 16000000 in
theorem visit_any (c : Tc) (n : Nat) (A : Nat → List Nat) (w0 : World) (X : Tx c) (hG : Gm w0 c.G n A) (hD : w0.heap.size = c.D) : ∀ (k v : Nat) (s : TS) (w : World), v < n → s.num v = 0 → zc s.num n ≤ k → Tk n s → s.stk.length ≤ s.vis → s.prt.length ≤ s.vis → (∀ x ∈ s.stk, x < n) → Tw c n w0 w s → c.B ≤ w.heap.size →
    Calls Try.prog 67 #[.int .i64 v, .pointer (some ⟨c.VB, 0, none⟩), .pointer (some ⟨c.SB, 0, none⟩), .pointer (some ⟨c.FP, 0, none⟩), .pointer (some ⟨c.GB, 0, none⟩), .pointer (some ⟨c.VF, 0, none⟩), .pointer (some ⟨c.NB, 0, none⟩), .pointer (some ⟨c.PB, 0, none⟩)] w (Tq c n w0 (tvis n A k v s))
  | 0, v, s, w, hv, h0, hz, _, _, _, _, _, _ => by have := zc_pos h0 n hv; omega
  | k + 1, v, s, w, hv, h0, hz, hT, hsl, hpl, hsx, hW, hB => by
    have ih := visit_any c n A w0 X hG hD k
    have htd := tvis_td (n := n) (A := A) hG.lt k
    obtain ⟨a1, a2, a3, a4⟩ := tin_tk hT hv h0
    have hn := hG.sz
    have hz1 := hT.z
    have hvis : s.vis < n := by have := zc_pos h0 n hv; omega
    obtain ⟨i0, hi, hz0, hz2, hz3⟩ := info_parts info3
    obtain ⟨j0, hj, hy0, hy1, hy2⟩ := info_parts info23
    obtain ⟨sv, pv, vs, E⟩ := hW
    have hDB : c.D ≤ w.heap.size := Nat.le_trans X.d.2.2.2.2 hB
    have W1 : IntKind.i64.wrap ((s.vis : Int) + 1) = ((s.vis + 1 : Nat) : Int) := by rw [IntWalk.i64_in _ (by omega)]; omega
    have c1 := E.v.read 0
    have f1 := E.v.open_ 0
    obtain ⟨qs, cs, rfl, hqs⟩ := own_form E.b.m
    have E1 := E.setv X (s.vis + 1) (z := (s.vis : Int) + 1) (by omega)
    have c2 := E1.v.read 0
    have c3 := E1.hs.read 0
    have HE1 := Lib.hid E1
    have q1 : (0 : Int) ≤ (v : Int) := by omega
    have q2 : (v : Int) < (n : Int) := by omega
    have b1 : c.B ≤ (w.setCell ⟨c.VB, 0, none⟩ (.int .i64 ((s.vis : Int) + 1))).heap.size := by simp [World.setCell]; exact hB
    have HEE := Lib.hid E
    clear E E1
    go_enter Try.func67, Try.ntmps67
    go_wp2_with fail
    go_quiet (fail)
    have b2 : Below (w.setCell ⟨c.VB, 0, none⟩ (.int .i64 ((s.vis : Int) + 1))).heap.size (w.setCell ⟨c.VB, 0, none⟩ (.int .i64 ((s.vis : Int) + 1))) ((w.setCell ⟨c.VB, 0, none⟩ (.int .i64 ((s.vis : Int) + 1))).drewN nq) := below_drewN (Below.refl _ _) _
    have E2 := HE1.out.on (Nat.le_trans X.d.2.2.2.2 b1) b2
    have B2 : c.B ≤ ((w.setCell ⟨c.VB, 0, none⟩ (.int .i64 ((s.vis : Int) + 1))).drewN nq).heap.size := b1
    clear b2 HE1 c1 f1 c2 c3 b1 W1
    generalize (w.setCell ⟨c.VB, 0, none⟩ (.int .i64 ((s.vis : Int) + 1))).drewN nq = w2 at *
    have E3 := E2.setn X v (s.vis + 1) (z := (s.vis : Int) + 1) (by omega) (upd s.num v (s.vis + 1)) (fun j => rfl)
    have B3 : c.B ≤ (w2.setCell ⟨c.Fr, v, none⟩ (.int .i64 ((s.vis : Int) + 1))).heap.size := by simp [World.setCell]; exact B2
    have D3 := Nat.le_trans X.d.2.2.2.2 B3
    have c4 := E2.fp.read 0
    have c5 := E2.r.read hv
    have f5 := E2.r.open_ v
    have c6 := E3.hs.read 0
    have NW : ((w2.setCell ⟨c.Fr, v, none⟩ (.int .i64 ((s.vis : Int) + 1))).alloc (.cells #[.int .i64 (v : Int)] 3)).heap[w2.heap.size]? = some (.cells #[.int .i64 (v : Int)] 3 (0, 0)) := by
      have := heap_alloc_new (w2.setCell ⟨c.Fr, v, none⟩ (.int .i64 ((s.vis : Int) + 1))) (.cells #[.int .i64 (v : Int)] 3)
      rwa [show (w2.setCell ⟨c.Fr, v, none⟩ (.int .i64 ((s.vis : Int) + 1))).heap.size = w2.heap.size by simp [World.setCell]] at this
    have HNW := Lib.hid NW
    have hsl60 : s.stk.length ≤ 60 := by omega
    have b3 := al1 (w2.setCell ⟨c.Fr, v, none⟩ (.int .i64 ((s.vis : Int) + 1))) (.cells #[.int .i64 (v : Int)] 3)
    have E4 := E3.on D3 b3
    have HE3 := Lib.hid E3
    have HE4 := Lib.hid E4
    clear E2 E3 NW E4
    go_wp2_with (at_builtin; refine wpList_append_own_at _ rfl _ _ 23 rfl c.B 3 i0 _ 1 8 Try.underlying23 hi hz0 hz2 hz3 rfl (by decide) _ s.stk.length (ints s.stk) rfl HE4.out.b.m ⟨w2.heap.size, 0, none⟩ 1 1 [.int .i64 (v : Int)] rfl rfl (World.news_of_block (cs := #[.int .i64 (v : Int)]) (t := 3) (fr := (0, 0)) HNW.out) (by simp [Value.oneCell']) (by unfold maxLen; omega) (by omega) (Nat.le_trans B3 b3.size) ?_)
    intro sv' w4 o1 o2 o3 o4
    have farb : ∀ g, g < c.B → some g ≠ (Value.slice qs s.stk.length cs).ownBlock := fun g hg e => by have := (World.ownsRow.lt HE4.out.b.m _ e.symm).1; omega
    have h6 := Has.grown_ HE4.out.hs o2 (farb _ X.b.2.1)
    have c7 := h6.read 0
    have f7 := h6.open_ 0
    have E5 := Lib.hid (HE4.out.push X (Nat.le_trans B3 b3.size) o1 o2 (by simpa using o4))
    have B5 : c.B ≤ (w4.setCell ⟨c.SB, 0, none⟩ sv').heap.size := by have := o2.size; have := b3.size; simp [World.setCell] at *; omega
    obtain ⟨gs, cs', rfl, -, -⟩ := World.ownsRow.form o1 (Nat.succ_pos _)
    have c8 := E5.out.gb.read 0
    have bD5 := E5.out.k
    rw [← hD] at bD5
    obtain ⟨u0, cu0, ru0⟩ := hG.rd v hv
    have cu := cell_later bD5 cu0
    have hAn := hG.lt v hv
    have hl := hG.len v
    obtain ⟨qa, ca, rfl, ra⟩ := ru0
    have HRA := Lib.hid ra
    clear o1 o2 o3 o4 farb h6 HE3 HE4 HNW c4 c5 f5 c6 b3 D3 ra bD5
    go_wp2
    have HS0 : Hid (Te c n w0 (w4.setCell ⟨c.SB, 0, none⟩ (.slice (some ⟨gs, 0, none⟩) (s.stk.length + 1) cs')) (tin s v) (.slice (some ⟨gs, 0, none⟩) (s.stk.length + 1) cs') pv vs) := E5
    generalize w4.setCell ⟨c.SB, 0, none⟩ (.slice (some ⟨gs, 0, none⟩) (s.stk.length + 1) cs') = w5 at *
    have HTv := Lib.hid (fun (xs : List Nat) (h : ∀ x ∈ xs, x < n) => tfold_td (fun v s h1 h2 h3 h4 => by
      have := htd v s h1 h2 h3 h4
      exact ⟨this.1, this.2.1, this.2.2.2⟩) xs (tin s v) (s.vis + 1) h a1 (by omega) (by omega))
    clear E5 c7 f7 c8 cu
    go_loopw [12, 38] (fun v12 v38 wr => ∃ (j : Nat) (t : TS) (least : Nat), v38 = .int .i64 j ∧ v12 = .int .i64 least ∧ j ≤ (A v).length ∧ Hid (((A v).take j).foldl (tstp (tvis n A k)) (tin s v, s.vis + 1) = (t, least)) ∧ Hid (Tw c n w0 wr t) ∧ c.B ≤ wr.heap.size) (fun _ x _ => (A v).length - (intOf x).toNat)
    case atStart => exact ⟨0, tin s v, s.vis + 1, rfl, by rw [Int.natCast_add]; rfl, Nat.zero_le _, Lib.hid rfl, Lib.hid ⟨_, _, _, HS0.out⟩, B5⟩
    case round =>
      clear HS0 B5
      obtain ⟨j, t, least, rfl, rfl, hj, HF, HW, hB5⟩ := hrel
      have htk := HTv.out ((A v).take j) (fun x hx => hAn x (List.mem_of_mem_take hx))
      rw [HF.out] at htk
      obtain ⟨t1, t2, t3⟩ := htk
      simp only at t1 t2 t3
      obtain ⟨sv5, pv5, vs5, E6⟩ := HW.out
      have bD6 := E6.k
      rw [← hD] at bD6
      by_cases hlt : j < (A v).length
      · have g1 : decide ((j : Int) < ((A v).length : Int)) = true := by simp [hlt]
        have W2 : IntKind.i64.wrap ((j : Int) + 1) = ((j + 1 : Nat) : Int) := by rw [IntWalk.i64_in _ (by omega)]; omega
        have q3 : (0 : Int) ≤ (j : Int) := by omega
        have q4 : (j : Int) < ((A v).length : Int) := by omega
        obtain ⟨g, rfl, cj⟩ := HRA.out j hlt
        have cj := cell_later bD6 cj
        have hxn := hAn _ (List.getElem_mem hlt)
        have hft := Lib.hid (foldl_take (tstp (tvis n A k)) (tin s v, s.vis + 1) (A v) hlt)
        obtain ⟨x, hxx⟩ : ∃ x, x = (A v)[j] := ⟨_, rfl⟩
        rw [← hxx] at cj hxn hft
        clear hxx
        have cF := E6.fp.read 0
        have cx := E6.r.read hxn
        have cV := E6.vf.read 0
        unfold Tc.vals at cV
        have q5 : (0 : Int) ≤ (x : Int) := by omega
        have q6 : (x : Int) < (n : Int) := by omega
        have hstep := hft.out
        rw [HF.out] at hstep
        by_cases hx0 : t.num x = 0
        · have e0 : ((t.num x : Nat) : Int) = 0 := by omega
          rw [e0] at cx
          have e : tstp (tvis n A k) (t, least) x = ((tvis n A k x t).1, min least (tvis n A k x t).2) := by unfold tstp; rw [if_pos hx0]
          rw [e] at hstep
          obtain ⟨T, e1, hT1, hT2⟩ := t2.st
          have hpr := t2.pr
          have hC := ih x t wr hxn hx0 (Nat.le_trans (zc_mono t2.m n) (by omega)) t1 (by rw [e1]; simp [tin] at hT2 ⊢; omega) (by simp [tin] at hpr ⊢; omega) (fun y hy => by
            rw [e1] at hy
            simp only [tin, List.mem_append, List.mem_singleton] at hy
            rcases hy with (hy | hy) | hy
            · exact hsx y hy
            · omega
            · exact hT1 y hy) HW.out hB5
          obtain ⟨r, hr⟩ : ∃ r, r = tvis n A k x t := ⟨_, rfl⟩
          rw [← hr] at hC hstep
          obtain ⟨t', rv⟩ := r
          simp only at hstep
          have HST := Lib.hid hstep
          have mc : ((min least rv : Nat) : Int) = min (least : Int) (rv : Int) := by omega
          have MC := Lib.hid mc
          clear hr hstep e hx0 e0 mc E6 e1 hT1 hT2 hpr t1 t2 t3 bD6
          go_wp2_with (go_at_call 67; (with_reducible refine hC.mono ?_); rintro e w6 ⟨rfl, hT6, hB6⟩)
          exact ⟨⟨j + 1, t', min least rv, rfl, by rw [MC.out], hlt, HST, Lib.hid hT6, hB6⟩, by simp [intOf]; omega⟩
        · have e : tstp (tvis n A k) (t, least) x = (t, min least (t.num x)) := by unfold tstp; rw [if_neg hx0]
          rw [e] at hstep
          have HST := Lib.hid hstep
          obtain ⟨fu, hfu⟩ : ∃ fu, fu = t.num x := ⟨_, rfl⟩
          rw [← hfu] at cx HST hx0
          have t6 : ((fu : Int) == 0) = false := by simp; omega
          have mc : ((min least fu : Nat) : Int) = min (least : Int) (fu : Int) := by omega
          have MC := Lib.hid mc
          clear hstep e hfu hx0 mc E6 t1 t2 t3 bD6
          go_wp2
          exact ⟨⟨j + 1, t, min least fu, rfl, by rw [MC.out], hlt, HST, HW, hB5⟩, by simp [intOf]; omega⟩
      · have g1 : decide ((j : Int) < ((A v).length : Int)) = false := by simp; omega
        have hfin := HF.out
        rw [List.take_of_length_le (by omega)] at hfin
        by_cases hle : least = s.vis + 1
        · subst hle
          obtain ⟨T, eT0, hT1, hT2⟩ := t2.st
          have eT : t.stk = s.stk ++ (v :: T) := by rw [eT0]; simp [tin]
          clear eT0
          have e : tvis n A (k + 1) v s = (tcut n s.stk.length t, s.vis + 1) := by
            unfold tvis
            simp only [hfin]
            rw [if_pos trivial]
          have HE := Lib.hid e
          have t6 : (((s.vis + 1 : Nat) : Int) == (s.vis : Int) + 1) = true := by simp
          have hlen : t.stk.length = s.stk.length + 1 + T.length := by rw [eT]; simp; omega
          obtain ⟨P, hP⟩ : ∃ P, P = t.stk.drop s.stk.length := ⟨_, rfl⟩
          have hPl : P.length = 1 + T.length := by rw [hP, List.length_drop, hlen]; omega
          obtain ⟨g5, c5, rfl, hg5, hgs5⟩ := World.ownsRow.form E6.b.m (by rw [hlen]; omega)
          have hcap : t.stk.length ≤ c5 := by
            obtain ⟨-, ⟨h, -⟩ | ⟨g', cap', cur', h, -, -, h2, -⟩⟩ := E6.b.m
            · cases h
            · simp only [Value.slice.injEq, Option.some.injEq, Addr.mk.injEq, and_true, true_and] at h
              rw [h.2]; exact h2
          have cS := E6.hs.read 0
          have fS := E6.hs.open_ 0
          have hPc : ∀ jj (h : jj < P.length), wr.cell? ⟨g5, s.stk.length + jj, none⟩ = some (.int .i64 (P[jj] : Nat)) := fun jj h => by
            rw [Own.cell E6.b.m rfl (j := s.stk.length + jj) (by omega)]
            simp [hP]
          have q7 : (0 : Int) ≤ (s.stk.length : Int) := by omega
          have q8 : (s.stk.length : Int) ≤ (t.stk.length : Int) := by omega
          have q9 : (t.stk.length : Int) ≤ (c5 : Int) := by omega
          have q10 : ¬ c5 = s.stk.length := by omega
          have q11 : s.stk.length ≤ t.stk.length := by omega
          have q12 : t.stk.length ≤ c5 := hcap
          have HP := Lib.hid (And.intro hP (And.intro hPl (And.intro eT hlen)))
          have HPC := Lib.hid hPc
          have HE6 := Lib.hid E6
          clear hP hPl eT hlen e hfin hPc E6 HF
          have hprt : t.prt.length ≤ 60 := by have h1 := t2.pr; have h2 := t1.z; simp [tin] at h1; omega
          have hPn : ∀ x ∈ P, x < n := fun x hx => by
            have : x ∈ t.stk := by rw [HP.out.1] at hx; exact List.mem_of_mem_drop hx
            rw [HP.out.2.2.1] at this
            rcases List.mem_append.1 this with h | h
            · exact hsx x h
            · rcases List.mem_cons.1 h with rfl | h
              · exact hv
              · exact hT1 x h
          have HPN := Lib.hid hPn
          have hC := clone_off g5 s.stk.length (t.stk.length - s.stk.length) (c5 - s.stk.length) P wr (by rw [HP.out.2.1, HP.out.2.2.2]; omega) (by have := t1.z; have := HP.out.2.2.2; have := HP.out.2.1; obtain ⟨T', e', -, z'⟩ := t2.st; have e2 := congrArg List.length e'; simp [tin] at e2 z'; omega) HPC.out
          have hPl60 : P.length ≤ 1000 := by have := t1.z; have := HP.out.2.2.2; have := HP.out.2.1; obtain ⟨T', e', -, z'⟩ := t2.st; have e2 := congrArg List.length e'; simp [tin] at e2 z'; omega
          have hPpos : 0 < P.length := by have := HP.out.2.1; omega
          clear hPn t1 t2 t3 bD6 hT1 hT2
          go_wp2_with (go_at_call 26; (with_reducible refine hC.mono ?_); rintro e w7 ⟨pt, rfl, o7, b7⟩; have DW := Nat.le_trans X.d.2.2.2.2 hB5; have HE7 := Lib.hid (HE6.out.on DW b7); have cS7 := HE7.out.hs.read 0; have fS7 := HE7.out.hs.open_ 0; have HO7 := Lib.hid o7; have B7 := Nat.le_trans hB5 b7.size; obtain ⟨gp, cp, rfl, hgp, hgps⟩ := World.ownsRow.form o7 hPpos; clear o7 b7)
          have A8 : At c.SB w7 (w7.setCell ⟨c.SB, 0, none⟩ (.slice (some ⟨g5, 0, none⟩) s.stk.length c5)) := (At.refl _ _).put _ _
          have E8 := HE7.out.cut X rfl (k := s.stk.length) q11
          have O8 := Lib.hid (own_at HO7.out A8 (fun e => by simp [Value.ownBlock] at e; have := X.b.2.1; omega))
          have B8 : c.B ≤ (w7.setCell ⟨c.SB, 0, none⟩ (.slice (some ⟨g5, 0, none⟩) s.stk.length c5)).heap.size := by rw [A8.size]; exact B7
          have OFF := Lib.hid (HE6.out.b.off hgp)
          have hBg : c.B ≤ gp := Nat.le_trans hB5 hgp
          obtain ⟨Hz, hHz⟩ : ∃ Hz, Hz = wr.heap.size := ⟨_, rfl⟩
          rw [← hHz] at O8
          have hHB : c.B ≤ Hz := by rw [hHz]; exact hB5
          have HE8 : Hid (Te c n w0 (w7.setCell ⟨c.SB, 0, none⟩ (.slice (some ⟨g5, 0, none⟩) s.stk.length c5)) ⟨t.vis, fun x => if x ∈ P.take 0 then n + 1 else t.num x, t.stk.take s.stk.length, t.prt⟩ (.slice (some ⟨g5, 0, none⟩) s.stk.length c5) pv5 vs5) := Lib.hid (by simpa using E8)
          clear E8 A8 HE7 HO7 B7 cS7 fS7 hgp hgps HE6 HPC hC cS fS HW hHz hB5
          generalize w7.setCell ⟨c.SB, 0, none⟩ (.slice (some ⟨g5, 0, none⟩) s.stk.length c5) = w8 at *
          go_loopw [67] (fun v67 wr => ∃ jj : Nat, v67 = .int .i64 jj ∧ jj ≤ P.length ∧ Hid (Te c n w0 wr ⟨t.vis, fun x => if x ∈ P.take jj then n + 1 else t.num x, t.stk.take s.stk.length, t.prt⟩ (.slice (some ⟨g5, 0, none⟩) s.stk.length c5) pv5 vs5) ∧ Hid (Own Hz wr (.slice (some ⟨gp, 0, none⟩) P.length cp) P) ∧ c.B ≤ wr.heap.size) (fun x _ => P.length - (intOf x).toNat)
          case atStart => exact ⟨0, rfl, Nat.zero_le _, HE8, O8, B8⟩
          case round =>
            clear HE8 O8 B8 g1 hlt hj
            obtain ⟨jj, rfl, hjj, HE, HO, hB8⟩ := hrel
            by_cases hlt : jj < P.length
            · have g1 : decide ((jj : Int) < (P.length : Int)) = true := by simp [hlt]
              have W2 : IntKind.i64.wrap ((jj : Int) + 1) = ((jj + 1 : Nat) : Int) := by rw [IntWalk.i64_in _ (by omega)]; omega
              have q13 : (0 : Int) ≤ (jj : Int) := by omega
              have q14 : (jj : Int) < (P.length : Int) := by omega
              have cm := Own.cell HO.out rfl hlt
              have hxn := HPN.out _ (List.getElem_mem hlt)
              have HTK : Hid (∀ y, y ∈ P.take (jj + 1) ↔ y ∈ P.take jj ∨ y = P[jj]) := Lib.hid fun y => by
                rw [List.take_succ_eq_append_getElem hlt, List.mem_append, List.mem_singleton]
              obtain ⟨x, hxx⟩ : ∃ x, x = P[jj] := ⟨_, rfl⟩
              rw [← hxx] at cm hxn HTK
              clear hxx
              have q15 : (0 : Int) ≤ (x : Int) := by omega
              have q16 : (x : Int) < (n : Int) := by omega
              have cF := HE.out.fp.read 0
              have cx := HE.out.r.read hxn
              have fx := HE.out.r.open_ x
              have cN := HE.out.nb.read 0
              have E9 := Lib.hid (HE.out.setn X x (n + 1) (z := ((n + 1 : Nat) : Int)) rfl (fun y => if y ∈ P.take (jj + 1) then n + 1 else t.num y) (fun y => by
                unfold upd
                by_cases e : y = x
                · have : y ∈ P.take (jj + 1) := (HTK.out y).2 (.inr e)
                  rw [if_pos this, if_pos e]
                · rw [if_neg e]
                  by_cases e2 : y ∈ P.take jj
                  · have : y ∈ P.take (jj + 1) := (HTK.out y).2 (.inl e2)
                    rw [if_pos this]; simp only; rw [if_pos e2]
                  · have : y ∉ P.take (jj + 1) := fun h => by
                      rcases (HTK.out y).1 h with h | h
                      · exact e2 h
                      · exact e h
                    rw [if_neg this]; simp only; rw [if_neg e2]))
              have A9 : At c.Fr wr (wr.setCell ⟨c.Fr, x, none⟩ (.int .i64 ((n + 1 : Nat) : Int))) := (At.refl _ _).put _ _
              have O9 := Lib.hid (own_at HO.out A9 (fun e => by simp [Value.ownBlock] at e; have := X.b.2.2.2.2.2.2.2; omega))
              have B9 : c.B ≤ (wr.setCell ⟨c.Fr, x, none⟩ (.int .i64 ((n + 1 : Nat) : Int))).heap.size := by rw [A9.size]; exact hB8
              obtain ⟨zx, hzx⟩ : ∃ z : Int, z = (((if x ∈ P.take jj then n + 1 else t.num x) : Nat) : Int) := ⟨_, rfl⟩
              simp only at cx
              rw [← hzx] at cx
              obtain ⟨zn, hzn⟩ : ∃ z : Int, z = ((n + 1 : Nat) : Int) := ⟨_, rfl⟩
              rw [← hzn] at E9 O9 B9 cN
              clear A9 hzx hzn
              go_wp2
              exact ⟨⟨jj + 1, rfl, hlt, E9, O9, B9⟩, by simp [intOf]; omega⟩
            · have g1 : decide ((jj : Int) < (P.length : Int)) = false := by simp; omega
              have hE := HE.out
              rw [List.take_of_length_le (by omega)] at hE
              have HE9 := Lib.hid hE
              have hS := sort_g Hz (.slice (some ⟨gp, 0, none⟩) P.length cp) P wr HO.out (by omega)
              clear hE HE HO
              go_wp2_with (first
                | (go_at_call 61; (with_reducible refine hS.mono ?_); rintro e w9 ⟨rfl, h1, h2⟩; have hB9 : c.B ≤ w9.heap.size := Nat.le_trans hB8 h2.size; have E10 := HE9.out.far X hB8 hBg OFF.out h2; have cP := E10.hp.read 0; have HE10 := Lib.hid E10; have HO10 := Lib.hid (Own.mono h1 hHB); clear h1 h2 E10)
                | (at_builtin; refine wpList_append_own_at _ rfl _ _ 48 rfl c.B 23 j0 _ 1 24 Try.underlying48 hj hy0 hy1 hy2 rfl (by decide) pv5 t.prt.length vs5 rfl (own_on HE10.out.b.o (al1 _ _)) ⟨_, 0, none⟩ 1 1 [.slice (some ⟨gp, 0, none⟩) P.length cp] rfl rfl (cell_one_new _ _ _) (by simp [Value.oneCell']) (by unfold maxLen; omega) (by omega) (Nat.le_trans hB9 (al1 _ _).size) ?_))
              intro pv' w10 o1 o2 o3 o4
              have b9 := al1 w9 (.cells #[.slice (some ⟨gp, 0, none⟩) P.length cp] 23)
              have D9 := Nat.le_trans X.d.2.2.2.2 hB9
              have E11 := HE10.out.on D9 b9
              have farb : ∀ g, g < c.B → some g ≠ pv5.ownBlock := fun g hg e => by have := (E11.b.o.lt _ e.symm).1; omega
              have h6 := Has.grown_ E11.hp o2 (farb _ X.b.2.2.2.2.2.2.1)
              have c7 := h6.read 0
              have f7 := h6.open_ 0
              have E12 := Lib.hid (E11.part X (Nat.le_trans hB9 b9.size) (own_on HO10.out b9) (fun b e => by cases e; exact OFF.out) o1 o2 (by simpa using o4))
              have B12 : c.B ≤ (w10.setCell ⟨c.PB, 0, none⟩ pv').heap.size := by have := o2.size; have := b9.size; simp [World.setCell] at *; omega
              obtain ⟨gq, cq, rfl, -, -⟩ := World.ownsRow.form o1 (Nat.succ_pos _)
              clear o1 o2 o3 o4 b9 E11 farb h6 HE10 HO10 HE9 hS
              go_wp2
              go_ret
              refine ⟨by rw [HE.out]; rfl, ?_, B12⟩
              rw [HE.out]
              unfold tcut
              rw [← HP.out.1]
              exact ⟨_, _, _, E12.out⟩
        · have e : tvis n A (k + 1) v s = (t, least) := by
            unfold tvis
            simp only [hfin]
            rw [if_neg hle]
          have HE := Lib.hid e
          have t6 : ((least : Int) == (s.vis : Int) + 1) = false := by simp; omega
          clear hfin hle e HF E6
          go_wp2
          go_ret
          exact ⟨by rw [HE.out]; rfl, by rw [HE.out]; exact HW.out, hB5⟩
end Go.Proofs.Yteofbbakegcohaa
