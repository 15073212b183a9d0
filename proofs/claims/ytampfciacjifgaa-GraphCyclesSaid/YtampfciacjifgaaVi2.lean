/- The closure of Bridges. -/
import Derived.Test.YtampfciacjifgaaVis
namespace Go.Proofs.Ytampfciacjifgaa
open Go.ChangeShapes Go.WideShapes Go.ChangeAt Go.RowKit
set_option linter.unusedVariables false
set_option linter.unusedSimpArgs false

/-- What does not turn. -/
structure Fx (c : Cf) (p : Option Addr) (l : List (Nat × Nat)) (n : Nat) (A : Nat → List Nat) (G cap D0 : Nat) (w0 : World) : Prop where
  L : Has w0 c.Lb 29 #[.slice (some ⟨c.Fb, 0, none⟩) n n]
  E : Has w0 c.Eo 25 #[.slice (some ⟨G, 0, none⟩) n n]
  Q : Has w0 c.Eb 22 #[.slice p l.length cap]
  V : Has w0 c.Vs 72 #[.func (.func 54) #[] c.vals]
  G : Gra w0 p n l A D0 (.slice (some ⟨G, 0, none⟩) n n)
  d : D0 ≤ c.Vb ∧ D0 ≤ c.Fb ∧ D0 ≤ c.Bb ∧ D0 ≤ c.B
  o : c.Vb < c.B ∧ c.Fb < c.B ∧ c.Bb < c.B ∧ c.Lb < c.B ∧ c.Eo < c.B ∧ c.Eb < c.B ∧ c.Vs < c.B
  a : c.Vb ≠ c.Fb ∧ c.Vb ≠ c.Bb ∧ c.Fb ≠ c.Bb
  b : (c.Lb ≠ c.Vb ∧ c.Lb ≠ c.Fb ∧ c.Lb ≠ c.Bb) ∧ (c.Eo ≠ c.Vb ∧ c.Eo ≠ c.Fb ∧ c.Eo ≠ c.Bb) ∧ (c.Eb ≠ c.Vb ∧ c.Eb ≠ c.Fb ∧ c.Eb ≠ c.Bb) ∧ (c.Vs ≠ c.Vb ∧ c.Vs ≠ c.Fb ∧ c.Vs ≠ c.Bb)
  M : ∀ v, v < n → ∀ i ∈ A v, ∃ x, l[i]? = some x ∧ (x.1 = v ∨ x.2 = v)
  Z : ∀ v, (A v).length ≤ 4000
theorem has_bx {c : Cf} {w w' : World} {g : Nat} {t : TypeId} {cs : Array Value} (h : Has w g t cs) (k : Bx c w w') (h1 : g < c.B) (h2 : g ≠ c.Vb ∧ g ≠ c.Fb ∧ g ≠ c.Bb) : Has w' g t cs := by
  unfold Has; rw [k.block g h1 h2.1 h2.2.1 h2.2.2]; exact h
theorem Fx.below {c : Cf} {p : Option Addr} {l : List (Nat × Nat)} {n : Nat} {A : Nat → List Nat} {G cap D0 : Nat} {w0 w : World} (h : Fx c p l n A G cap D0 w0) (k : Bx c w0 w) : Below D0 w0 w :=
  ⟨k.os, k.tape, k.output, k.size, fun j hj => k.block j (by have := h.d; omega) (by have := h.d; omega) (by have := h.d; omega) (by have := h.d; omega)⟩
theorem Bw.enter {c : Cf} {p : Option Addr} {l : List (Nat × Nat)} {n : Nat} {A : Nat → List Nat} {G cap D0 : Nat} {w0 w : World} {s : St} {node : Nat} (X : Fx c p l n A G cap D0 w0) (h : Bw c n w0 w s) (z : Int) (hz : z = ((s.vis + 1 : Nat) : Int)) :
    Bw c n w0 ((w.setCell ⟨c.Vb, 0, none⟩ (.int .i64 z)).setCell ⟨c.Fb, node, none⟩ (.int .i64 z)) ⟨s.vis + 1, upd s.fst node (s.vis + 1), s.brs⟩ := by
  subst hz
  obtain ⟨vb, h1, h2⟩ := h.b
  have a := X.a
  have o := X.o
  have A1 : At c.Vb w (w.setCell ⟨c.Vb, 0, none⟩ (.int .i64 ((s.vis + 1 : Nat) : Int))) := (At.refl _ w).put _ _
  have A2 : At c.Fb (w.setCell ⟨c.Vb, 0, none⟩ (.int .i64 ((s.vis + 1 : Nat) : Int))) ((w.setCell ⟨c.Vb, 0, none⟩ (.int .i64 ((s.vis + 1 : Nat) : Int))).setCell ⟨c.Fb, node, none⟩ (.int .i64 ((s.vis + 1 : Nat) : Int))) := (At.refl _ _).put _ _
  have hv := Has.put_ h.v 0 (.int .i64 ((s.vis + 1 : Nat) : Int))
  have far : ∀ q, vb.ownBlock = some q → c.B ≤ q := fun q e => (World.ownsRow.lt h2 _ e).1
  refine ⟨Has.at_ hv A2 a.1, ?_, ⟨vb, Has.at_ (Has.at_ h1 A1 (Ne.symm a.2.1)) A2 (Ne.symm a.2.2), own_at (own_at h2 A1 (fun e => by have := far _ e; omega)) A2 (fun e => by have := far _ e; omega)⟩, (h.k.at_ A1 (.inl rfl)).at_ A2 (.inr (.inl rfl))⟩
  have hr : Row (w.setCell ⟨c.Vb, 0, none⟩ (.int .i64 ((s.vis + 1 : Nat) : Int))) c.Fb n (fun j => (s.fst j : Int)) := Has.at_ h.r A1 (Ne.symm a.1)
  exact (hr.put node ((s.vis + 1 : Nat) : Int)).cong fun j _ => by unfold upd; simp only; split <;> rfl
theorem Bw.push {c : Cf} {p : Option Addr} {l : List (Nat × Nat)} {n : Nat} {A : Nat → List Nat} {G cap D0 : Nat} {w0 w w7 : World} {t : St} {vb v' : Value} {i : Nat} (X : Fx c p l n A G cap D0 w0) (h : Bw c n w0 w t) (hvb : Has w c.Bb 29 #[vb]) (own : Own c.B w vb t.brs) (hB : c.B ≤ w.heap.size)
    (o1 : w7.ownsRow c.B 3 1 v' (t.brs.length + 1) (ints t.brs ++ [.int .i64 (i : Int)])) (o2 : w.grownBy w7 vb.ownBlock) : Bw c n w0 (w7.setCell ⟨c.Bb, 0, none⟩ v') ⟨t.vis, t.fst, t.brs ++ [i]⟩ := by
  have a := X.a
  have o := X.o
  have far : ∀ q, vb.ownBlock = some q → c.B ≤ q := fun q e => (World.ownsRow.lt own _ e).1
  have A1 : At c.Bb w7 (w7.setCell ⟨c.Bb, 0, none⟩ v') := (At.refl _ w7).put _ _
  have B1 : Below c.B w w7 := (Below.refl c.B w).grown o2 hB far
  have O7 : Own c.B w7 v' (t.brs ++ [i]) := by
    unfold Own
    rw [ints_app, List.length_append]
    exact o1
  refine ⟨Has.at_ (Has.grown_ h.v o2 (fun e => by have := far _ e.symm; omega)) A1 a.2.1, Has.at_ (Has.grown_ h.r o2 (fun e => by have := far _ e.symm; omega)) A1 a.2.2, ⟨v', Has.put_ (Has.grown_ hvb o2 (fun e => by have := far _ e.symm; omega)) 0 v', own_at O7 A1 (fun e => by have := (World.ownsRow.lt O7 _ e).1; omega)⟩, (h.k.then_ B1).at_ A1 (.inr (.inr rfl))⟩
theorem foldl_take {α β : Type} (f : β → α → β) (b : β) (xs : List α) {j : Nat} (hj : j < xs.length) : (xs.take (j + 1)).foldl f b = f ((xs.take j).foldl f b) xs[j] := by
  rw [List.take_succ_eq_append_getElem hj, List.foldl_append]; rfl
set_option maxRecDepth 100000 in
set_option maxHeartbeats 16000000 in
theorem visit_any (c : Cf) (p : Option Addr) (l : List (Nat × Nat)) (n : Nat) (A : Nat → List Nat) (G cap D0 : Nat) (w0 : World) (X : Fx c p l n A G cap D0 w0) : ∀ (k node bye : Nat) (byv : Int) (s : St) (w : World), (∀ i : Nat, i < l.length → ((i : Int) = byv ↔ i = bye)) → node < n → s.fst node = 0 → zc s.fst n ≤ k → Bw c n w0 w s → s.vis + zc s.fst n ≤ n → s.brs.length ≤ s.vis → c.B ≤ w.heap.size →
    Calls Try.prog 54 #[.int .i64 node, .int .i64 byv, .pointer (some ⟨c.Vb, 0, none⟩), .pointer (some ⟨c.Lb, 0, none⟩), .pointer (some ⟨c.Eo, 0, none⟩), .pointer (some ⟨c.Eb, 0, none⟩), .pointer (some ⟨c.Vs, 0, none⟩), .pointer (some ⟨c.Bb, 0, none⟩)] w fun e w' =>
      e = .returned (.int .i64 ((vst l A k node bye s).2 : Nat)) ∧ Bw c n w0 w' (vst l A k node bye s).1 ∧ Gd n s (vst l A k node bye s).1 ∧ (vst l A k node bye s).1.brs.length + s.vis + 1 ≤ (vst l A k node bye s).1.vis + s.brs.length ∧ (vst l A k node bye s).1.fst node ≠ 0 ∧ c.B ≤ w'.heap.size ∧ (vst l A k node bye s).2 ≤ n
  | 0, node, bye, byv, s, w, hby, hnode, h0, hz, hW, hv, hb, hB => by
    have := zc_pos h0 n hnode
    omega
  | k + 1, node, bye, byv, s, w, hby, hnode, h0, hz, hW, hv, hb, hB => by
    have ih := visit_any c p l n A G cap D0 w0 X k
    have hn := X.G.gr.2.2.1
    have hm := X.G.gr.2.1
    have zu := zc_upd s.fst node (s.vis + 1) h0 (by omega) n hnode
    have d := X.d
    have o := X.o
    have a := X.a
    have b := X.b
    have nl := hW.v.size_
    have W1 : IntKind.i64.wrap ((s.vis : Int) + 1) = ((s.vis + 1 : Nat) : Int) := by rw [IntWalk.i64_in _ (by omega)]; omega
    have c2 := hW.v.read 0
    have f2 := hW.v.open_ 0
    have HL := has_bx X.L hW.k o.2.2.2.1 b.1
    have HE := has_bx X.E hW.k o.2.2.2.2.1 b.2.1
    have c3 := HL.read 0
    have c4 := HE.read 0
    have cn := hW.r.read hnode
    have fn := Has.open_ hW.r node
    have q1 : (0 : Int) ≤ (node : Int) := by omega
    have q2 : (node : Int) < (n : Int) := by omega
    have n1 : c.Vb ≠ c.Fb := a.1
    have n2 : c.Lb ≠ c.Vb := b.1.1
    have n3 : c.Lb ≠ c.Fb := b.1.2.1
    have n4 : c.Eo ≠ c.Vb := b.2.1.1
    have n5 : c.Eo ≠ c.Fb := b.2.1.2.1
    have n6 : c.Vb ≠ c.Lb := Ne.symm n2
    obtain ⟨qa, ca, hL⟩ := X.G.list hnode
    have cG := (hL w (X.below hW.k)).1
    have gf : G ≠ c.Fb := by have := X.G.lt G rfl; omega
    have gv : G ≠ c.Vb := by have := X.G.lt G rfl; omega
    have hlen := X.Z node
    go_enter Try.func54, Try.ntmps54
    go_wp2
    have Z0 := Bw.enter (node := node) X hW ((s.vis : Int) + 1) (by omega)
    obtain ⟨s0, hs0⟩ : ∃ s0 : St, s0 = ⟨s.vis + 1, upd s.fst node (s.vis + 1), s.brs⟩ := ⟨_, rfl⟩
    have hvs : vst l A (k + 1) node bye s = (A node).foldl (stp (vst l A k) l node bye) (s0, s.vis + 1) := by rw [hs0]; rfl
    rw [← hs0] at Z0
    have g0 : Gd n s0 s0 := ⟨fun _ _ => rfl, by rw [hs0]; simp only; omega, by omega⟩
    have gs : Gd n s s0 := ⟨fun v hv => by rw [hs0]; simp only; rw [upd_other (by rintro rfl; exact hv h0)], g0.z, by rw [hs0]; simp only; omega⟩
    have n0 : s0.fst node ≠ 0 := by rw [hs0]; simp only; rw [upd_same]; omega
    have zk : zc s0.fst n ≤ k := by rw [hs0]; simp only; omega
    have v0 : s0.vis = s.vis + 1 := by rw [hs0]
    have b0 : s0.brs = s.brs := by rw [hs0]
    have B1 : c.B ≤ ((w.setCell ⟨c.Vb, 0, none⟩ (.int .i64 ((s.vis : Int) + 1))).setCell ⟨c.Fb, node, none⟩ (.int .i64 ((s.vis : Int) + 1))).heap.size := by simp [World.setCell]; exact hB
    have HS := Lib.hid (And.intro hs0 (And.intro v0 b0))
    have HV := Lib.hid hvs
    clear hs0 hvs hW c2 f2 HL HE c3 c4 cn fn cG W1 v0 b0
    go_loopw [11, 28] (fun v11 v28 wr => ∃ (j : Nat) (t : St) (least : Nat), v28 = .int .i64 j ∧ v11 = .int .i64 least ∧ j ≤ (A node).length ∧ Hid (((A node).take j).foldl (stp (vst l A k) l node bye) (s0, s.vis + 1) = (t, least)) ∧ Hid (Bw c n w0 wr t) ∧ Hid (Gd n s0 t) ∧ c.B ≤ wr.heap.size ∧ Hid (least ≤ n)) (fun _ v _ => (A node).length - (intOf v).toNat)
    case atStart => exact ⟨0, s0, s.vis + 1, rfl, by rw [Int.natCast_add]; rfl, Nat.zero_le _, Lib.hid (by simp), Lib.hid Z0, Lib.hid g0, B1, Lib.hid (by omega)⟩
    case round =>
      clear Z0 B1 g0
      obtain ⟨j, t, least, rfl, rfl, hj, hT, hZ, hGd, hB2, hle⟩ := hrel
      by_cases hlt : j < (A node).length
      · have g1 : decide ((j : Int) < ((A node).length : Int)) = true := by simp [hlt]
        have W1 : IntKind.i64.wrap ((j : Int) + 1) = ((j + 1 : Nat) : Int) := by rw [IntWalk.i64_in _ (by omega)]; omega
        have bD := X.below hZ.out.k
        obtain ⟨gl, rfl, ci⟩ := (hL wr bD).2 j hlt
        have hT2 : ((A node).take (j + 1)).foldl (stp (vst l A k) l node bye) (s0, s.vis + 1) = stp (vst l A k) l node bye (t, least) (A node)[j] := by rw [foldl_take _ _ _ hlt, hT.out]
        obtain ⟨i, hi⟩ : ∃ i, i = (A node)[j] := ⟨_, rfl⟩
        rw [← hi] at ci hT2
        obtain ⟨x, hx, hxv⟩ := X.M node hnode i (by rw [hi]; exact List.getElem_mem hlt)
        have hil : i < l.length := (List.getElem?_eq_some_iff.1 hx).1
        have hxe : l[i] = x := (List.getElem?_eq_some_iff.1 hx).2
        obtain ⟨a0, rfl, d0, d1, l1, l2, ne⟩ := (X.G.on bD).gr.at hil
        rw [hxe] at d0 d1 l1 l2 ne
        obtain ⟨x1, x2⟩ := x
        simp only at d0 d1 l1 l2 ne
        have hF := fun W => far_any x1 x2 node W
        obtain ⟨u, hu⟩ : ∃ u, u = oth (x1, x2) node := ⟨_, rfl⟩
        have hun : u < n := by rw [hu]; unfold oth; simp only; split <;> assumption
        have hnx : nx l i node = u := by unfold nx; rw [hx, hu]
        rw [← hu] at hF
        have HQ := has_bx X.Q hZ.out.k o.2.2.2.2.2.1 b.2.2.1
        have c5 := HQ.read 0
        have q3 : (0 : Int) ≤ (i : Int) := by omega
        have q4 : (i : Int) < (l.length : Int) := by omega
        have q5 : (0 : Int) ≤ (u : Int) := by omega
        have q6 : (u : Int) < (n : Int) := by omega
        have hbi := hby i hil
        have HT2 := Lib.hid hT2
        have HNX := Lib.hid hnx
        clear hT hT2 hi hx hxv hxe hu hnx HQ
        by_cases hib : i = bye
        · have t1 : ((i : Int) == byv) = true := by simp [hbi.2 hib]
          have hst : stp (vst l A k) l node bye (t, least) i = (t, least) := by unfold stp; rw [if_pos hib]
          have HST := Lib.hid (HT2.out.trans hst)
          clear hst hib hbi
          go_wp2_with (go_at_call 55; (with_reducible refine (hF _).mono ?_); rintro e w5 ⟨rfl, hb5⟩)
          exact ⟨⟨j + 1, t, least, rfl, rfl, hlt, HST, Lib.hid (hZ.out.on hb5 hB2), hGd, Nat.le_trans hB2 hb5.size, hle⟩, by simp [intOf]; omega⟩
        · have t1 : ((i : Int) == byv) = false := by
            have : ¬ (i : Int) = byv := fun e => hib (hbi.1 e)
            simpa using this
          by_cases hf : 0 < t.fst u
          · have hst : stp (vst l A k) l node bye (t, least) i = (t, min least (t.fst u)) := by unfold stp; rw [if_neg hib]; simp only [HNX.out]; rw [if_pos hf]
            have HST := Lib.hid (HT2.out.trans hst)
            obtain ⟨fu, hfu⟩ : ∃ fu, fu = t.fst u := ⟨_, rfl⟩
            rw [← hfu] at hf
            have HFU := Lib.hid hfu
            clear hst hib hbi hfu
            have t2 : decide ((0 : Int) < (fu : Int)) = true := by simp; omega
            have mc : ((min least fu : Nat) : Int) = min (least : Int) (fu : Int) := by omega
            have m3 : Hid (min least fu ≤ n) := Lib.hid (by have := hle.out; omega)
            have MC := Lib.hid mc
            clear mc
            go_wp2_with (go_at_call 55; (with_reducible refine (hF _).mono ?_); rintro e w5 ⟨rfl, hb5⟩; have Z5 := Lib.hid (hZ.out.on hb5 hB2); have c3 := (has_bx X.L Z5.out.k o.2.2.2.1 b.1).read 0; have cu := Z5.out.r.read hun; rw [← HFU.out] at cu)
            exact ⟨⟨j + 1, t, min least fu, rfl, by rw [MC.out], hlt, Lib.hid (by rw [HST.out, HFU.out]), Z5, hGd, Nat.le_trans hB2 hb5.size, m3⟩, by simp [intOf]; omega⟩
          · have hz0 : t.fst u = 0 := by omega
            have t2 : decide ((0 : Int) < ((t.fst u : Nat) : Int)) = false := by simp; omega
            have e := HS.out
            have gb := hGd.out.b
            have gz := hGd.out.z
            have tb : t.brs.length ≤ t.vis := by rw [e.2.1, e.2.2] at gb; omega
            have zt : zc t.fst n ≤ k := Nat.le_trans (zc_mono (fun v hv => by rw [hGd.out.m v hv]; exact hv) n) zk
            have hC := fun W hW hBW => ih u i (i : Int) t W (fun i' _ => ⟨fun h => by omega, fun h => by rw [h]⟩) hun hz0 zt hW gz tb hBW
            obtain ⟨res, hres⟩ : ∃ res, res = vst l A k u i t := ⟨_, rfl⟩
            rw [← hres] at hC
            have hst : stp (vst l A k) l node bye (t, least) i = (if res.1.fst node < res.2 then ⟨res.1.vis, res.1.fst, res.1.brs ++ [i]⟩ else res.1, min least res.2) := by
              unfold stp
              rw [if_neg hib]
              simp only [HNX.out]
              rw [if_neg hf, ← hres]
            have HST := Lib.hid (HT2.out.trans hst)
            obtain ⟨t', r⟩ := res
            simp only at hC HST
            have mc : ((min least r : Nat) : Int) = min (least : Int) (r : Int) := by omega
            have MC := Lib.hid mc
            clear hst hib hbi hf mc hres e gb
            have GZ := Lib.hid gz
            have TB := Lib.hid tb
            clear gz tb zt
            obtain ⟨j0, hj0, hy0, hy1, hy2⟩ := info_parts info3
            by_cases hbr : t'.fst node < r
            · rw [if_pos hbr] at HST
              have t3 : decide (((t'.fst node : Nat) : Int) < (r : Int)) = true := by simp; omega
              have HBR := Lib.hid hbr
              clear hbr
              go_wp2_with (first
                | (go_at_call 55; (with_reducible refine (hF _).mono ?_); rintro e w5 ⟨rfl, hb5⟩; have Z5 := Lib.hid (hZ.out.on hb5 hB2); have B5 : c.B ≤ w5.heap.size := Nat.le_trans hB2 hb5.size; have c3 := (has_bx X.L Z5.out.k o.2.2.2.1 b.1).read 0; have cu := Z5.out.r.read hun; have c6 := (has_bx X.V Z5.out.k o.2.2.2.2.2.2 b.2.2.2).read 0; unfold Cf.vals at c6)
                | (go_at_call 54; (with_reducible refine (hC _ Z5.out B5).mono ?_); rintro e w6 ⟨rfl, Z6, G6, s6, n6', B6, r6⟩; have c3 := (has_bx X.L Z6.k o.2.2.2.1 b.1).read 0; have cn := Z6.r.read hnode; have HZ6 := Lib.hid Z6; have HG6 := Lib.hid (And.intro G6 (And.intro s6 r6)); obtain ⟨vb, hvb, ovb⟩ := Z6.b; have cb := hvb.read 0; have HVB := Lib.hid hvb; have HOV := Lib.hid ovb; have hbl : t'.brs.length ≤ 1000 := (by have := G6.b; have := G6.z; have := TB.out; omega); clear Z6 G6 s6 n6' r6 hvb ovb)
                | (at_builtin; refine wpList_append_own_at _ rfl _ _ 29 rfl c.B 3 j0 _ 1 8 Try.underlying29 hj0 hy0 hy1 hy2 rfl (by decide) vb t'.brs.length (ints t'.brs) rfl (own_on HOV.out (al1 _ _)) ⟨_, 0, none⟩ 1 1 [.int .i64 (i : Int)] rfl rfl (cell_one_new _ _ _) (by simp [Value.oneCell']) (by unfold maxLen; omega) (by omega) (Nat.le_trans B6 (al1 _ _).size) ?_))
              intro v' w7 o1 o2 o3 o4
              have ob := al1 w6 (.cells #[.int .i64 (i : Int)] 3)
              have hvb2 := Has.on HVB.out ob
              have far : ∀ q, vb.ownBlock = some q → c.B ≤ q := fun q e => (World.ownsRow.lt HOV.out _ e).1
              have Z7 := Lib.hid (Bw.push X (HZ6.out.on ob B6) hvb2 (own_on HOV.out ob) (Nat.le_trans B6 ob.size) o1 o2)
              have hv7 := Has.grown_ hvb2 o2 (fun e => by have := far _ e.symm; omega)
              have c7 := hv7.read 0
              have f7 := hv7.open_ 0
              have B7 : c.B ≤ (w7.setCell ⟨c.Bb, 0, none⟩ v').heap.size := by
                have := o2.size
                simp [World.setCell] at this ⊢; omega
              have form := World.ownsRow.form o1 (Nat.succ_pos _)
              obtain ⟨gq, cq, rfl, -, -⟩ := form
              clear o1 o2 o3 o4 far hv7 hvb2 ob
              go_wp2
              have G7 : Gd n s0 ⟨t'.vis, t'.fst, t'.brs ++ [i]⟩ := ⟨(hGd.out.trans HG6.out.1).m, HG6.out.1.z, by have h1 := hGd.out.b; have h2 := HG6.out.2.1; simp; omega⟩
              exact ⟨⟨j + 1, _, min least r, rfl, by rw [MC.out], hlt, HST, Z7, Lib.hid G7, B7, Lib.hid (by have := hle.out; omega)⟩, by simp [intOf]; omega⟩
            · rw [if_neg hbr] at HST
              have t3 : decide (((t'.fst node : Nat) : Int) < (r : Int)) = false := by simp; omega
              have HBR := Lib.hid hbr
              clear hbr
              go_wp2_with (first
                | (go_at_call 55; (with_reducible refine (hF _).mono ?_); rintro e w5 ⟨rfl, hb5⟩; have Z5 := Lib.hid (hZ.out.on hb5 hB2); have B5 : c.B ≤ w5.heap.size := Nat.le_trans hB2 hb5.size; have c3 := (has_bx X.L Z5.out.k o.2.2.2.1 b.1).read 0; have cu := Z5.out.r.read hun; have c6 := (has_bx X.V Z5.out.k o.2.2.2.2.2.2 b.2.2.2).read 0; unfold Cf.vals at c6)
                | (go_at_call 54; (with_reducible refine (hC _ Z5.out B5).mono ?_); rintro e w6 ⟨rfl, Z6, G6, s6, n6', B6, r6⟩; have c3 := (has_bx X.L Z6.k o.2.2.2.1 b.1).read 0; have cn := Z6.r.read hnode; have HZ6 := Lib.hid Z6; have HG6 := Lib.hid (And.intro G6 (And.intro s6 r6)); obtain ⟨vb, hvb, ovb⟩ := Z6.b; have cb := hvb.read 0; have HVB := Lib.hid hvb; have HOV := Lib.hid ovb; have hbl : t'.brs.length ≤ 1000 := (by have := G6.b; have := G6.z; have := TB.out; omega); clear Z6 G6 s6 n6' r6 hvb ovb))
              exact ⟨⟨j + 1, t', min least r, rfl, by rw [MC.out], hlt, HST, HZ6, Lib.hid (hGd.out.trans HG6.out.1), B6, Lib.hid (by have := hle.out; omega)⟩, by simp [intOf]; omega⟩
      · have g1 : decide ((j : Int) < ((A node).length : Int)) = false := by simp; omega
        have hfin : (A node).foldl (stp (vst l A k) l node bye) (s0, s.vis + 1) = (t, least) := by
          have := hT.out
          rw [List.take_of_length_le (by omega)] at this
          exact this
        have HF := Lib.hid hfin
        clear hfin
        go_wp2
        go_ret
        rw [HV.out, HF.out]
        have e := HS.out
        have gb := hGd.out.b
        refine ⟨rfl, hZ.out, gs.trans hGd.out, ?_, ?_, hB2, hle.out⟩
        · show t.brs.length + s.vis + 1 ≤ t.vis + s.brs.length
          rw [e.2.1, e.2.2] at gb; omega
        · show t.fst node ≠ 0
          rw [hGd.out.m node n0]; exact n0
end Go.Proofs.Ytampfciacjifgaa
