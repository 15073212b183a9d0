/- The closure of longest. -/
import Derived.Test.YteofbbakegcohaaLg
import Derived.Laws.EntriesVeiled
import Derived.Deep.LoopGhost
namespace Go.Proofs.Yteofbbakegcohaa
open Go.ChangeShapes Go.WideShapes Go.ChangeAt Go.RowKit
set_option linter.unusedVariables false
set_option linter.unusedSimpArgs false


theorem grown_refl (w : World) (r : Option Nat) : w.grownBy w r := ⟨rfl, rfl, rfl, Nat.le_refl _, fun _ _ _ => rfl⟩
theorem grown_trans {a b c : World} {r : Option Nat} (h : a.grownBy b r) (k : b.grownBy c r) : a.grownBy c r :=
  ⟨k.os.trans h.os, k.tape.trans h.tape, k.output.trans h.output, Nat.le_trans h.size k.size, fun j hj hr => (k.block j (Nat.lt_of_lt_of_le hj h.size) hr).trans (h.block j hj hr)⟩
theorem grown_below {a b c : World} {r : Option Nat} (h : a.grownBy b r) (k : Below a.heap.size b c) : a.grownBy c r :=
  ⟨k.os.trans h.os, k.tape.trans h.tape, k.output.trans h.output, Nat.le_trans h.size k.size, fun j hj hr => (k.block j hj).trans (h.block j hj hr)⟩
theorem grown_at {a b c : World} {g : Nat} {r : Option Nat} (h : a.grownBy b r) (k : At g b c) (hg : a.heap.size ≤ g ∨ some g = r) : a.grownBy c r :=
  ⟨k.os.trans h.os, k.tape.trans h.tape, k.output.trans h.output, by rw [k.size]; exact h.size, fun j hj hr => (k.block j (fun e => by subst e; rcases hg with hg | hg; (focus omega); exact hr hg)).trans (h.block j hj hr)⟩
theorem at_drew {g : Nat} {w w' : World} (h : At g w w') : At g w w'.drew := ⟨h.os, h.tape, h.output, h.size, h.block⟩
structure Lc where
  PB : Nat
  R : Nat
  WB : Nat
  GB : Nat
  FB : Nat
  E : Nat
  G : Nat
def Lc.vals (c : Lc) : Array Value := #[.pointer (some ⟨c.PB, 0, none⟩), .pointer (some ⟨c.WB, 0, none⟩), .pointer (some ⟨c.GB, 0, none⟩), .pointer (some ⟨c.FB, 0, none⟩)]
def pv (o : Option Nat) : Value := .pointer (o.map fun b => ⟨b, 0, none⟩)
/-- The rest of a path. -/
def rst (bp : Nat → Option Nat) (o : Option Nat) : Value := match o with | none => .pointer none | some u => pv (bp u)
def PRow (w : World) (g n : Nat) (bp : Nat → Option Nat) : Prop := Has w g 71 ((List.range n).map fun i => pv (bp i)).toArray
theorem PRow.read {w : World} {g n : Nat} {bp : Nat → Option Nat} (h : PRow w g n bp) {i : Nat} (hi : i < n) : w.cell? ⟨g, i, none⟩ = some (pv (bp i)) := by
  rw [Has.read h i]; simp [hi]
theorem PRow.put {w : World} {g n : Nat} {bp : Nat → Option Nat} (h : PRow w g n bp) (i b : Nat) : PRow (w.setCell ⟨g, i, none⟩ (.pointer (some ⟨b, 0, none⟩))) g n (upd bp i (some b)) := by
  have k := Has.put_ h i (.pointer (some ⟨b, 0, none⟩))
  have e : (((List.range n).map fun i => pv (bp i)).toArray.setIfInBounds i (.pointer (some ⟨b, 0, none⟩))) = ((List.range n).map fun j => pv (upd bp i (some b) j)).toArray := by
    apply Array.ext
    · simp
    · intro j h1 h2
      simp only [Array.getElem_setIfInBounds, List.getElem_toArray, List.getElem_map, List.getElem_range, upd]
      by_cases hj : i = j
      · simp [hj, pv]
      · simp [hj, Ne.symm hj]
  rw [e] at k; exact k
/-- What the closure finds in memory. -/
structure Li (c : Lc) (We w : World) (n : Nat) (wv : Value) (S : Nat → Int) (Nx : Nat → Option Nat) (bp : Nat → Option Nat) : Prop where
  pb : Has w c.PB 88 #[.slice (some ⟨c.R, 0, none⟩) n n]
  wb : Has w c.WB 23 #[wv]
  gb : Has w c.GB 66 #[.slice (some ⟨c.G, 0, none⟩) n n]
  fb : Has w c.FB 89 #[.func (.func 63) #[] c.vals]
  row : PRow w c.R n bp
  kn : ∀ v b, bp v = some b → (c.R < b ∧ v < n) ∧ Has w b 74 #[.int .i64 v, .int .i64 (S v), rst bp (Nx v)] ∧ ∀ u, Nx v = some u → ∃ d, bp u = some d
  be : Below c.E We w
structure Lx (c : Lc) : Prop where
  pb : c.PB ≠ c.R
  wb : c.WB ≠ c.R
  gb : c.GB ≠ c.R
  fb : c.FB ≠ c.R
  e : c.E ≤ c.R
theorem Li.on {c : Lc} {We w w1 : World} {n : Nat} {wv : Value} {S : Nat → Int} {Nx bp : Nat → Option Nat} (h : Li c We w n wv S Nx bp) (X : Lx c) (hb : Below w.heap.size w w1) : Li c We w1 n wv S Nx bp :=
  ⟨Has.on h.pb hb, Has.on h.wb hb, Has.on h.gb hb, Has.on h.fb hb, Has.on h.row hb, fun v b hv => ⟨(h.kn v b hv).1, Has.on (h.kn v b hv).2.1 hb, (h.kn v b hv).2.2⟩, h.be.trans (hb.mono (by have := Has.size_ h.row; have := X.e; omega))⟩
theorem Li.at_ {c : Lc} {We w w1 : World} {n : Nat} {wv : Value} {S : Nat → Int} {Nx bp : Nat → Option Nat} {b : Nat} (h : Li c We w n wv S Nx bp) (X : Lx c) (hb : At b w w1) (h1 : c.PB ≠ b ∧ c.WB ≠ b ∧ c.GB ≠ b ∧ c.FB ≠ b ∧ c.R ≠ b ∧ c.E ≤ b) (h2 : ∀ v d, bp v = some d → d ≠ b) : Li c We w1 n wv S Nx bp :=
  ⟨Has.at_ h.pb hb h1.1, Has.at_ h.wb hb h1.2.1, Has.at_ h.gb hb h1.2.2.1, Has.at_ h.fb hb h1.2.2.2.1, Has.at_ h.row hb h1.2.2.2.2.1, fun v d hv => ⟨(h.kn v d hv).1, Has.at_ (h.kn v d hv).2.1 hb (h2 v d hv), (h.kn v d hv).2.2⟩, h.be.trans (hb.below h1.2.2.2.2.2)⟩
theorem Li.put {c : Lc} {We w : World} {n : Nat} {wv : Value} {S : Nat → Int} {Nx bp : Nat → Option Nat} {v b : Nat} (h : Li c We w n wv S Nx bp) (X : Lx c) (hv : bp v = none) (hvn : v < n) (hb : c.R < b)
    (hh : Has w b 74 #[.int .i64 v, .int .i64 (S v), rst bp (Nx v)]) (hk : ∀ u, Nx v = some u → ∃ d, bp u = some d) : Li c We (w.setCell ⟨c.R, v, none⟩ (.pointer (some ⟨b, 0, none⟩))) n wv S Nx (upd bp v (some b)) := by
  have A : At c.R w (w.setCell ⟨c.R, v, none⟩ (.pointer (some ⟨b, 0, none⟩))) := (At.refl _ _).put _ _
  have up : ∀ u d, bp u = some d → upd bp v (some b) u = some d := fun u d e => by
    rw [upd_other]
    · exact e
    · rintro rfl; rw [hv] at e; cases e
  have rs : ∀ o, (∀ u, o = some u → ∃ d, bp u = some d) → rst (upd bp v (some b)) o = rst bp o := fun o ho => by
    cases o with
    | none => rfl
    | some u =>
      obtain ⟨d, e⟩ := ho u rfl
      unfold rst
      simp only [e, up u d e]
  refine ⟨Has.at_ h.pb A X.pb, Has.at_ h.wb A X.wb, Has.at_ h.gb A X.gb, Has.at_ h.fb A X.fb, PRow.put h.row v b, fun x d hx => ?_, h.be.trans (A.below X.e)⟩
  by_cases e : x = v
  · subst e
    rw [upd_same] at hx
    simp only [Option.some.injEq] at hx
    subst hx
    refine ⟨⟨hb, hvn⟩, ?_, fun u hu => ?_⟩
    · rw [rs _ hk]; exact Has.at_ hh A (by omega)
    · obtain ⟨d, e⟩ := hk u hu
      exact ⟨d, up u d e⟩
  · rw [upd_other e] at hx
    obtain ⟨h1, h2, h3⟩ := h.kn x d hx
    refine ⟨h1, ?_, fun u hu => ?_⟩
    · rw [rs _ h3]; exact Has.at_ h2 A (by omega)
    · obtain ⟨d, e⟩ := h3 u hu
      exact ⟨d, up u d e⟩
/-- What a call of the closure leaves. -/
def Lp (c : Lc) (We w : World) (n : Nat) (wv : Value) (S : Nat → Int) (Nx : Nat → Option Nat) (rk : Nat → Nat) (bp : Nat → Option Nat) (v : Nat) (e : Ending) (w' : World) : Prop :=
  ∃ bp' b, e = .returned (.pointer (some ⟨b, 0, none⟩)) ∧ bp' v = some b ∧ Li c We w' n wv S Nx bp' ∧ (∀ u d, bp u = some d → bp' u = some d) ∧ (∀ u d, bp' u = some d → bp u = some d ∨ (w.heap.size ≤ d ∧ rk u ≤ rk v)) ∧ w.grownBy w' (some c.R)
theorem rst_mono {bp bp' : Nat → Option Nat} (o : Option Nat) (h : ∀ u, o = some u → ∃ d, bp u = some d) (m : ∀ u d, bp u = some d → bp' u = some d) : rst bp' o = rst bp o := by
  cases o with
  | none => rfl
  | some u =>
    obtain ⟨d, e⟩ := h u rfl
    unfold rst
    simp only [e, m u d e]
theorem foldl_take {α β : Type} (f : β → α → β) (b : β) (xs : List α) {j : Nat} (hj : j < xs.length) : (xs.take (j + 1)).foldl f b = f ((xs.take j).foldl f b) xs[j] := by
  rw [List.take_succ_eq_append_getElem hj, List.foldl_append]; rfl
set_option maxRecDepth 100000 in
set_option maxHeartbeats 8000000 in
theorem from_any (c : Lc) (We : World) (n : Nat) (q : Option Addr) (cap : Nat) (W : Nat → Int) (A : Nat → List Nat) (rk : Nat → Nat) (X : Lx c) (hG : Gm We c.G n A) (hE : We.heap.size = c.E) (hws : ∀ v, v < n → ∃ a, q = some a ∧ We.cell? (a.add v) = some (.int .i64 (W v))) (hwb : ∀ v, 0 ≤ W v ∧ W v ≤ 1073741824) (hr : Rnk A n rk) :
    ∀ (k v : Nat) (bp : Nat → Option Nat) (w : World), rk v < k → v < n → Li c We w n (.slice q n cap) (lgS A W n) (lgN A W n) bp →
      Calls Try.prog 63 #[.int .i64 v, .pointer (some ⟨c.PB, 0, none⟩), .pointer (some ⟨c.WB, 0, none⟩), .pointer (some ⟨c.GB, 0, none⟩), .pointer (some ⟨c.FB, 0, none⟩)] w (Lp c We w n (.slice q n cap) (lgS A W n) (lgN A W n) rk bp v)
  | 0, v, bp, w, h1, _, _ => by omega
  | k + 1, v, bp, w, hk, hv, hI => by
    have ih := from_any c We n q cap W A rk X hG hE hws hwb hr k
    have hn := hG.sz
    have cP := hI.pb.read 0
    have cR := hI.row.read hv
    have q1 : (0 : Int) ≤ (v : Int) := by omega
    have q2 : (v : Int) < (n : Int) := by omega
    cases hbp : bp v with
    | some b =>
      rw [hbp] at cR
      replace cR : w.cell? ⟨c.R, v, none⟩ = some (.pointer (some ⟨b, 0, none⟩)) := cR
      have HI := Lib.hid hI
      have HB := Lib.hid hbp
      clear hbp ih hI
      go_enter Try.func63, Try.ntmps63
      go_wp2
      go_ret
      exact ⟨bp, b, rfl, HB.out, HI.out, fun u d h => h, fun u d h => .inl h, grown_refl _ _⟩
    | none =>
      rw [hbp] at cR
      replace cR : w.cell? ⟨c.R, v, none⟩ = some (.pointer none) := cR
      obtain ⟨aw, rfl, cw⟩ := hws v hv
      have bW := hI.be
      rw [← hE] at bW
      have cw0 := cw
      have cw := cell_later bW cw
      have cW := hI.wb.read 0
      have cG := hI.gb.read 0
      obtain ⟨u0, cu, ru⟩ := hG.rd v hv
      have HRU := Lib.hid ru
      have cu := cell_later bW cu
      have hAn := hG.lt v hv
      have hl := hG.len v
      have bv := hwb v
      have hrec := Lib.hid (lg_rec W hG.lt hr hv)
      have hbd := lg_bd A W hwb
      obtain ⟨wv0, hwv0⟩ : ∃ z, z = W v := ⟨_, rfl⟩
      rw [← hwv0] at cw cw0 bv
      have HWV := Lib.hid hwv0
      clear hwv0
      obtain ⟨q', cap', rfl, r2⟩ := ru
      clear r2
      have g0 : c.PB < w.heap.size := hI.pb.size_
      have b1 := al1 w (.cells #[.int .i64 (v : Int), .int .i64 wv0, .pointer none] 74)
      have HN := Lib.hid hbp
      have HI := Lib.hid hI
      have HH := Lib.hid (Has.new_ w 74 #[.int .i64 (v : Int), .int .i64 wv0, .pointer none])
      clear hbp hI bW
      have hRs : c.R < w.heap.size := HI.out.row.size_
      have HI1 := Lib.hid (HI.out.on X b1)
      have cw1 := cell_later b1 cw
      have cW1 := cell_later b1 cW
      have cG1 := cell_later b1 cG
      have cu1 := cell_later b1 cu
      go_enter Try.func63, Try.ntmps63
      go_wp2
      obtain ⟨b, hb⟩ : ∃ b, b = w.heap.size := ⟨_, rfl⟩
      have hRb : c.R < b := by omega
      have HB := Lib.hid hb
      rw [← hb] at HH ⊢
      have hbs : b < (w.alloc (.cells #[.int .i64 (v : Int), .int .i64 wv0, .pointer none] 74)).heap.size := by rw [hb]; simp
      have capt : c.PB ≠ b ∧ c.WB ≠ b ∧ c.GB ≠ b ∧ c.FB ≠ b ∧ c.R ≠ b ∧ c.E ≤ b := by
        have h1 := HI.out.pb.size_
        have h2 := HI.out.wb.size_
        have h3 := HI.out.gb.size_
        have h4 := HI.out.fb.size_
        have h5 := X.e
        omega
      have HG0 : Hid (w.grownBy (w.alloc (.cells #[.int .i64 (v : Int), .int .i64 wv0, .pointer none] 74)) (some c.R)) := Lib.hid (World.grownBy_alloc w _ _)
      have HKB : Hid (∀ u d, bp u = some d → d < b) := Lib.hid fun u d e => by rw [hb]; exact (HI.out.kn u d e).2.1.size_
      clear hb cw cW cG cu cw1 cW1 cG1 cu1 b1 cP cR g0
      generalize hWa : w.alloc (.cells #[.int .i64 (v : Int), .int .i64 wv0, .pointer none] 74) = wa at *
      clear hWa
      go_loopw [28] (fun v28 wr => ∃ (j : Nat) (bp1 : Nat → Option Nat) (cur1 : Int) (cur2 : Option Nat), v28 = .int .i64 j ∧ j ≤ (A v).length ∧ Hid (((A v).take j).foldl (stepL W (lgS A W n) v) (W v, none) = (cur1, cur2)) ∧ Hid (Li c We wr n (.slice (some aw) n cap) (lgS A W n) (lgN A W n) bp1) ∧ Hid (Has wr b 74 #[.int .i64 (v : Int), .int .i64 cur1, rst bp1 cur2]) ∧ Hid (∀ u, cur2 = some u → ∃ d, bp1 u = some d) ∧ Hid (∀ u d, bp u = some d → bp1 u = some d) ∧ Hid (∀ u d, bp1 u = some d → bp u = some d ∨ (b < d ∧ rk u < rk v)) ∧ Hid (w.grownBy wr (some c.R)) ∧ b < wr.heap.size) (fun s _ => (A v).length - (intOf s).toNat)
      case atStart => exact ⟨0, bp, wv0, none, rfl, Nat.zero_le _, Lib.hid (by rw [HWV.out]; rfl), HI1, HH, Lib.hid (fun u h => by cases h), Lib.hid (fun u d h => h), Lib.hid (fun u d h => .inl h), HG0, hbs⟩
      case round =>
        clear HI1 HH HG0 hbs
        obtain ⟨j, bp1, cur1, cur2, rfl, hj, HF, HI1, HH, HK, HM, HNw, HGr, hbs⟩ := hrel
        have bW := HI1.out.be
        rw [← hE] at bW
        by_cases hlt : j < (A v).length
        · have g1 : decide ((j : Int) < ((A v).length : Int)) = true := by simp [hlt]
          have W1 : IntKind.i64.wrap ((j : Int) + 1) = ((j + 1 : Nat) : Int) := by rw [IntWalk.i64_in _ (by omega)]; omega
          have q3 : (0 : Int) ≤ (j : Int) := by omega
          have q4 : (j : Int) < ((A v).length : Int) := by omega
          obtain ⟨q'', c'', eq, kk⟩ := HRU.out
          simp only [Value.slice.injEq] at eq
          obtain ⟨rfl, -, rfl⟩ := eq
          obtain ⟨g, rfl, cj⟩ := kk j hlt
          have cj := cell_later bW cj
          have hxn := hAn _ (List.getElem_mem hlt)
          have hxr := hr.1 v hv _ (List.getElem_mem hlt)
          have hft := Lib.hid (foldl_take (stepL W (lgS A W n) v) (W v, none) (A v) hlt)
          obtain ⟨x, hxx⟩ : ∃ x, x = (A v)[j] := ⟨_, rfl⟩
          rw [← hxx] at cj hxn hxr hft
          clear hxx kk
          have cF := HI1.out.fb.read 0
          have hC := ih x bp1 wr (by omega) hxn HI1.out
          have hS := hbd n x
          have hcb := hbd
          obtain ⟨sx, hsx⟩ : ∃ s, s = lgS A W n x := ⟨_, rfl⟩
          have HSX := Lib.hid hsx
          have hS : 0 ≤ sx ∧ sx ≤ 1073741824 * 61 := by rw [hsx]; unfold lgS; omega
          clear hsx hcb hbd
          unfold Lc.vals at cF
          have W2 : IntKind.i64.wrap (wv0 + sx) = wv0 + sx := IntWalk.i64_in _ (by omega)
          go_wp2_with (go_at_call 63; (with_reducible refine hC.mono ?_); rintro e w5 ⟨bp2, bx, rfl, hx, hI5, hm5, hn5, hg5⟩)
          have hb5 : Has w5 b 74 #[.int .i64 (v : Int), .int .i64 cur1, rst bp2 cur2] := by
            rw [rst_mono cur2 HK.out hm5]
            exact Has.grown_ HH.out hg5 (fun e => by cases e; omega)
          have hx2 := (hI5.kn x bx hx).2.1
          rw [← HSX.out] at hx2
          have hK5 : ∀ u, cur2 = some u → ∃ d, bp2 u = some d := fun u hu => by
            obtain ⟨d, e⟩ := HK.out u hu
            exact ⟨d, hm5 u d e⟩
          have hM5 : ∀ u d, bp u = some d → bp2 u = some d := fun u d e => hm5 u d (HM.out u d e)
          have hN5 : ∀ u d, bp2 u = some d → bp u = some d ∨ (b < d ∧ rk u < rk v) := fun u d e => by
            rcases hn5 u d e with h | ⟨h1, h2⟩
            · exact HNw.out u d h
            · exact .inr ⟨by omega, by omega⟩
          have hG5 := grown_trans HGr.out hg5
          have hs5 : b < w5.heap.size := hb5.size_
          have bW5 := hI5.be
          rw [← hE] at bW5
          have cw5 := cell_later bW5 cw0
          have cW5 := hI5.wb.read 0
          have cx1 := hx2.read 1
          have cb1 := hb5.read 1
          have HI5 := Lib.hid hI5
          have HB5 := Lib.hid hb5
          have HX := Lib.hid hx
          have HK5 := Lib.hid hK5
          have HM5 := Lib.hid hM5
          have HN5 := Lib.hid hN5
          have HG5 := Lib.hid hG5
          clear hI5 hb5 hx hK5 hM5 hN5 hG5 hm5 hn5 hg5 hx2 HI1 HH HK HM HNw HGr hC cj cF bW bW5
          have hstep := hft.out
          rw [HF.out] at hstep
          by_cases hc : cur1 < wv0 + sx
          · have e : stepL W (lgS A W n) v (cur1, cur2) x = (wv0 + sx, some x) := by
              unfold stepL
              simp only
              rw [← HSX.out, ← HWV.out, if_pos hc]
            rw [e] at hstep
            have HST := Lib.hid hstep
            clear e hstep
            have t1 : decide (cur1 < wv0 + sx) = true := by simp [hc]
            go_wp2_with fail
            go_quiet (fail)
            have b6 : Below w5.heap.size w5 (w5.drewN nq) := below_drewN (Below.refl _ _) _
            have HI6 := Lib.hid (HI5.out.on X b6)
            have HB6 := Lib.hid (Has.on HB5.out b6)
            have HG6 := Lib.hid (grown_below HG5.out (b6.mono HG5.out.size))
            have cw6 := cell_later b6 cw5
            have hs6 : b < (w5.drewN nq).heap.size := hs5
            generalize w5.drewN nq = w6 at *
            clear b6
            have cW6 := HI6.out.wb.read 0
            have hx6 := (HI6.out.kn x bx HX.out).2.1
            rw [← HSX.out] at hx6
            have cx6 := hx6.read 1
            have cb6 := HB6.out.read 1
            have cb7 := HB6.out.read 2
            have fb6 := HB6.out.open_ 1
            have fb7 := HB6.out.open_ 2
            clear hx6 cw5 cW5 cx1 cb1
            go_wp2_with fail
            go_region_law (fail)
            all_goals (
              clear cx6 cb6 cb7 fb6 fb7 cW6 cw6
              have A2 : At b w6 (((w6.setCell ⟨b, 1, none⟩ (.int .i64 (wv0 + sx))).setCell ⟨b, 2, none⟩ (.pointer (some ⟨bx, 0, none⟩))).drew) := at_drew (((At.refl b w6).put 1 (.int .i64 (wv0 + sx))).put 2 (.pointer (some ⟨bx, 0, none⟩)))
              have HI7 := Lib.hid (HI6.out.at_ X A2 capt (fun u d e => by
                rcases HN5.out u d e with h | h
                · have := HKB.out u d h; omega
                · omega))
              have HB7 : Hid (Has (((w6.setCell ⟨b, 1, none⟩ (.int .i64 (wv0 + sx))).setCell ⟨b, 2, none⟩ (.pointer (some ⟨bx, 0, none⟩))).drew) b 74 #[.int .i64 (v : Int), .int .i64 (wv0 + sx), rst bp2 (some x)]) := Lib.hid (by
                have h := Has.drew_ (Has.put_ (Has.put_ HB6.out 1 (.int .i64 (wv0 + sx))) 2 (.pointer (some ⟨bx, 0, none⟩)))
                have e : rst bp2 (some x) = .pointer (some ⟨bx, 0, none⟩) := by unfold rst; simp only [HX.out]; rfl
                rw [e]; exact h)
              have HG7 := Lib.hid (grown_at HG6.out A2 (.inl (by rw [← HB.out]; exact Nat.le_refl _)))
              have hs7 : b < (((w6.setCell ⟨b, 1, none⟩ (.int .i64 (wv0 + sx))).setCell ⟨b, 2, none⟩ (.pointer (some ⟨bx, 0, none⟩))).drew).heap.size := by rw [A2.size]; exact hs6
              have HK7 : Hid (∀ u, some x = some u → ∃ d, bp2 u = some d) := Lib.hid fun u e => by
                simp only [Option.some.injEq] at e
                subst e
                exact ⟨bx, HX.out⟩
              generalize ((w6.setCell ⟨b, 1, none⟩ (.int .i64 (wv0 + sx))).setCell ⟨b, 2, none⟩ (.pointer (some ⟨bx, 0, none⟩))).drew = w7 at *
              clear A2
              go_wp2
              exact ⟨⟨j + 1, bp2, wv0 + sx, some x, rfl, hlt, HST, HI7, HB7, HK7, HM5, HN5, HG7, hs7⟩, by simp [intOf]; omega⟩)
          · have e : stepL W (lgS A W n) v (cur1, cur2) x = (cur1, cur2) := by
              unfold stepL
              simp only
              rw [← HSX.out, ← HWV.out, if_neg hc]
            rw [e] at hstep
            have HST := Lib.hid hstep
            clear e hstep
            have t1 : decide (cur1 < wv0 + sx) = false := by simp; omega
            go_wp2_with fail
            go_quiet (fail)
            have b6 : Below w5.heap.size w5 (w5.drewN nq) := below_drewN (Below.refl _ _) _
            have HI6 := Lib.hid (HI5.out.on X b6)
            have HB6 := Lib.hid (Has.on HB5.out b6)
            have HG6 := Lib.hid (grown_below HG5.out (b6.mono HG5.out.size))
            have hs6 : b < (w5.drewN nq).heap.size := hs5
            generalize w5.drewN nq = w6 at *
            clear b6 cw5 cW5 cx1 cb1
            go_wp2
            exact ⟨⟨j + 1, bp2, cur1, cur2, rfl, hlt, HST, HI6, HB6, HK5, HM5, HN5, HG6, hs6⟩, by simp [intOf]; omega⟩
        · have g1 : decide ((j : Int) < ((A v).length : Int)) = false := by simp; omega
          have hfin := HF.out
          rw [List.take_of_length_le (by omega), ← hrec.out] at hfin
          have e1 : lgS A W n v = cur1 := by unfold lgS; rw [hfin]
          have e2 : lgN A W n v = cur2 := by unfold lgN; rw [hfin]
          have hbn : bp1 v = none := by
            cases h : bp1 v with
            | none => rfl
            | some d =>
              rcases HNw.out v d h with h1 | h1
              · rw [HN.out] at h1; cases h1
              · omega
          have hH := HH.out
          have hK := HK.out
          rw [← e1, ← e2] at hH
          rw [← e2] at hK
          have hP := HI1.out.put X hbn hv hRb hH hK
          have HP := Lib.hid hP
          have cR9 : (wr.setCell ⟨c.R, v, none⟩ (.pointer (some ⟨b, 0, none⟩))).cell? ⟨c.R, v, none⟩ = some (.pointer (some ⟨b, 0, none⟩)) := by
            have := hP.row.read hv
            rw [upd_same] at this
            exact this
          have cP9 := hP.pb.read 0
          have HG9 := Lib.hid (grown_at HGr.out ((At.refl c.R wr).put v (.pointer (some ⟨b, 0, none⟩))) (.inr rfl))
          have HM9 : Hid (∀ u d, bp u = some d → upd bp1 v (some b) u = some d) := Lib.hid fun u d h => by
            rw [upd_other]
            · exact HM.out u d h
            · rintro rfl; rw [HN.out] at h; cases h
          have HN9 : Hid (∀ u d, upd bp1 v (some b) u = some d → bp u = some d ∨ (w.heap.size ≤ d ∧ rk u ≤ rk v)) := Lib.hid fun u d h => by
            by_cases e : u = v
            · subst e
              rw [upd_same] at h
              simp only [Option.some.injEq] at h
              exact .inr ⟨by rw [← h, HB.out]; exact Nat.le_refl _, Nat.le_refl _⟩
            · rw [upd_other e] at h
              rcases HNw.out u d h with h1 | h1
              · exact .inl h1
              · exact .inr ⟨by have := HB.out; omega, by omega⟩
          have cPr := HI1.out.pb.read 0
          have cRr := HI1.out.row.read hv
          rw [hbn] at cRr
          replace cRr : wr.cell? ⟨c.R, v, none⟩ = some (.pointer none) := cRr
          have fRr := Has.open_ HI1.out.row v
          clear hP hH hK e1 e2 hfin hbn HF HI1 HH HK HM HNw HGr
          go_wp2
          go_ret
          exact ⟨upd bp1 v (some b), b, rfl, upd_same _ _ _, HP.out, HM9.out, HN9.out, HG9.out⟩
end Go.Proofs.Yteofbbakegcohaa
