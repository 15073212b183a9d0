/- spread: a search in breadth. -/
import Derived.Test.YtampfciacjifgaaQue
import Derived.Test.YtampfciacjifgaaBfs
import Derived.Deep.LoopGhost
import Derived.BigRegion
namespace Go.Proofs.Ytampfciacjifgaa
open Go.ChangeShapes Go.WideShapes Go.ChangeAt Go.RowKit
set_option linter.unusedVariables false
set_option linter.unusedSimpArgs false

theorem own_below {w w' : World} {g B : Nat} {t : TypeId} {cs : Array Value} (h : Has w g t cs) (hb : Below B w w') (hg : g < B) : Has w' g t cs := by
  unfold Has; rw [hb.block g hg]; exact h
/-- Old blocks but one are as they were. -/
structure Bex (D : Nat) (w w' : World) : Prop where
  os : w'.os = w.os
  tape : w'.tape = w.tape
  output : w'.output = w.output
  size : w.heap.size ≤ w'.heap.size
  block : ∀ k, k < w.heap.size → k ≠ D → w'.heap[k]? = w.heap[k]?
theorem Bex.below {D B : Nat} {w w' : World} (h : Bex D w w') (h1 : B ≤ D) (h2 : B ≤ w.heap.size) : Below B w w' := ⟨h.os, h.tape, h.output, h.size, fun k hk => h.block k (by omega) (by omega)⟩
theorem Bex.of {D : Nat} {w w' : World} (h : Below w.heap.size w w') : Bex D w w' := ⟨h.os, h.tape, h.output, h.size, fun k hk _ => h.block k hk⟩
theorem Bex.then_ {D : Nat} {w w1 w2 : World} (h : Bex D w w1) (k : Below w.heap.size w1 w2) : Bex D w w2 := ⟨k.os.trans h.os, k.tape.trans h.tape, k.output.trans h.output, Nat.le_trans h.size k.size, fun j hj hd => (k.block j hj).trans (h.block j hj hd)⟩
theorem Bex.at_ {D : Nat} {w w1 w2 : World} (h : Bex D w w1) (k : At D w1 w2) : Bex D w w2 := ⟨k.os.trans h.os, k.tape.trans h.tape, k.output.trans h.output, by rw [k.size]; exact h.size, fun j hj hd => (k.block j hd).trans (h.block j hj hd)⟩

def nbr (l : List (Nat × Nat)) (n : Nat) (A : Nat → List Nat) (v u : Nat) : Prop := v < n ∧ ∃ i ∈ A v, ∃ x, l[i]? = some x ∧ oth x v = u
/-- The state of a search, behind each node's edge. -/
structure Ss (p : Option Addr) (l : List (Nat × Nat)) (n : Nat) (A : Nat → List Nat) (f0 : Nat → Int) (S D G cap : Nat) (w wr : World) (v : Value) (f : Nat → Int) (qs : List Nat) : Prop where
  b : Bf n (nbr l n A) f0 f S qs
  x : ∀ v, f v ≤ (n : Int) - un f n
  r : Row wr D n f
  q : Qu (w.heap.size + 1) wr v qs
  h : Has wr w.heap.size 76 #[.slice p l.length cap, .slice (some ⟨G, 0, none⟩) n n, .slice (some ⟨D, 0, none⟩) n n]
  k : Bex D w wr
  z : qs.length + un f n ≤ n
theorem Ss.on {p : Option Addr} {l : List (Nat × Nat)} {n : Nat} {A : Nat → List Nat} {f0 : Nat → Int} {S D G cap : Nat} {w wr w1 : World} {v : Value} {f : Nat → Int} {qs : List Nat} (h : Ss p l n A f0 S D G cap w wr v f qs) (hb : Below wr.heap.size wr w1) : Ss p l n A f0 S D G cap w w1 v f qs :=
  ⟨h.b, h.x, Has.on h.r hb, h.q.on hb, Has.on h.h hb, h.k.then_ (hb.mono h.k.size), h.z⟩
set_option maxRecDepth 100000 in
set_option maxHeartbeats 4000000 in
theorem spread_any (p : Option Addr) (l : List (Nat × Nat)) (n : Nat) (A : Nat → List Nat) (f0 : Nat → Int) (S D G cap : Nat) (w : World) (hG : Gra w p n l A D (.slice (some ⟨G, 0, none⟩) n n)) (hR : Row w D n f0)
    (hA : ∀ v, v < n → ∀ i ∈ A v, ∃ x, l[i]? = some x ∧ (x.1 = v ∨ x.2 = v)) (hAl : ∀ v, (A v).length ≤ 4000) (hS : S < n) (hS0 : f0 S < 0) (hm : ∀ v, f0 v < 0 → f0 v = -1) (hx : ∀ v, f0 v ≤ (n : Int) - un f0 n)
    (hc : ∀ v u, nbr l n A v u → f0 v < 0 → f0 u < 0) :
    Calls Try.prog 58 #[.agg #[.slice p l.length cap, .slice (some ⟨G, 0, none⟩) n n, .slice (some ⟨D, 0, none⟩) n n], .int .i64 S] w fun e w' => e = .returned (.tuple #[]) ∧ ∃ f, Row w' D n f ∧ Sp (nbr l n A) f0 f S ∧ (∀ v, f v ≤ (n : Int) - un f n) ∧ Bex D w w' := by
  have hn := hG.gr.2.2.1
  have hm4 := hG.gr.2.1
  have hDw : D < w.heap.size := Has.size_ hR
  have H0 := Has.new_ w 76 #[.slice p l.length cap, .slice (some ⟨G, 0, none⟩) n n, .slice (some ⟨D, 0, none⟩) n n]
  have c0 := H0.read 2
  have hR0 := Has.on hR (al1 w (.cells #[.slice p l.length cap, .slice (some ⟨G, 0, none⟩) n n, .slice (some ⟨D, 0, none⟩) n n] 76))
  have c1 := Row.read hR0 hS
  have f1 := Has.open_ hR0 S
  go_enter Try.func58, Try.ntmps58
  go_wp2
  have Z : Ss p l n A f0 S D G cap w (((w.setCell ⟨D, S, none⟩ (.int .i64 0)).alloc (.cells #[.slice p l.length cap, .slice (some ⟨G, 0, none⟩) n n, .slice (some ⟨D, 0, none⟩) n n] 76)).alloc (.cells #[.int .i64 (S : Int)] 3)) (.slice (some ⟨w.heap.size + 1, 0, none⟩) 1 1) (upd f0 S 0) [S] := by
    have A0 : At D w (w.setCell ⟨D, S, none⟩ (.int .i64 0)) := (At.refl D w).put S _
    have es := A0.size
    have R0 := hR.put S 0
    generalize w.setCell ⟨D, S, none⟩ (.int .i64 0) = w1 at *
    have b1 := al1 w1 (.cells #[.slice p l.length cap, .slice (some ⟨G, 0, none⟩) n n, .slice (some ⟨D, 0, none⟩) n n] 76)
    have H1 := Has.new_ w1 76 #[.slice p l.length cap, .slice (some ⟨G, 0, none⟩) n n, .slice (some ⟨D, 0, none⟩) n n]
    have e2 : (w1.alloc (.cells #[.slice p l.length cap, .slice (some ⟨G, 0, none⟩) n n, .slice (some ⟨D, 0, none⟩) n n] 76)).heap.size = w.heap.size + 1 := by simp [es]
    rw [es] at H1
    generalize w1.alloc (.cells #[.slice p l.length cap, .slice (some ⟨G, 0, none⟩) n n, .slice (some ⟨D, 0, none⟩) n n] 76) = w2 at *
    have b2 := al1 w2 (.cells #[.int .i64 (S : Int)] 3)
    have q := Qu.one (w.heap.size + 1) w2 S (by omega)
    rw [e2] at q
    refine ⟨Bf.start hS hS0 hm, fun v => ?_, Has.on (Has.on R0 b1) b2, q, Has.on H1 b2, ?_, by have := un_upd f0 S 0 hS0 (Int.le_refl _) n hS; have := un_le f0 n; simp; omega⟩
    · have e := un_upd f0 S 0 hS0 (Int.le_refl _) n hS
      have h1 := hx v
      have h2 := un_le f0 n
      by_cases hv : v = S
      · rw [hv, upd_same]; omega
      · rw [upd_other hv]; omega
    · exact ((Bex.of (Below.refl _ _)).at_ A0).then_ ((b1.mono (Nat.le_of_eq es.symm)).trans (b2.mono (by omega)))
  clear c0 c1 f1 hR0 H0
  go_loopg [4] (2 * un (upd f0 S 0) n + 1) (fun kk v4 wr => ∃ f qs, Hid (2 * un f n + qs.length ≤ kk) ∧ Hid (Ss p l n A f0 S D G cap w wr v4 f qs))
  case atStart => exact ⟨_, _, Lib.hid (Nat.le_refl _), Lib.hid Z⟩
  case round =>
    clear Z
    obtain ⟨f, qs, hkk, hZ⟩ := hrel
    cases qs with
    | nil =>
      obtain ⟨g, off, c, cur, rfl, q⟩ := hZ.out.q
      have t1 : decide ((0 : Int) < (([] : List Nat).length : Int)) = false := by simp
      go_wp2
      go_end0
      exact ⟨rfl, f, hZ.out.r, hZ.out.b.sp, hZ.out.x, hZ.out.k⟩
    | cons y t =>
      obtain ⟨g, off, c, rfl, cy, hyc⟩ := hZ.out.q.head
      have hN1 : 0 < (y :: t).length := by simp
      generalize hN : (y :: t).length = N at *
      have HN := Lib.hid hN
      clear hN
      have hyn := (hZ.out.b.q y (by simp)).1
      have hGr := hG.on (hZ.out.k.below (Nat.le_refl _) (by omega))
      obtain ⟨qa, ca, hL⟩ := hG.list hyn
      have cu := (hL wr (hZ.out.k.below (Nat.le_refl _) (by omega))).1
      have cb := hZ.out.h.read 1
      have HL := Lib.hid hL
      have HA := Lib.hid (hA y hyn)
      have al := hAl y
      clear hL hGr
      have t1 : decide ((0 : Int) < (N : Int)) = true := by simp; omega
      have q1 : (0 : Int) ≤ (y : Int) := by omega
      have q2 : (y : Int) < (n : Int) := by omega
      have q3 : (0 : Int) < (N : Int) := by omega
      go_wp2
      go_loopw [4, 29] (fun v4 v wr => ∃ (k : Nat) (f : Nat → Int) (t : List Nat), v = .int .i64 k ∧ k ≤ (A y).length ∧ Hid (Ss p l n A f0 S D G cap w wr v4 f (y :: t)) ∧ Hid (∀ i ∈ (A y).take k, ∀ x, l[i]? = some x → 0 ≤ f (oth x y) ∧ f (oth x y) ≤ f y + 1) ∧ Hid (2 * un f n + (y :: t).length ≤ gk)) (fun _ v _ => (A y).length - (intOf v).toNat)
      case atStart => exact ⟨0, f, t, rfl, Nat.zero_le _, hZ, Lib.hid (fun i hi => by simp at hi), Lib.hid (by rw [HN.out]; exact hkk.out)⟩
      case round =>
        clear hZ hkk cy cu cb hyc
        obtain ⟨k, f, t, rfl, hk, hZ, hP, hkk⟩ := hrel
        have hBw := hZ.out.k.below (Nat.le_refl D) (Nat.le_of_lt hDw)
        by_cases hlt : k < (A y).length
        · have g1 : decide ((k : Int) < ((A y).length : Int)) = true := by simp [hlt]
          have W1 : IntKind.i64.wrap ((k : Int) + 1) = ((k + 1 : Nat) : Int) := by rw [IntWalk.i64_in _ (by omega)]; omega
          obtain ⟨gl, rfl, ci⟩ := (HL.out wr hBw).2 k hlt
          obtain ⟨i, hi⟩ : ∃ i, i = (A y)[k] := ⟨_, rfl⟩
          rw [← hi] at ci
          obtain ⟨x, hxl, hxy⟩ := HA.out i (by rw [hi]; exact List.getElem_mem hlt)
          have hil : i < l.length := (List.getElem?_eq_some_iff.1 hxl).1
          have hxe : l[i] = x := (List.getElem?_eq_some_iff.1 hxl).2
          obtain ⟨a, rfl, d0, d1, l1, l2, ne⟩ := (hG.on hBw).gr.at hil
          rw [hxe] at d0 d1 l1 l2 ne
          obtain ⟨x1, x2⟩ := x
          simp only at d0 d1 l1 l2 ne
          have hun : oth (x1, x2) y < n := by unfold oth; simp only; split <;> assumption
          have hF := fun W => far_any x1 x2 y W
          have hnb : nbr l n A y (oth (x1, x2) y) := ⟨hyn, i, by rw [hi]; exact List.getElem_mem hlt, (x1, x2), hxl, rfl⟩
          obtain ⟨u, hu⟩ : ∃ u, u = oth (x1, x2) y := ⟨_, rfl⟩
          rw [← hu] at hun hF hnb
          have HI := Lib.hid (And.intro hi hxl)
          have HU := Lib.hid hu
          clear hi hxl hu hxy hxe
          have h0 := hZ.out.h.read 0
          have hq := (hZ.out.b.q y (by simp)).2
          have hyx := hZ.out.x y
          have q4 : (0 : Int) ≤ (i : Int) := by omega
          have q5 : (i : Int) < (l.length : Int) := by omega
          have q6 : (0 : Int) ≤ (u : Int) := by omega
          have q7 : (u : Int) < (n : Int) := by omega
          have rb : w.heap.size < wr.heap.size := hZ.out.h.size_
          have db : D < wr.heap.size := Has.size_ hZ.out.r
          obtain ⟨du, hdu⟩ : ∃ du, du = f u := ⟨_, rfl⟩
          obtain ⟨dy, hdy⟩ : ∃ dy, dy = f y := ⟨_, rfl⟩
          rw [← hdy] at hyx
          have dy0 : 0 ≤ dy := by rw [hdy]; exact hq.2
          have HD := Lib.hid (And.intro hdu hdy)
          clear hdu hdy
          by_cases hneg : du < 0
          · have t2 : decide (du < 0) = true := by simp [hneg]
            go_wp2_with (go_at_call 55; (with_reducible refine (hF _).mono ?_); rintro e w2 ⟨rfl, hb⟩; have Z2 := Lib.hid (hZ.out.on hb); have h2 := Z2.out.h.read 2; have cu := Z2.out.r.read hun; have cY := Z2.out.r.read hyn; have fu := Has.open_ Z2.out.r u; rw [← HD.out.1] at cu; rw [← HD.out.2] at cY; have rb2 : w.heap.size < w2.heap.size := Z2.out.h.size_; have db2 : D < w2.heap.size := Has.size_ Z2.out.r; clear hb)
            have q8 : (0 : Int) ≤ (y : Int) := by omega
            have ny : ¬ y = u := by rintro rfl; have := HD.out.1; have := HD.out.2; omega
            have W5 : IntKind.i64.wrap (dy + 1) = dy + 1 := IntWalk.i64_in _ (by omega)
            have U1 : un (upd f u (dy + 1)) n + 1 = un f n := un_upd f u (dy + 1) (by rw [← HD.out.1]; exact hneg) (by omega) n hun
            have hB4 : Bf n (nbr l n A) f0 (upd f u (dy + 1)) S (y :: t ++ [u]) := by
              have h1 : f u < 0 := by rw [← HD.out.1]; exact hneg
              have := hZ.out.b.push hun h1 hnb (by have := hZ.out.b.m u h1; omega)
              rw [← HD.out.2] at this
              exact this
            have hX4 : ∀ v, upd f u (dy + 1) v ≤ (n : Int) - un (upd f u (dy + 1)) n := fun v => by
              have h1 := hZ.out.x v
              by_cases e : v = u
              · rw [e, upd_same]; omega
              · rw [upd_other e]; omega
            have hP4 : ∀ i ∈ (A y).take (k + 1), ∀ x, l[i]? = some x → 0 ≤ upd f u (dy + 1) (oth x y) ∧ upd f u (dy + 1) (oth x y) ≤ upd f u (dy + 1) y + 1 := fun j hj x hx => by
              have ey : upd f u (dy + 1) y = dy := by rw [upd_other ny, HD.out.2]
              rw [ey]
              by_cases e : oth x y = u
              · rw [e, upd_same]; omega
              · rw [upd_other e]
                rw [List.take_succ_eq_append_getElem hlt, List.mem_append] at hj
                rcases hj with hj | hj
                · have := hP.out j hj x hx
                  rw [← HD.out.2] at this
                  exact this
                · rw [List.mem_singleton.1 hj, ← HI.out.1, HI.out.2] at hx
                  simp only [Option.some.injEq] at hx
                  exact absurd (by rw [← hx, ← HU.out]) e
            have hkk4 : 2 * un (upd f u (dy + 1)) n + (y :: t ++ [u]).length ≤ gk := by
              have := hkk.out
              simp at this ⊢; omega
            have hz4 : (y :: t ++ [u]).length + un (upd f u (dy + 1)) n ≤ n := by
              have := hZ.out.z
              simp at this ⊢; omega
            have qlen : (y :: t).length ≤ 100000 := by have := hZ.out.z; omega
            have HX := Lib.hid (And.intro hX4 (And.intro hP4 (And.intro hkk4 hz4)))
            have HB := Lib.hid hB4
            have UN := Lib.hid U1
            clear hX4 hP4 hkk4 hz4 hB4 U1
            go_region
            have A3 : At D w2 (w2.setCell ⟨D, u, none⟩ (.int .i64 (dy + 1))).drew := by
              have h := (At.refl D w2).put u (.int .i64 (dy + 1))
              exact ⟨h.os, h.tape, h.output, h.size, h.block⟩
            have R3 : Row (w2.setCell ⟨D, u, none⟩ (.int .i64 (dy + 1))).drew D n (upd f u (dy + 1)) := Z2.out.r.put u (dy + 1)
            have Q3 := Z2.out.q.at_ A3 (by omega)
            have H3 := Has.at_ Z2.out.h A3 (by omega)
            have K3 := Z2.out.k.at_ A3
            generalize (w2.setCell ⟨D, u, none⟩ (.int .i64 (dy + 1))).drew = w3 at *
            have r3 := Has.size_ H3
            clear A3 h2 cu cY fu
            go_wp2_with (at_builtin; refine wpList_queue rfl _ _ rfl rfl (Q3.on (al1 _ _)) ⟨_, 0, none⟩ 1 rfl ((Has.new_ _ 3 #[.int .i64 (u : Int)]).read 0) qlen (Nat.le_trans r3 (al1 _ _).size) ?_)
            intro v' w4 Q4 B4
            have b3 := al1 w3 (.cells #[.int .i64 (u : Int)] 3)
            have B5 : Below (w.heap.size + 1) w3 w4 := (b3.mono r3).trans B4
            have Z4 : Ss (some a) l n A f0 S D G cap w w4 v' (upd f u (dy + 1)) (y :: (t ++ [u])) := ⟨HB.out, HX.out.1, own_below R3 B5 (by omega), Q4, own_below H3 B5 (by omega), K3.then_ (B5.mono (by omega)), HX.out.2.2.2⟩
            have HZ4 := Lib.hid Z4
            clear Z4 Q4 B4 b3 B5 R3 Q3 H3 K3
            go_wp2
            exact ⟨⟨k + 1, _, _, rfl, hlt, HZ4, Lib.hid HX.out.2.1, Lib.hid HX.out.2.2.1⟩, by simp [intOf]; omega⟩
          · have t2 : decide (du < 0) = false := by simp; omega
            have hP2 : Hid (∀ i ∈ (A y).take (k + 1), ∀ x, l[i]? = some x → 0 ≤ f (oth x y) ∧ f (oth x y) ≤ f y + 1) := Lib.hid fun j hj x hx => by
              rw [List.take_succ_eq_append_getElem hlt, List.mem_append] at hj
              rcases hj with hj | hj
              · exact hP.out j hj x hx
              · rw [List.mem_singleton.1 hj, ← HI.out.1, HI.out.2] at hx
                simp only [Option.some.injEq] at hx
                rw [← hx, ← HU.out]
                have h1 : 0 ≤ f u := by rw [← HD.out.1]; omega
                exact ⟨h1, hZ.out.b.top y t rfl u ⟨hc y u hnb hq.1, h1⟩⟩
            go_wp2_with (go_at_call 55; (with_reducible refine (hF _).mono ?_); rintro e w2 ⟨rfl, hb⟩; have Z2 := Lib.hid (hZ.out.on hb); have h2 := Z2.out.h.read 2; have cu := Z2.out.r.read hun; have cY := Z2.out.r.read hyn; have fu := Has.open_ Z2.out.r u; rw [← HD.out.1] at cu; rw [← HD.out.2] at cY; have rb2 : w.heap.size < w2.heap.size := Z2.out.h.size_; have db2 : D < w2.heap.size := Has.size_ Z2.out.r; clear hb)
            exact ⟨⟨k + 1, f, t, rfl, hlt, Z2, hP2, hkk⟩, by simp [intOf]; omega⟩
        · have g1 : decide ((k : Int) < ((A y).length : Int)) = false := by simp; omega
          have hall : ∀ u, nbr l n A y u → 0 ≤ f u ∧ f u ≤ f y + 1 := fun u ⟨_, i, hi, x, hx, e⟩ => by
            have := hP.out i (by rw [List.take_of_length_le (by omega)]; exact hi) x hx
            rw [e] at this; exact this
          obtain ⟨g4, off4, c4, rfl, cy4, hc4⟩ := hZ.out.q.head
          have hZ5 := hZ.out
          have hm4' := hZ5.z
          obtain ⟨M, hM⟩ : ∃ M, M = t.length := ⟨_, rfl⟩
          rw [show (y :: t).length = M + 1 by rw [hM]; rfl] at hZ5 hc4 hm4' ⊢
          have HM := Lib.hid hM
          clear hM
          have q8 : (1 : Int) ≤ ((M + 1 : Nat) : Int) := by omega
          have q9 : ((M + 1 : Nat) : Int) ≤ (c4 : Int) := by omega
          have q10 : (1 : Int) ≤ (c4 : Int) := by omega
          by_cases HC : c4 = 1
          · subst HC
            have HC : (1 : Nat) = 1 := rfl
            obtain rfl : M = 0 := by omega
            have Z6 : Ss p l n A f0 S D G cap w wr (.slice (some ⟨g4, off4, none⟩) 0 (0)) f t := ⟨hZ.out.b.pop hall, hZ.out.x, hZ.out.r, by have q := hZ.out.q.pop (some ⟨g4, off4, none⟩) (by simp); rw [← HM.out] at q; exact q, hZ.out.h, hZ.out.k, by have := hZ.out.z; simp at this; omega⟩
            have HZ6 := Lib.hid Z6
            have hk5 : 2 * un f n + 0 < gk := by have := hkk.out; simp at this; omega
            have HK5 := Lib.hid hk5
            clear hZ5 hP Z6 hk5 hZ HC
            go_wp2
            go_roundg (2 * un f n + 0)
            case measure => exact HK5.out
            case rel => exact ⟨f, t, Lib.hid (by rw [← HM.out]; exact Nat.le_refl _), HZ6⟩
          · have q11 : ¬ (c4 : Int) = 1 := by omega
            have Z6 : Ss p l n A f0 S D G cap w wr (.slice (some ⟨g4, off4 + 1, none⟩) M (c4 - 1)) f t := ⟨hZ.out.b.pop hall, hZ.out.x, hZ.out.r, by rw [HM.out]; exact hZ.out.q.pop _ (by simp [HC]), hZ.out.h, hZ.out.k, by have := hZ.out.z; simp at this; omega⟩
            have HZ6 := Lib.hid Z6
            have hk5 : 2 * un f n + M < gk := by have := hkk.out; simp at this; rw [HM.out]; omega
            have HK5 := Lib.hid hk5
            clear hZ5 hP Z6 hk5 hZ HC
            go_wp2
            go_roundg (2 * un f n + M)
            case measure => exact HK5.out
            case rel => exact ⟨f, t, Lib.hid (by rw [HM.out]; exact Nat.le_refl _), HZ6⟩
end Go.Proofs.Ytampfciacjifgaa
