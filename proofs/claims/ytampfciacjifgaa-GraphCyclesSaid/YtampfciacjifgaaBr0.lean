/- Bridges: the walk. -/
import Derived.Test.YtampfciacjifgaaSrt
import Derived.Deep.RegionLaw
import Derived.Deep.DeepCutAuto
import Derived.Laws.EntriesVeiled
namespace Go.Proofs.Ytampfciacjifgaa
open Go.ChangeShapes Go.WideShapes Go.ChangeAt Go.RowKit
set_option linter.unusedVariables false
set_option linter.unusedSimpArgs false

/-- What stands behind the first statement of Bridges. -/
structure Sta (w wx : World) (p : Option Addr) (n : Nat) (l : List (Nat × Nat)) (cap g G : Nat) : Prop where
  b : Below w.heap.size w wx
  q : Has wx w.heap.size 22 #[.slice p l.length cap]
  e : Has wx g 25 #[.slice (some ⟨G, 0, none⟩) n n]
  n : ∃ B, Nest B wx (.slice (some ⟨G, 0, none⟩) n n) ((List.range n).map (adj l (List.range l.length)))
  ne : g ≠ w.heap.size
  lt : g < wx.heap.size ∧ G < wx.heap.size
theorem Nest.lt0 {B G n : Nat} {w : World} {ls : List (List Nat)} (h : Nest B w (.slice (some ⟨G, 0, none⟩) n n) ls) : G < w.heap.size := by
  obtain ⟨vs, o, i⟩ := h
  exact (o.lt G rfl).2
theorem sta_al {w w1 wa : World} {p : Option Addr} {n : Nat} {l : List (Nat × Nat)} {cap G B : Nat} (bw : Below w.heap.size w w1) (H : Has w1 w.heap.size 22 #[.slice p l.length cap]) (BA : Below w1.heap.size w1 wa)
    (hN : Nest B wa (.slice (some ⟨G, 0, none⟩) n n) ((List.range n).map (adj l (List.range l.length)))) : Sta w (wa.alloc (.cells #[.slice (some ⟨G, 0, none⟩) n n] 25)) p n l cap wa.heap.size G := by
  have z := Has.size_ H
  have zz := BA.size
  have zg := Nest.lt0 hN
  have e : (wa.alloc (.cells #[Value.slice (some ⟨G, 0, none⟩) n n] 25)).heap.size = wa.heap.size + 1 := by simp
  have b := bw.trans (BA.mono bw.size)
  exact ⟨b.trans ((al1 wa _).mono b.size), Has.on (Has.on H BA) (al1 wa _), Has.new_ _ _ _, ⟨B, hN.on (al1 wa _)⟩, by omega, by rw [e]; omega, by rw [e]; omega⟩
theorem sta_put {w w1 wa : World} {p : Option Addr} {n : Nat} {l : List (Nat × Nat)} {cap G B g0 : Nat} (bw : Below w.heap.size w w1) (H : Has w1 w.heap.size 22 #[.slice p l.length cap]) (BA : Below w1.heap.size w1 wa)
    (hN : Nest B wa (.slice (some ⟨G, 0, none⟩) n n) ((List.range n).map (adj l (List.range l.length)))) (hA : Has wa g0 25 #[.slice none 0 0]) (h1 : w1.heap.size ≤ g0) (h2 : g0 < B) : Sta w (wa.setCell ⟨g0, 0, none⟩ (.slice (some ⟨G, 0, none⟩) n n)) p n l cap g0 G := by
  have z := Has.size_ H
  have zz := BA.size
  have zg := Nest.lt0 hN
  have A : At g0 wa (wa.setCell ⟨g0, 0, none⟩ (.slice (some ⟨G, 0, none⟩) n n)) := (At.refl _ wa).put 0 _
  have za := Has.size_ hA
  have b := bw.trans (BA.mono bw.size)
  exact ⟨b.trans (A.below (by omega)), Has.at_ (Has.on H BA) A (by omega), Has.put_ hA 0 _, ⟨B, hN.at_ A h2⟩, by omega, by rw [A.size]; omega, by rw [A.size]; omega⟩
/-- Where the variables of Bridges lie. -/
def cfB (w wc w3 : World) (g : Nat) : Cf := ⟨wc.heap.size, wc.heap.size + 1, w3.heap.size, w3.heap.size + 1, g, w.heap.size, w3.heap.size + 1 + 1, w3.heap.size + 1 + 1 + 1⟩
def W5 (w3 : World) (F n : Nat) (v : Value) : World := ((w3.alloc (.cells #[.slice (some ⟨F, 0, none⟩) n n] 29)).alloc (.cells #[.slice none 0 0] 29)).alloc (.cells #[v] 72)
theorem w5_has (w3 : World) (F n : Nat) (v : Value) : Has (W5 w3 F n v) (w3.heap.size + 1 + 1) 72 #[v] := by
  have h := Has.new_ ((w3.alloc (.cells #[.slice (some ⟨F, 0, none⟩) n n] 29)).alloc (.cells #[.slice none 0 0] 29)) 72 #[v]
  have e : ((w3.alloc (.cells #[Value.slice (some ⟨F, 0, none⟩) n n] 29)).alloc (.cells #[Value.slice none 0 0] 29)).heap.size = w3.heap.size + 1 + 1 := by simp
  rw [e] at h; exact h
theorem w5_lb (w3 : World) (F n : Nat) (v : Value) : Has (W5 w3 F n v) w3.heap.size 29 #[.slice (some ⟨F, 0, none⟩) n n] := Has.on (Has.on (Has.new_ _ _ _) (al1 _ _)) (al1 _ _)
theorem w5_bb (w3 : World) (F n : Nat) (v : Value) : Has (W5 w3 F n v) (w3.heap.size + 1) 29 #[.slice none 0 0] := by
  have h := Has.new_ (w3.alloc (.cells #[.slice (some ⟨F, 0, none⟩) n n] 29)) 29 #[.slice none 0 0]
  have e : (w3.alloc (.cells #[Value.slice (some ⟨F, 0, none⟩) n n] 29)).heap.size = w3.heap.size + 1 := by simp
  rw [e] at h; exact Has.on h (al1 _ _)
theorem w5_size (w3 : World) (F n : Nat) (v : Value) : (W5 w3 F n v).heap.size = w3.heap.size + 1 + 1 + 1 := by simp [W5]
theorem w5_below (w3 : World) (F n : Nat) (v : Value) : Below w3.heap.size w3 (W5 w3 F n v) := al (al (al1 _ _) _) _
def W6 (w wc w3 : World) (g n : Nat) : World := W5 w3 (wc.heap.size + 1) n (.func (.func 54) #[] (cfB w wc w3 g).vals)
theorem w6_all {w wc w3 : World} {p : Option Addr} {n : Nat} {l : List (Nat × Nat)} {cap g G : Nat} (hG : Gr w p n l) (X : Sta w wc p n l cap g G) (b3 : Below wc.heap.size wc w3) (V3 : Has w3 wc.heap.size 3 #[.int .i64 0]) (hR : Row w3 (wc.heap.size + 1) n fun _ => 0) :
    Fx (cfB w wc w3 g) p l n (adj l (List.range l.length)) G cap wc.heap.size (W6 w wc w3 g n) ∧ Bw (cfB w wc w3 g) n (W6 w wc w3 g n) (W6 w wc w3 g n) ⟨0, fun _ => 0, []⟩ ∧ (cfB w wc w3 g).B ≤ (W6 w wc w3 g n).heap.size ∧ Below w.heap.size w (W6 w wc w3 g n) := by
  have L := w5_lb w3 (wc.heap.size + 1) n (.func (.func 54) #[] (cfB w wc w3 g).vals)
  have Bb := w5_bb w3 (wc.heap.size + 1) n (.func (.func 54) #[] (cfB w wc w3 g).vals)
  have V := w5_has w3 (wc.heap.size + 1) n (.func (.func 54) #[] (cfB w wc w3 g).vals)
  have b5 := w5_below w3 (wc.heap.size + 1) n (.func (.func 54) #[] (cfB w wc w3 g).vals)
  have z5 := w5_size w3 (wc.heap.size + 1) n (.func (.func 54) #[] (cfB w wc w3 g).vals)
  have zv := Has.size_ V3
  have zr := Has.size_ hR
  have x1 := X.lt
  have xq := Has.size_ X.q
  have c3 := b3.size
  have xb := X.b
  have xn := X.ne
  have b36 : Below wc.heap.size wc (W6 w wc w3 g n) := b3.trans (b5.mono c3)
  have E6 := Has.on X.e b36
  have Q6 := Has.on X.q b36
  obtain ⟨B, N⟩ := X.n
  have z6 : (W6 w wc w3 g n).heap.size = w3.heap.size + 1 + 1 + 1 := z5
  refine ⟨⟨L, E6, Q6, V, ⟨fun w' hw' => ⟨hG.on (xb.trans ((b36.trans hw').mono xb.size)), (N.on (b36.trans hw')).rd⟩, by rw [z6]; omega, fun g' hg' => by simp [Value.ownBlock] at hg'; omega⟩, ?_, ?_, ?_, ?_, ?_, ?_⟩, ⟨?_, ?_, ⟨.slice none 0 0, ?_, ?_⟩, Bx.refl _ _⟩, ?_, xb.trans (b36.mono xb.size)⟩
  · simp only [cfB]; omega
  · simp only [cfB]; omega
  · simp only [cfB]; omega
  · simp only [cfB]; omega
  · exact fun v _ i hi => (adj_mem hi).2
  · exact fun v => Nat.le_trans (adj_len _ _ _) (by have := hG.2.1; simp; omega)
  · exact Has.on V3 b5
  · exact Has.on hR b5
  · exact Bb
  · exact World.ownsRow_nil _ _ _ _
  · simp only [cfB]; omega
/-- The state behind the first k nodes. -/
def brf (l : List (Nat × Nat)) (A : Nat → List Nat) (n : Nat) : Nat → St
  | 0 => ⟨0, fun _ => 0, []⟩
  | k + 1 => if (brf l A n k).fst k = 0 then (vst l A n k l.length (brf l A n k)).1 else brf l A n k
def brg (l : List (Nat × Nat)) (A : Nat → List Nat) (n : Nat) : List Nat := (brf l A n n).brs.mergeSort fun x y => decide (x ≤ y)
theorem has_below {B : Nat} {w w' : World} {g : Nat} {t : TypeId} {cs : Array Value} (h : Has w g t cs) (hb : Below B w w') (hg : g < B) : Has w' g t cs := by
  unfold Has; rw [hb.block g hg]; exact h
theorem has_newd (w : World) (t : TypeId) (cs : Array Value) : Has (w.drew.alloc (.cells cs t)) w.heap.size t cs := Has.new_ w.drew t cs
theorem indices_ex (p : Option Addr) (m cap : Nat) (w : World) (hm : m ≤ 4000) :
    Calls Try.prog 53 #[.slice p m cap] w fun e w' => ∃ g, e = .returned (.slice (some ⟨g, 0, none⟩) m m) ∧ Rdl w' (.slice (some ⟨g, 0, none⟩) m m) (List.range m) ∧ Below w.heap.size w w' :=
  (indices_any p m cap w hm).mono fun e w' h => ⟨_, h⟩
theorem around_ex (p : Option Addr) (n : Nat) (l : List (Nat × Nat)) (cap : Nat) (vl : Value) (xs : List Nat) (w : World) (hG : Gr w p n l) (hl : Rdl w vl xs) (hx : ∀ i ∈ xs, i < l.length) (hxl : xs.length ≤ 4000) :
    Calls Try.prog 52 #[.int .i64 n, .slice p l.length cap, vl] w fun e w' => ∃ G, e = .returned (.slice (some ⟨G, 0, none⟩) n n) ∧ Nest w.heap.size w' (.slice (some ⟨G, 0, none⟩) n n) ((List.range n).map (adj l xs)) ∧ Below w.heap.size w w' :=
  (around_any p n l cap vl xs w hG hl hx hxl).mono fun e w' h => by obtain ⟨v, rfl, rfl, h1, h2⟩ := h; exact ⟨_, rfl, h1, h2⟩
set_option maxRecDepth 100000 in
set_option maxHeartbeats 4000000 in
theorem bridges_ok (p : Option Addr) (n : Nat) (l : List (Nat × Nat)) (cap : Nat) (w : World) (hG : Gr w p n l) :
    Calls Try.prog 25 #[.int .i64 n, .slice p l.length cap] w fun e w' => ∃ v, e = .returned (.tuple #[v, .int .i64 0]) ∧ Own w.heap.size w' v (brg l (adj l (List.range l.length)) n) ∧ Below w.heap.size w w' := by
  have hn := hG.2.2.1
  have hm := hG.2.1
  have hm4 : l.length ≤ 4000 := by omega
  have hl : ∀ x ∈ l, x.1 < n ∧ x.2 < n ∧ x.1 ≠ x.2 := hG.2.2.2
  have hx : ∀ i ∈ List.range l.length, i < l.length := fun i hi => by simpa using hi
  have hxl : (List.range l.length).length ≤ 4000 := by simp; omega
  have HX := Lib.hid (And.intro hx hxl)
  clear hx hxl
  have hE0 := Has.new_ w 22 #[.slice p l.length cap]
  have r0 := hE0.read 0
  go_enter Try.func25, Try.ntmps25
  go_wp2_with (go_at_call 14; (with_reducible refine (valid_ok cap (hG.on (al1 w _))).mono ?_); rintro e w1 ⟨rfl, b1⟩; have r1 := cell_later b1 r0)
  have bw1 : Below w.heap.size w w1 := (al1 w _).trans (b1.mono (al1 w _).size)
  have hE1 := Has.on hE0 b1
  have hG1 := hG.on bw1
  have HE1 := Lib.hid hE1
  have zb : w.heap.size < w1.heap.size := Has.size_ hE1
  have HG1 := Lib.hid hG1
  clear hE0 r0 b1 hE1 hG1
  have B0 := Below.refl w1.heap.size w1
  go_upto_region 3 with fail
  go_cut [6] (fun s wx => ∃ g G : Nat, s = .pointer (some ⟨g, 0, none⟩) ∧ Sta w wx p n l cap g G)
  case first =>
    go_region_law (first
      | (go_simp; go_at_call 53; (refine (indices_ex p l.length cap _ hm4).mono ?_); rintro e wi ⟨gi, rfl, ri, bi⟩; have BI : Below w1.heap.size w1 wi := belows (by repeat' (first | exact B0 | refine below_al ?_ _ | refine below_dr ?_)) bi; have c5 := cell_later BI r1; have z5 : w.heap.size < wi.heap.size := lt_of_cell c5; (first | ((with_reducible have hA := Has.on (Has.new_ w1 25 #[Value.slice none 0 0]) bi)) | ((with_reducible have hA := Has.on (has_newd w1 25 #[Value.slice none 0 0]) bi)) | ((with_reducible have hA := Has.on (Has.drew_ (Has.new_ w1 25 #[Value.slice none 0 0])) bi)) | skip))
      | (go_simp; go_at_call 52; (refine (around_ex p n l cap _ (List.range l.length) _ (HG1.out.on (show Below w1.heap.size w1 _ from (by repeat' (first | exact BI | refine below_al ?_ _ | refine below_dr ?_)))) (Rdl.on ri (show Below wi.heap.size wi _ from (by repeat' (first | exact Below.refl _ wi | refine below_al ?_ _ | refine below_dr ?_)))) HX.out.1 HX.out.2).mono ?_); rintro e wa ⟨G, rfl, hN, ba⟩; have BA : Below w1.heap.size w1 wa := belows (show Below w1.heap.size w1 _ from (by repeat' (first | exact BI | refine below_al ?_ _ | refine below_dr ?_))) ba; have c6 := cell_later BA r1; have z6 : w.heap.size < wa.heap.size := lt_of_cell c6; (first | ((with_reducible have hA2 := Has.on hA ba); have fA := hA2.open_ 0; have cA := hA2.read 0) | ((with_reducible have hA2 := Has.on (Has.drew_ hA) ba); have fA := hA2.open_ 0; have cA := hA2.read 0) | ((with_reducible have hA2 := Has.on (Has.new_ wi 25 #[Value.slice none 0 0]) ba); have fA := hA2.open_ 0; have cA := hA2.read 0) | ((with_reducible have hA2 := Has.on (has_newd wi 25 #[Value.slice none 0 0]) ba); have fA := hA2.open_ 0; have cA := hA2.read 0) | ((with_reducible have hA2 := Has.on (Has.drew_ (Has.new_ wi 25 #[Value.slice none 0 0])) ba); have fA := hA2.open_ 0; have cA := hA2.read 0) | skip)))
    all_goals (go_wp2_with fail)
    all_goals go_meet
    all_goals first
      | exact ⟨_, _, rfl, sta_al bw1 HE1.out BA hN⟩
      | exact ⟨_, _, rfl, sta_put bw1 HE1.out BA hN hA2 BI.size (by simp)⟩
      | exact ⟨_, _, rfl, sta_put bw1 HE1.out BA hN hA2 (Nat.le_refl _) (Has.size_ hA)⟩
      | exact ⟨_, _, rfl, sta_put bw1 HE1.out BA hN hA2 (Nat.le_refl _) (by have := BI.size; have := Has.size_ hA; simp; omega)⟩
  case rest =>
    obtain ⟨g, G, rfl, X⟩ := hcut
    clear HE1 HG1 B0 bw1 r1
    obtain ⟨i0, hi, hz0, hz1, hz2⟩ := info_parts info3
    go_wp2_with (at_make; refine wpList_make_full _ rfl _ _ 29 rfl (wc.heap.size + 1) 3 i0 _ 1 Try.underlying29 hi hz0 hz1 _ _ _ _ n rfl rfl rfl rfl (by rw [hz2]; omega) (by unfold maxLen; omega) (by simp) ?_)
    intro w3 hown hgrow
    have hR := row_zero hown
    have b3 := below_grown (al1 wc (.cells #[.int .i64 0] 3)) hgrow (by simp)
    have V3 : Has w3 wc.heap.size 3 #[.int .i64 0] := Has.grown_ (Has.new_ wc _ _) hgrow (fun e => by cases e)
    clear hown hgrow
    have HV := w5_has w3 (wc.heap.size + 1) n .nilFunc
    have cV := HV.read 0
    have fV := HV.open_ 0
    unfold W5 at cV fV
    clear HV
    go_wp2_with fail
    clear cV fV hi hz0 hz1 hz2
    obtain ⟨FX, BW, BS, BL⟩ := w6_all hG X b3 V3 hR
    have oX := X.lt
    have zw := X.b.size
    clear X b3 V3 hR
    obtain ⟨c, hc⟩ : ∃ c, c = cfB w wc w3 g := ⟨_, rfl⟩
    have hBw : w.heap.size ≤ c.B := by have := Has.size_ FX.Q; have := FX.o; rw [hc]; simp only [cfB] at this ⊢; omega
    show Code.wp _ _ _ _ (W6 w wc w3 g n)
    generalize W6 w wc w3 g n = W at *
    rw [← hc] at FX BW BS
    obtain ⟨A, hA⟩ : ∃ A, A = adj l (List.range l.length) := ⟨_, rfl⟩
    rw [← hA] at FX
    have HA := Lib.hid hA
    have e1 : wc.heap.size = c.Vb := by rw [hc]; rfl
    have e2 : wc.heap.size + 1 = c.Fb := by rw [hc]; rfl
    have e3 : w3.heap.size = c.Lb := by rw [hc]; rfl
    have e4 : w3.heap.size + 1 = c.Bb := by rw [hc]; rfl
    have e5 : g = c.Eo := by rw [hc]; rfl
    have e6 : w.heap.size = c.Eb := by rw [hc]; rfl
    have e7 : w3.heap.size + 1 + 1 = c.Vs := by rw [hc]; rfl
    rw [e7, e4, e3, e2, e5, e6, e1]
    rw [e6] at BL hBw
    have hlo : c.Eb ≤ c.Vb ∧ c.Eb ≤ c.Fb ∧ c.Eb ≤ c.Bb := by have := FX.d; omega
    have HE6 := Lib.hid e6
    clear e1 e2 e3 e4 e5 e6 e7 hc hA oX zw
    go_loopw [25] (fun v25 wr => ∃ (k : Nat) (s : St), v25 = .int .i64 k ∧ k ≤ n ∧ Hid (brf l A n k = s) ∧ Hid (Bw c n W wr s) ∧ Hid (s.vis + zc s.fst n ≤ n ∧ s.brs.length ≤ s.vis) ∧ c.B ≤ wr.heap.size) (fun v _ => n - (intOf v).toNat)
    case atStart => exact ⟨0, _, rfl, Nat.zero_le _, Lib.hid rfl, Lib.hid BW, Lib.hid ⟨by show 0 + zc (fun _ => 0) n ≤ n; rw [Nat.zero_add]; exact zc_le _ _, Nat.le_refl _⟩, BS⟩
    case round =>
      clear BW BS
      obtain ⟨k, s, rfl, hk, hS, hZ, hGd, hB2⟩ := hrel
      have o := FX.o
      have b := FX.b
      have HL := has_bx FX.L hZ.out.k o.2.2.2.1 b.1
      have c3 := HL.read 0
      have HV := has_bx FX.V hZ.out.k o.2.2.2.2.2.2 b.2.2.2
      have c6 := HV.read 0
      unfold Cf.vals at c6
      clear HL HV
      by_cases hlt : k < n
      · have g1 : decide ((k : Int) < (n : Int)) = true := by simp [hlt]
        have W1 : IntKind.i64.wrap ((k : Int) + 1) = ((k + 1 : Nat) : Int) := by rw [IntWalk.i64_in _ (by omega)]; omega
        have cn := hZ.out.r.read hlt
        have q1 : (0 : Int) ≤ (k : Int) := by omega
        have q2 : (k : Int) < (n : Int) := by omega
        by_cases h0 : s.fst k = 0
        · have t1 : ((((s.fst k : Nat) : Int)) == 0) = true := by simp [h0]
          have hV := visit_any c p l n A G cap _ W FX n k l.length (-1) s wr (fun i hi => by omega) hlt h0 (zc_le _ _) hZ.out hGd.out.1 hGd.out.2 hB2
          have hst : brf l A n (k + 1) = (vst l A n k l.length s).1 := by rw [brf, hS.out, if_pos h0]
          have HST := Lib.hid hst
          clear hst h0
          go_wp2_with (go_at_call 54; (with_reducible refine hV.mono ?_); rintro e w6 ⟨rfl, Z6, G6, s6, n6, B6, r6⟩)
          exact ⟨⟨k + 1, _, rfl, hlt, HST, Lib.hid Z6, Lib.hid ⟨G6.z, by have := G6.b; have := hGd.out.2; omega⟩, B6⟩, by simp [intOf]; omega⟩
        · have t1 : ((((s.fst k : Nat) : Int)) == 0) = false := by simp [h0]
          have hst : brf l A n (k + 1) = s := by rw [brf, hS.out, if_neg h0]
          have HST := Lib.hid hst
          clear hst h0
          go_wp2
          exact ⟨⟨k + 1, s, rfl, hlt, HST, hZ, hGd, hB2⟩, by simp [intOf]; omega⟩
      · have g1 : decide ((k : Int) < (n : Int)) = false := by simp; omega
        have ekn : k = n := by omega
        subst ekn
        obtain ⟨vb, h1, h2⟩ := hZ.out.b
        have cb := h1.read 0
        have HH := Lib.hid h1
        have hT := sort_any c.B vb s.brs wr h2 hB2 (by have := hGd.out; omega)
        have hbk : Below c.Eb W wr := ⟨hZ.out.k.os, hZ.out.k.tape, hZ.out.k.output, hZ.out.k.size, fun j hj => hZ.out.k.block j (by omega) (by have := hlo; omega) (by have := hlo; omega) (by have := hlo; omega)⟩
        clear h1 h2
        go_wp2_with (go_at_call 56; (with_reducible refine hT.mono ?_); rintro e w7 ⟨rfl, ho, hb⟩; have h7 : Has w7 c.Bb 29 #[vb] := has_below HH.out hb o.2.2.1; have cb := h7.read 0)
        refine bodyPost_ret (v := .tuple #[vb, .int .i64 0]) (by simp [results, Try.results25, go_sem]) rfl ⟨_, rfl, by unfold brg; rw [← HA.out, hS.out]; exact Own.mono ho (by rw [HE6.out]; exact hBw), by rw [HE6.out]; exact BL.trans (hbk.trans (hb.mono hBw))⟩
end Go.Proofs.Ytampfciacjifgaa
