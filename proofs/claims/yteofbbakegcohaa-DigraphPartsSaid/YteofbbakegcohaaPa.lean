/- The parts of a graph: the walk of parts; Loop and Parts. -/
import Derived.Test.YteofbbakegcohaaPt
namespace Go.Proofs.Yteofbbakegcohaa
open Go.ChangeShapes Go.WideShapes Go.ChangeAt Go.RowKit
set_option linter.unusedVariables false
set_option linter.unusedSimpArgs false


set_option maxRecDepth 100000 in
set_option maxHeartbeats 8000000 in
theorem parts_any (G n : Nat) (A : Nat → List Nat) (w : World) (hG : Gm w G n A) :
    Calls Try.prog 54 #[.slice (some ⟨G, 0, none⟩) n n] w fun e w' => ∃ v ls, e = .returned v ∧ Nest w.heap.size w' v ls ∧ ls.Perm (tall n A n).prt ∧ ls.Pairwise (fun a b => hd a ≤ hd b) ∧ Below w.heap.size w w' := by
  have hn := hG.sz
  obtain ⟨i0, hi, hz0, hz1, hz2⟩ := info_parts info3
  have W1 : IntKind.i64.wrap ((n : Int) + 1) = ((n + 1 : Nat) : Int) := by rw [IntWalk.i64_in _ (by omega)]; omega
  go_enter Try.func54, Try.ntmps54
  go_wp2_with (at_make; refine wpList_make_full _ rfl _ _ 23 rfl w.heap.size 3 i0 _ 1 Try.underlying23 hi hz0 hz1 _ _ _ _ n rfl rfl rfl rfl (by rw [hz2]; omega) (by unfold maxLen; omega) (by simp; omega) ?_)
  intro w1 hown hgrow
  have H1 := Has.new_ w 66 #[.slice (some ⟨G, 0, none⟩) n n]
  have x1 := al1 w (.cells #[.slice (some ⟨G, 0, none⟩) n n] 66)
  obtain ⟨a1, ha1⟩ : ∃ a, a = w.alloc (.cells #[.slice (some ⟨G, 0, none⟩) n n] 66) := ⟨_, rfl⟩
  have s1 : a1.heap.size = w.heap.size + 1 := by rw [ha1]; simp
  rw [← ha1] at H1 x1 hgrow
  have H2 := Has.new_ a1 3 #[.int .i64 ((n : Int) + 1)]
  have x2 := al1 a1 (.cells #[.int .i64 ((n : Int) + 1)] 3)
  obtain ⟨a2, ha2⟩ : ∃ a, a = a1.alloc (.cells #[.int .i64 ((n : Int) + 1)] 3) := ⟨_, rfl⟩
  have s2 : a2.heap.size = w.heap.size + 1 + 1 := by rw [ha2]; simp [s1]
  rw [← ha2] at H2 x2 hgrow
  have H3 := Has.new_ a2 3 #[.int .i64 0]
  have x3 := al1 a2 (.cells #[.int .i64 0] 3)
  obtain ⟨a3, ha3⟩ : ∃ a, a = a2.alloc (.cells #[.int .i64 0] 3) := ⟨_, rfl⟩
  have s3 : a3.heap.size = w.heap.size + 1 + 1 + 1 := by rw [ha3]; simp [s2]
  rw [← ha3] at H3 x3 hgrow
  have x4 := below_grown (Below.refl _ a3) hgrow (Nat.le_refl _)
  obtain ⟨Fr, hFr⟩ : ∃ Fr, Fr = w.heap.size + 1 + 1 + 1 := ⟨_, rfl⟩
  rw [← hFr] at hown
  have hR := row_zero hown
  have hRs := hR.size_
  have HG1 := ((H1.on x2).on x3).on x4
  have HN1 := (H2.on x3).on x4
  have HV1 := H3.on x4
  rw [s1] at HN1
  rw [s2] at HV1
  have bw1 := belows (belows (belows x1 x2) x3) x4
  -- the variables behind the row
  have y1 := al1 w1 (.cells #[.slice (some ⟨Fr, 0, none⟩) n n] 23)
  have HF1 := Has.new_ w1 23 #[.slice (some ⟨Fr, 0, none⟩) n n]
  obtain ⟨b1, hb1⟩ : ∃ a, a = w1.alloc (.cells #[.slice (some ⟨Fr, 0, none⟩) n n] 23) := ⟨_, rfl⟩
  have t1 : b1.heap.size = w1.heap.size + 1 := by rw [hb1]; simp
  rw [← hb1] at y1 HF1
  have y2 := al1 b1 (.cells #[.slice none 0 0] 23)
  have HS1 := Has.new_ b1 23 #[.slice none 0 0]
  obtain ⟨b2, hb2⟩ : ∃ a, a = b1.alloc (.cells #[.slice none 0 0] 23) := ⟨_, rfl⟩
  have t2 : b2.heap.size = w1.heap.size + 1 + 1 := by rw [hb2]; simp [t1]
  rw [← hb2] at y2 HS1
  have y3 := al1 b2 (.cells #[.slice none 0 0] 48)
  have HP1 := Has.new_ b2 48 #[.slice none 0 0]
  obtain ⟨b3, hb3⟩ : ∃ a, a = b2.alloc (.cells #[.slice none 0 0] 48) := ⟨_, rfl⟩
  have t3 : b3.heap.size = w1.heap.size + 1 + 1 + 1 := by rw [hb3]; simp [t2]
  rw [← hb3] at y3 HP1
  obtain ⟨c, hc⟩ : ∃ c : Tc, c = ⟨w.heap.size + 1 + 1, w1.heap.size + 1, w1.heap.size, w.heap.size, w1.heap.size + 1 + 1 + 1, w.heap.size + 1, w1.heap.size + 1 + 1, Fr, w1.heap.size + 4, G, w.heap.size⟩ := ⟨_, rfl⟩
  have cv : c.vals = #[.pointer (some ⟨w.heap.size + 1 + 1, 0, none⟩), .pointer (some ⟨w1.heap.size + 1, 0, none⟩), .pointer (some ⟨w1.heap.size, 0, none⟩), .pointer (some ⟨w.heap.size, 0, none⟩), .pointer (some ⟨w1.heap.size + 1 + 1 + 1, 0, none⟩), .pointer (some ⟨w.heap.size + 1, 0, none⟩), .pointer (some ⟨w1.heap.size + 1 + 1, 0, none⟩)] := by rw [hc]; rfl
  have y4 := al1 b3 (.cells #[.func (.func 67) #[] #[.pointer (some ⟨w.heap.size + 1 + 1, 0, none⟩), .pointer (some ⟨w1.heap.size + 1, 0, none⟩), .pointer (some ⟨w1.heap.size, 0, none⟩), .pointer (some ⟨w.heap.size, 0, none⟩), .pointer (some ⟨w1.heap.size + 1 + 1 + 1, 0, none⟩), .pointer (some ⟨w.heap.size + 1, 0, none⟩), .pointer (some ⟨w1.heap.size + 1 + 1, 0, none⟩)]] 93)
  have HV4 := Has.new_ b3 93 #[.func (.func 67) #[] #[.pointer (some ⟨w.heap.size + 1 + 1, 0, none⟩), .pointer (some ⟨w1.heap.size + 1, 0, none⟩), .pointer (some ⟨w1.heap.size, 0, none⟩), .pointer (some ⟨w.heap.size, 0, none⟩), .pointer (some ⟨w1.heap.size + 1 + 1 + 1, 0, none⟩), .pointer (some ⟨w.heap.size + 1, 0, none⟩), .pointer (some ⟨w1.heap.size + 1 + 1, 0, none⟩)]]
  obtain ⟨b4, hb4⟩ : ∃ a, a = b3.alloc (.cells #[.func (.func 67) #[] #[.pointer (some ⟨w.heap.size + 1 + 1, 0, none⟩), .pointer (some ⟨w1.heap.size + 1, 0, none⟩), .pointer (some ⟨w1.heap.size, 0, none⟩), .pointer (some ⟨w.heap.size, 0, none⟩), .pointer (some ⟨w1.heap.size + 1 + 1 + 1, 0, none⟩), .pointer (some ⟨w.heap.size + 1, 0, none⟩), .pointer (some ⟨w1.heap.size + 1 + 1, 0, none⟩)]] 93) := ⟨_, rfl⟩
  have t4 : b4.heap.size = w1.heap.size + 4 := by rw [hb4]; simp [t3]
  rw [← hb4] at y4 HV4
  rw [t1] at HS1
  rw [t2] at HP1
  rw [t3] at HV4
  have z24 := belows y3 y4
  have z14 := belows y2 z24
  have z04 := belows y1 z14
  have X : Tx c := by rw [hc]; constructor <;> simp only <;> omega
  have e0 : ((n : Int) + 1) = ((n + 1 : Nat) : Int) := by omega
  rw [e0] at HN1
  have E0 : Te c n w b4 (tall n A 0) (.slice none 0 0) (.slice none 0 0) [] := by
    refine ⟨?_, ?_, ?_, ?_, ⟨World.ownsRow_nil _ _ _ _, ⟨rfl, (fun i u xs h => by cases h), (fun i j u u' b _ h => by cases h), (fun i u b h => by cases h)⟩, World.ownsRow_nil _ _ _ _, (fun i y b h => by cases h), (fun b h => by cases h)⟩, ?_, ?_, ?_, ?_, ?_⟩
    · rw [hc]; exact Has.on HV1 z04
    · rw [hc]; exact Row.on hR z04
    · rw [hc]; exact Has.on HS1 z24
    · rw [hc]; exact Has.on HP1 y4
    · rw [hc]; exact Has.on HF1 z14
    · rw [hc]; exact Has.on HG1 z04
    · rw [cv, show c.VF = w1.heap.size + 1 + 1 + 1 by rw [hc]]; exact HV4
    · rw [hc]; exact Has.on HN1 z04
    · rw [hc]; exact bw1.trans (z04.mono bw1.size)
  have hcB : c.B = w1.heap.size + 4 := by rw [hc]
  have hcD : w.heap.size = c.D := by rw [hc]
  have hcG : c.G = G := by rw [hc]
  have hV := visit_any c n A w X (by rw [hcG]; exact hG) hcD
  have hcs : c.VB = w.heap.size + 1 + 1 ∧ c.SB = w1.heap.size + 1 ∧ c.FP = w1.heap.size ∧ c.GB = w.heap.size ∧ c.VF = w1.heap.size + 1 + 1 + 1 ∧ c.NB = w.heap.size + 1 ∧ c.PB = w1.heap.size + 1 + 1 ∧ c.Fr = Fr := by rw [hc]; exact ⟨rfl, rfl, rfl, rfl, rfl, rfl, rfl, rfl⟩
  have HB4 : Hid (c.B ≤ b4.heap.size) := Lib.hid (by rw [hcB, t4]; exact Nat.le_refl _)
  have cgb := E0.gb.read 0
  rw [hcs.2.2.2.1, hcG] at cgb
  have cg1 := HG1.read 0
  have HE0 := Lib.hid E0
  clear E0
  subst hb4
  subst hb3
  subst hb2
  subst hb1
  rw [← hFr]
  have HCS := Lib.hid (And.intro hcs (And.intro hcB (And.intro hcD hcG)))
  clear hown hgrow H1 H2 H3 x1 x2 x3 x4 ha1 ha2 ha3 s1 s2 s3 hFr hR HG1 HN1 HV1 bw1 y1 y2 y3 y4 t1 t2 t3 t4 HF1 HS1 HP1 HV4 z24 z14 z04 e0 hcB hcD hcG hcs cv hc
  go_wp2
  generalize hWW : (((w1.alloc (.cells #[.slice (some ⟨Fr, 0, none⟩) n n] 23)).alloc (.cells #[.slice none 0 0] 23)).alloc (.cells #[.slice none 0 0] 48)).alloc (.cells #[.func (.func 67) #[] #[.pointer (some ⟨w.heap.size + 1 + 1, 0, none⟩), .pointer (some ⟨w1.heap.size + 1, 0, none⟩), .pointer (some ⟨w1.heap.size, 0, none⟩), .pointer (some ⟨w.heap.size, 0, none⟩), .pointer (some ⟨w1.heap.size + 1 + 1 + 1, 0, none⟩), .pointer (some ⟨w.heap.size + 1, 0, none⟩), .pointer (some ⟨w1.heap.size + 1 + 1, 0, none⟩)]] 93) = b4 at *
  clear hWW cgb cg1 hRs
  obtain ⟨hcs, hcB, hcD, hcG⟩ := HCS.out
  have hF0 := tall_ok (n := n) (A := A) hG.lt
  have hF1 := fun k h => tall_le (n := n) (A := A) hG.lt (k := k) h
  have hVV : ∀ (k : Nat) (s : TS) (W : World), k < n → s.num k = 0 → Tk n s → s.stk.length ≤ s.vis → s.prt.length ≤ s.vis → (∀ x ∈ s.stk, x < n) → Tw c n w W s → c.B ≤ W.heap.size → Calls Try.prog 67 #[.int .i64 k, .pointer (some ⟨w.heap.size + 1 + 1, 0, none⟩), .pointer (some ⟨w1.heap.size + 1, 0, none⟩), .pointer (some ⟨w1.heap.size, 0, none⟩), .pointer (some ⟨w.heap.size, 0, none⟩), .pointer (some ⟨w1.heap.size + 1 + 1 + 1, 0, none⟩), .pointer (some ⟨w.heap.size + 1, 0, none⟩), .pointer (some ⟨w1.heap.size + 1 + 1, 0, none⟩)] W (Tq c n w (tvis n A n k s)) := fun k s W h1 h2 h3 h4 h5 h6 h7 h8 => by
    have := hV n k s W h1 h2 (zc_le _ _) h3 h4 h5 h6 h7 h8
    rw [hcs.1, hcs.2.1, hcs.2.2.1, hcs.2.2.2.1, hcs.2.2.2.2.1, hcs.2.2.2.2.2.1, hcs.2.2.2.2.2.2.1] at this
    exact this
  clear hV hcs hcB hcD hcG
  have HW0 : Hid (Tw c n w b4 (tall n A 0)) := Lib.hid ⟨_, _, _, HE0.out⟩
  have hB4 := HB4.out
  clear HE0 HB4
  go_loopw [19] (fun v wr => ∃ k : Nat, v = .int .i64 k ∧ k ≤ n ∧ Hid (Tw c n w wr (tall n A k)) ∧ c.B ≤ wr.heap.size) (fun v _ => n - (intOf v).toNat)
  case atStart => exact ⟨0, rfl, Nat.zero_le _, HW0, hB4⟩
  case round =>
    clear HW0 hB4
    obtain ⟨k, rfl, hk, HW, hB⟩ := hrel
    obtain ⟨sv, pv, vs, E⟩ := HW.out
    by_cases hlt : k < n
    · have g1 : decide ((k : Int) < (n : Int)) = true := by simp [hlt]
      have W1 : IntKind.i64.wrap ((k : Int) + 1) = ((k + 1 : Nat) : Int) := by rw [IntWalk.i64_in _ (by omega)]; omega
      have q1 : (0 : Int) ≤ (k : Int) := by omega
      have q2 : (k : Int) < (n : Int) := by omega
      have cF := E.fp.read 0
      have cV := E.vf.read 0
      have ck := E.r.read hlt
      have cv : c.vals = #[.pointer (some ⟨w.heap.size + 1 + 1, 0, none⟩), .pointer (some ⟨w1.heap.size + 1, 0, none⟩), .pointer (some ⟨w1.heap.size, 0, none⟩), .pointer (some ⟨w.heap.size, 0, none⟩), .pointer (some ⟨w1.heap.size + 1 + 1 + 1, 0, none⟩), .pointer (some ⟨w.heap.size + 1, 0, none⟩), .pointer (some ⟨w1.heap.size + 1 + 1, 0, none⟩)] := by
        obtain ⟨hcs, -⟩ := HCS.out
        unfold Tc.vals
        rw [hcs.1, hcs.2.1, hcs.2.2.1, hcs.2.2.2.1, hcs.2.2.2.2.1, hcs.2.2.2.2.2.1, hcs.2.2.2.2.2.2.1]
      rw [cv, HCS.out.1.2.2.2.2.1] at cV
      rw [HCS.out.1.2.2.1, HCS.out.1.2.2.2.2.2.2.2] at cF
      rw [HCS.out.1.2.2.2.2.2.2.2] at ck
      by_cases h0 : (tall n A k).num k = 0
      · have e0 : (((tall n A k).num k : Nat) : Int) = 0 := by omega
        rw [e0] at ck
        obtain ⟨m1, m2, m3, m4⟩ := hF1 k (by omega)
        have hC := hVV k (tall n A k) wr hlt h0 (hF0 k (by omega)).1 m1 m2 m4 HW.out hB
        have HNX : Hid (tall n A (k + 1) = (tvis n A n k (tall n A k)).1) := Lib.hid (by rw [tall, if_pos h0])
        clear e0 h0 E cv m1 m2 m3 m4
        go_wp2_with (go_at_call 67; (with_reducible refine hC.mono ?_); rintro e w6 ⟨rfl, hT6, hB6⟩)
        exact ⟨⟨k + 1, rfl, hlt, Lib.hid (by rw [HNX.out]; exact hT6), hB6⟩, by simp [intOf]; omega⟩
      · have HNX : Hid (tall n A (k + 1) = tall n A k) := Lib.hid (by rw [tall, if_neg h0])
        obtain ⟨z, hz⟩ : ∃ z, z = (tall n A k).num k := ⟨_, rfl⟩
        rw [← hz] at ck h0
        have t6 : ((z : Int) == 0) = false := by simp; omega
        clear h0 hz E cv
        go_wp2
        exact ⟨⟨k + 1, rfl, hlt, Lib.hid (by rw [HNX.out]; exact HW.out), hB⟩, by simp [intOf]; omega⟩
    · have g1 : decide ((k : Int) < (n : Int)) = false := by simp; omega
      have e : k = n := by omega
      rw [e] at E
      obtain ⟨m1, m2, m3, m4⟩ := hF1 n (Nat.le_refl _)
      have hC := psort_all c.B pv (tall n A n).prt wr ⟨vs, E.b.o, E.b.i⟩ (tall_ne hG.lt n (Nat.le_refl _)) (by omega)
      have cP := E.hp.read 0
      have hk := E.k
      have hP := E.hp
      have hfar : ∀ q, pv.ownBlock = some q → c.B ≤ q := fun q h => (E.b.o.lt _ h).1
      have hPB := X.b.2.2.2.2.2.2.1
      rw [HCS.out.1.2.2.2.2.2.2.1] at cP
      obtain ⟨pq, pl, pc, rfl⟩ : ∃ q l c, pv = .slice q l c := by
        rcases E.b.o.2 with ⟨rfl, h⟩ | ⟨g, c, cur, rfl, -⟩
        · exact ⟨none, 0, 0, rfl⟩
        · exact ⟨_, _, _, rfl⟩
      have HKK := Lib.hid (And.intro hk (And.intro hP (And.intro hfar hPB)))
      clear e E m1 m2 m3 m4 hk hP hfar hPB
      go_wp2_with (go_at_call 68; (with_reducible refine hC.mono ?_); rintro e w6 ⟨ls, rfl, hN6, hp6, hs6, hg6⟩; have cP6 := (Has.grown_ HKK.out.2.1 hg6 (fun e => by have := HKK.out.2.2.1 _ e.symm; have := HKK.out.2.2.2; omega)).read 0; rw [HCS.out.1.2.2.2.2.2.2.1] at cP6)
      go_ret
      have hD : c.D ≤ c.B := X.d.2.2.2.2
      refine ⟨_, ls, rfl, hN6.mono (by rw [HCS.out.2.2.1]; exact hD), hp6, hs6, ?_⟩
      rw [HCS.out.2.2.1]
      exact HKK.out.1.grown hg6 (by omega) (fun j e => by have := HKK.out.2.2.1 j e; omega)
end Go.Proofs.Yteofbbakegcohaa
