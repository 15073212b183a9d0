/- The reference's Far, other, All. -/
import Derived.Test.YtampfciacjifgaaFd
namespace Go.Proofs.Ytampfciacjifgaa
open Go.ChangeShapes Go.WideShapes Go.ChangeAt Go.RowKit
set_option linter.unusedVariables false
set_option linter.unusedSimpArgs false

theorem Row.below {w w1 : World} {G n : Nat} {f : Nat → Int} (h : Row w G n f) (hb : Below w.heap.size w w1) : Row w1 G n f := Has.on h hb
theorem put_below {w wr : World} {G B : Nat} (h : Below B w wr) (hB : B ≤ G) (i : Nat) (u : Value) : Below B w (wr.setCell ⟨G, i, none⟩ u) := h.trans (((At.refl G wr).put i u).below hB)
set_option maxRecDepth 100000 in
set_option maxHeartbeats 4000000 in
theorem rfar_any (p : Option Addr) (n : Nat) (l : List (Nat × Nat)) (cap : Nat) (u : Value) (xs : List Nat) (S : Nat) (w : World) (hG : Gr w p n l) (hR : Rdl w u xs) (hx : ∀ i ∈ xs, i < l.length) (hxl : xs.length ≤ 4000) (hS : S < n) :
    Calls Try.prog 69 #[.int .i64 n, .slice p l.length cap, u, .int .i64 S] w fun e w' => ∃ g, e = .returned (.slice (some ⟨w.heap.size, 0, none⟩) n n) ∧ Row w' w.heap.size n g ∧ Sp (nbr l n (adj l xs)) minus1 g S ∧ Below w.heap.size w w' := by
  have hn := hG.2.2.1
  have hm := hG.2.1
  have hl : ∀ x ∈ l, x.1 < n ∧ x.2 < n ∧ x.1 ≠ x.2 := hG.2.2.2
  have sy : ∀ u v, nbr l n (adj l xs) u v → nbr l n (adj l xs) v u := fun u v h => nbr_symm hl h
  obtain ⟨q, c, rfl, hq⟩ := hR
  obtain ⟨i0, hi, hz0, hz1, hz2⟩ := info_parts info3
  have HQ := Lib.hid hq
  clear hq
  go_enter Try.func69, Try.ntmps69
  go_wp2_with (at_make; refine wpList_make_full _ rfl _ _ 29 rfl w.heap.size 3 i0 _ 1 Try.underlying29 hi hz0 hz1 _ _ _ _ n rfl rfl rfl rfl (by rw [hz2]; omega) (by unfold maxLen; omega) (by simp) ?_)
  intro w3 hown hgrow
  have hR := row_zero hown
  have b3 := below_grown (Below.refl w.heap.size w) hgrow (by simp)
  have HG := Lib.hid hG
  clear hown hgrow hi hz0 hz1 hz2 hG
  generalize hGe : w.heap.size = G at *
  have hGG : G ≤ G := Nat.le_refl _
  go_wp2
  go_loopw [10] (fun v wr => ∃ k : Nat, v = .int .i64 k ∧ k ≤ n ∧ Hid (Row wr G n fun i => if i < k then -1 else 0) ∧ Below G w wr) (fun v _ => n - (intOf v).toNat)
  case atStart => exact ⟨0, rfl, Nat.zero_le _, Lib.hid (hR.cong fun i _ => by simp), b3⟩
  case round =>
    clear hR b3
    obtain ⟨k, rfl, hk, hR, hB⟩ := hrel
    by_cases hlt : k < n
    · have g1 : decide ((k : Int) < (n : Int)) = true := by simp [hlt]
      have W1 : IntKind.i64.wrap ((k : Int) + 1) = ((k + 1 : Nat) : Int) := by rw [IntWalk.i64_in _ (by omega)]; omega
      have c1 : wr.cell? ⟨G, k, none⟩ = some (.int .i64 (if k < k then -1 else 0)) := hR.out.read hlt
      rw [if_neg (Nat.lt_irrefl k)] at c1
      have F := Has.open_ hR.out k
      have q1 : (0 : Int) ≤ (k : Int) := by omega
      have q2 : (k : Int) < (n : Int) := by omega
      go_wp2
      refine ⟨⟨k + 1, rfl, hlt, Lib.hid ((hR.out.put k (-1)).cong fun i _ => ?_), put_below hB hGG _ _⟩, by simp [intOf]; omega⟩
      unfold upd
      by_cases e : i = k
      · rw [if_pos e, if_pos (by omega)]
      · rw [if_neg e]
        show (if i < k then (-1 : Int) else 0) = _
        by_cases e2 : i < k
        · rw [if_pos e2, if_pos (by omega)]
        · rw [if_neg e2, if_neg (by omega)]
    · have g1 : decide ((k : Int) < (n : Int)) = false := by simp; omega
      have hR1 : Row wr G n minus1 := hR.out.cong fun i hi => by rw [if_pos (by omega)]; rfl
      have c1 : wr.cell? ⟨G, S, none⟩ = some (.int .i64 (-1)) := hR1.read hS
      have F := Has.open_ hR1 S
      have q1 : (0 : Int) ≤ (S : Int) := by omega
      have q2 : (S : Int) < (n : Int) := by omega
      have HR := Lib.hid (hR1.put S 0)
      have hB2 := put_below hB hGG S (.int .i64 0)
      clear hR hR1
      go_wp2
      clear c1 F g1 hlt hk
      show Code.wp _ _ _ _ (wr.setCell ⟨G, S, none⟩ (.int .i64 0))
      generalize wr.setCell ⟨G, S, none⟩ (.int .i64 0) = w5 at *
      go_loopw [11] (fun v wr => ∃ (d : Nat) (g : Nat → Int), v = .int .i64 d ∧ d ≤ n ∧ Hid (Fd (nbr l n (adj l xs)) n S g d) ∧ Hid (Row wr G n g) ∧ Below G w wr) (fun v _ => n - (intOf v).toNat)
      case atStart => exact ⟨0, _, rfl, Nat.zero_le _, Lib.hid (Fd.start hS), HR, hB2⟩
      case round =>
        clear HR hB2 hB
        obtain ⟨d, g, rfl, hd, hF, hR, hB⟩ := hrel
        by_cases hlt : d < n
        · have g1 : decide ((d : Int) < (n : Int)) = true := by simp [hlt]
          have HD := Lib.hid hlt
          go_wp2
          go_loopw [12] (fun v wr => ∃ (k : Nat) (g : Nat → Int), v = .int .i64 k ∧ k ≤ xs.length ∧ Hid (Fk l xs n S g d k) ∧ Hid (Row wr G n g) ∧ Below G w wr) (fun v _ => xs.length - (intOf v).toNat)
          case atStart => exact ⟨0, g, rfl, Nat.zero_le _, Lib.hid hF.out.inner, hR, hB⟩
          case round =>
            clear hF hR hB g1
            obtain ⟨k, g, rfl, hk, hF, hR, hB⟩ := hrel
            by_cases hlt : k < xs.length
            · have g1 : decide ((k : Int) < (xs.length : Int)) = true := by simp [hlt]
              have W1 : IntKind.i64.wrap ((k : Int) + 1) = ((k + 1 : Nat) : Int) := by rw [IntWalk.i64_in _ (by omega)]; omega
              have WD : IntKind.i64.wrap ((d : Int) + 1) = ((d + 1 : Nat) : Int) := by rw [IntWalk.i64_in _ (by omega)]; omega
              have cd : ((d + 1 : Nat) : Int) = (d : Int) + 1 := by omega
              obtain ⟨g2, rfl, cj⟩ := HQ.out k hlt
              have cj := cell_later (hGe ▸ hB) cj
              have hik := hx _ (List.getElem_mem hlt)
              have him : xs[k] ∈ xs := List.getElem_mem hlt
              have hxe : l[xs[k]]? = some l[xs[k]] := List.getElem?_eq_getElem hik
              have hlm := hl _ (List.getElem_mem hik)
              have hnb1 : nbr l n (adj l xs) l[xs[k]].1 l[xs[k]].2 := edg_nbr hl ⟨_, him, hxe⟩
              have hnb2 := sy _ _ hnb1
              obtain ⟨a, rfl, d0, d1, -⟩ := (HG.out.on (hGe ▸ hB)).at hik
              have hnx := fun g (h : Fk l xs n S g d k) p => h.next hlt hxe p
              obtain ⟨i, hie⟩ : ∃ i, i = xs[k] := ⟨_, rfl⟩
              obtain ⟨x1, hx1⟩ : ∃ x, x = l[xs[k]].1 := ⟨_, rfl⟩
              obtain ⟨x2, hx2⟩ : ∃ x, x = l[xs[k]].2 := ⟨_, rfl⟩
              rw [← hx1, ← hx2] at hnb1 hnb2 hlm
              simp only [← hx1, ← hx2] at hnx
              rw [← hx1] at d0
              rw [← hx2] at d1
              rw [← hie] at cj hik
              simp only [← hie] at d0 d1
              have q1 : (0 : Int) ≤ (k : Int) := by omega
              have q2 : (k : Int) < (xs.length : Int) := by omega
              have q3 : (0 : Int) ≤ (i : Int) := by omega
              have q4 : (i : Int) < (l.length : Int) := by omega
              have q5 : (0 : Int) ≤ (x1 : Int) := by omega
              have q6 : (x1 : Int) < (n : Int) := by omega
              have q7 : (0 : Int) ≤ (x2 : Int) := by omega
              have q8 : (x2 : Int) < (n : Int) := by omega
              have HN := Lib.hid hnx
              have HB1 := Lib.hid hnb1
              have HB2 := Lib.hid hnb2
              have HLM := Lib.hid hlm
              clear hnx hnb1 hnb2 hxe him hx1 hx2 hie hlm
              go_wp2_with fail
              go_quiet (fail)
              have hRq := Row.below hR.out (below_drewN (Below.refl _ _) nq)
              have hBq := below_drewN hB nq
              clear hR hB cj d0 d1
              generalize wr.drewN nq = W at *
              have ca := hRq.read HLM.out.1
              have cb := hRq.read HLM.out.2.1
              have Fa := Has.open_ hRq x1
              have Fb := Has.open_ hRq x2
              have ne : x1 ≠ x2 := HLM.out.2.2
              obtain ⟨va, hva⟩ : ∃ v, v = g x1 := ⟨_, rfl⟩
              obtain ⟨vb, hvb⟩ : ∃ v, v = g x2 := ⟨_, rfl⟩
              rw [← hva] at ca
              rw [← hvb] at cb
              have HVA := Lib.hid hva
              have HVB := Lib.hid hvb
              have HRQ := Lib.hid hRq
              clear hva hvb hRq
              by_cases e1 : va = (d : Int) ∧ vb < 0
              · obtain ⟨e1, e2⟩ := e1
                have hF2 := hF.out.put (by rw [← HVA.out, e1]) (by rw [← HVB.out]; exact e2) HB1.out HLM.out.2.1 sy
                have hP : Pd (upd g x2 ((d : Int) + 1)) d x1 x2 := by
                  refine ⟨fun _ => by rw [upd_same]; omega, fun e => ?_⟩
                  rw [upd_same] at e; omega
                have HF2 := Lib.hid (HN.out _ hF2 hP)
                have R1 := HRQ.out.put x2 ((d + 1 : Nat) : Int)
                have cb2 : (W.setCell ⟨G, x2, none⟩ (.int .i64 ((d + 1 : Nat) : Int))).cell? ⟨G, x2, none⟩ = some (.int .i64 ((d + 1 : Nat) : Int)) := by
                  rw [R1.read HLM.out.2.1, upd_same]
                have t1 : (va == (d : Int)) = true := by simp [e1]
                have t2 : decide (vb < 0) = true := decide_eq_true e2
                have t3 : (((d + 1 : Nat) : Int) == (d : Int)) = false := by simp; omega
                have HR1 := Lib.hid (R1.cong fun i _ => by rw [cd])
                have hB1 := put_below hBq hGG x2 (.int .i64 ((d + 1 : Nat) : Int))
                clear R1 hF2 hP hF
                go_wp2
                exact ⟨⟨k + 1, _, rfl, hlt, HF2, HR1, hB1⟩, by simp [intOf]; omega⟩
              · have tt : (va == (d : Int) && decide (vb < 0)) = false := by
                  cases h1 : (va == (d : Int))
                  · rfl
                  · rw [Bool.true_and]
                    exact decide_eq_false fun h2 => e1 ⟨by simpa using h1, h2⟩
                have hcases : ((va == (d : Int)) = false) ∨ ((va == (d : Int)) = true ∧ decide (vb < 0) = false) := by
                  cases h1 : (va == (d : Int))
                  · exact .inl rfl
                  · rw [h1, Bool.true_and] at tt; exact .inr ⟨rfl, tt⟩
                have E1 := Lib.hid e1
                clear tt e1
                by_cases e2 : vb = (d : Int) ∧ va < 0
                · obtain ⟨e2, e3⟩ := e2
                  have hF2 := hF.out.put (by rw [← HVB.out, e2]) (by rw [← HVA.out]; exact e3) HB2.out HLM.out.1 sy
                  have hP : Pd (upd g x1 ((d : Int) + 1)) d x1 x2 := by
                    refine ⟨fun e => ?_, fun _ => by rw [upd_same]; omega⟩
                    rw [upd_same] at e; omega
                  have HF2 := Lib.hid (HN.out _ hF2 hP)
                  have HR1 := Lib.hid ((HRQ.out.put x1 ((d + 1 : Nat) : Int)).cong fun i _ => by rw [cd])
                  have hB1 := put_below hBq hGG x1 (.int .i64 ((d + 1 : Nat) : Int))
                  have t1 : (va == (d : Int)) = false := by simp; omega
                  have t2 : (vb == (d : Int)) = true := by simp [e2]
                  have t3 : decide (va < 0) = true := decide_eq_true e3
                  clear hF2 hP hF hcases
                  go_wp2
                  exact ⟨⟨k + 1, _, rfl, hlt, HF2, HR1, hB1⟩, by simp [intOf]; omega⟩
                · have hP : Pd g d x1 x2 := by
                    refine ⟨fun e => ?_, fun e => ?_⟩
                    · rw [← HVA.out] at e
                      have := E1.out
                      rw [← HVB.out]; omega
                    · rw [← HVB.out] at e
                      rw [← HVA.out]; omega
                  have HF2 := Lib.hid (HN.out _ hF.out hP)
                  have hc2 : ((vb == (d : Int)) = false) ∨ ((vb == (d : Int)) = true ∧ decide (va < 0) = false) := by
                    cases h1 : (vb == (d : Int))
                    · exact .inl rfl
                    · exact .inr ⟨rfl, decide_eq_false fun h2 => e2 ⟨by simpa using h1, h2⟩⟩
                  clear hF hP e2
                  rcases hcases with t1 | ⟨t1, t2⟩ <;> rcases hc2 with t3 | ⟨t3, t4⟩
                  all_goals (
                    go_wp2
                    exact ⟨⟨k + 1, g, rfl, hlt, HF2, HRQ, hBq⟩, by simp [intOf]; omega⟩)
            · have g1 : decide ((k : Int) < (xs.length : Int)) = false := by simp; omega
              have WD : IntKind.i64.wrap ((d : Int) + 1) = ((d + 1 : Nat) : Int) := by rw [IntWalk.i64_in _ (by omega)]; omega
              have HF := Lib.hid (hF.out.out (by omega))
              go_wp2
              exact ⟨⟨d + 1, g, rfl, HD.out, HF, hR, hB⟩, by simp [intOf]; have := HD.out; omega⟩
        · have g1 : decide ((d : Int) < (n : Int)) = false := by simp; omega
          have e : d = n := by omega
          subst e
          go_wp2
          go_ret
          subst hGe
          exact ⟨g, rfl, hR.out, hF.out.sp, hB⟩
end Go.Proofs.Ytampfciacjifgaa
