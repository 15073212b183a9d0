/- firstPart. -/
import Derived.Test.YtepcokgpepcccaaDoorPk1
namespace Go.Proofs.YtepcokgpepcccaaDoor
open Go.ChangeShapes Go.WideShapes Go.ChangeAt Go.RowKit
set_option linter.unusedVariables false
set_option linter.unusedSimpArgs false

set_option maxRecDepth 100000 in
set_option maxHeartbeats 4000000 in
theorem firstPart_any (N rest c1 c2 : Nat) (a b : Addr) (F : Nat → Int) (M : Nat → Nat) (w : World) (hN : N ≤ 1024) (hr : rest < N) (h0 : rest ≠ 0) (hML : ∀ j, M j ≤ 1024)
    (h1 : ∀ j, j < N → w.cell? (a.add j) = some (.int .i64 (F j))) (h2 : ∀ j, j < N → w.cell? (b.add j) = some (.int .i64 ((M j : Nat) : Int))) :
    Calls Tryd.prog 56 #[.slice (some a) N c1, .slice (some b) N c2, .int .u64 rest] w fun e w' => ∃ p : Nat, e = .returned (.int .u64 p) ∧ IsFirst (cand F M rest) p ∧ p < 1024 ∧ ∃ n, w' = w.drewN n := by
  have hlo := low_any rest (by omega)
  obtain ⟨hls, hl0⟩ := low_sub (by omega) h0
  have hA := bitsAndNot_nat rest (low rest) hls (by omega)
  have hQ : ∀ t, cand F M rest t → Sub t rest ∧ Sub (low rest) t := fun t h => ⟨h.1, h.2.1⟩
  have hC : ∀ t, cand F M rest t ↔ Sub t rest ∧ Sub (low rest) t ∧ F t = 0 ∧ (M (rest - t) : Int) = (M rest : Int) - 1 := fun t => Iff.rfl
  obtain ⟨Q, hQQ⟩ : ∃ Q, Q = cand F M rest := ⟨_, rfl⟩
  rw [← hQQ] at hQ hC ⊢
  obtain ⟨st, hst⟩ : ∃ st, st = low rest := ⟨_, rfl⟩
  rw [← hst] at hlo hA hls hl0 hQ hC
  obtain ⟨ot, hot⟩ : ∃ ot, ot = rest - st := ⟨_, rfl⟩
  have hotl : ot ≤ rest := by omega
  have hstl := hls.le
  have HOT : Hid (ot = rest - st) := Lib.hid hot
  rw [← hot] at hA
  have HQ := Lib.hid hQ
  have HC := Lib.hid hC
  have HLS := Lib.hid hls
  have HL0 := Lib.hid hl0
  have H1 := Lib.hid h1
  have H2 := Lib.hid h2
  have HML := Lib.hid hML
  clear hQ hC hQQ hst hot hls hl0 h1 h2 hML
  go_enter Tryd.func56, Tryd.ntmps56
  go_wp2_with (go_at_call 59; (with_reducible refine (hlo _).mono ?_); rintro e1 w1 ⟨rfl, hw⟩; subst w1)
  go_loopw [9, 10] (fun v9 v10 wr => ∃ bb x : Nat, v9 = .int .u64 bb ∧ v10 = .int .u64 x ∧ bb < 1024 ∧ Hid (Sub x ot) ∧ x < 1024 ∧ Hid (IsFirst (Seen Q st ot (x + 1)) bb) ∧ ∃ n, wr = w.drewN n) (fun _ v _ => (intOf v).toNat)
  case atStart => exact ⟨0, ot, rfl, rfl, by omega, Lib.hid (Sub.refl _), by omega, Lib.hid (seen_start Q st ot), 0, rfl⟩
  case round =>
    obtain ⟨bb, x, rfl, rfl, hbb, hx, hxl, hI, nd, hw⟩ := hrel
    have hor : bits BinOp.or IntKind.u64 (st : Int) (x : Int) = ((st ||| x : Nat) : Int) := bits_or_u64_nat st x (by omega) (by omega)
    have hps : Sub (st ||| x) rest := or_sub HLS.out (by rw [← HOT.out]; exact hx.out)
    have hA2 := bitsAndNot_nat rest (st ||| x) hps (by omega)
    have hpl := hps.le
    have hp0 : st ||| x ≠ 0 := by
      have := (sub_or st x).le
      have := HL0.out
      omega
    have hQp : Hid (Q (st ||| x) ↔ F (st ||| x) = 0 ∧ (M (rest - (st ||| x)) : Int) = (M rest : Int) - 1) := Lib.hid ⟨fun h => ((HC.out _).1 h).2.2, fun h => (HC.out _).2 ⟨hps, sub_or st x, h⟩⟩
    have S1 := fun h : ¬ Q (st ||| x) => seen_skip h hI.out
    have S2 := fun (h : Q (st ||| x)) (e : bb = 0) => seen_take0 hx.out h hp0 (e ▸ hI.out)
    have S3 := fun (h : Q (st ||| x)) (e : Pr (st ||| x) bb) => seen_take hx.out h hp0 e hI.out
    have S4 := fun (h : bb ≠ 0) (e : ¬ Pr (st ||| x) bb) => seen_keep h hbb (by omega) e hI.out
    have S5 := fun (b : Nat) (k : x ≠ 0) (h : IsFirst (Seen Q st ot x) b) => seen_step hx.out k h
    have S6 := fun (b : Nat) (h : IsFirst (Seen Q st ot 0) b) => seen_end (rest := rest) (b := b) HQ.out (by rw [← HOT.out]; exact h)
    have hpr := pr_prec (s := st ||| x) (t := bb) (by omega) hbb
    have hpc := fun w => prec_any (st ||| x) bb (by omega) hbb w
    have hpz : st ||| x < 1024 := by omega
    obtain ⟨p, hp⟩ : ∃ p, p = st ||| x := ⟨_, rfl⟩
    rw [← hp] at hor hps hA2 hpl hp0 hQp S1 S2 S3 S4 hpr hpc hpz
    clear hp hps
    obtain ⟨d, hd⟩ : ∃ d, d = rest - p := ⟨_, rfl⟩
    rw [← hd] at hA2 hQp
    have hdl : d < N := by omega
    have cF : wr.cell? (a.add p) = some (.int .i64 (F p)) := by rw [hw]; exact H1.out p (by omega)
    have cM : wr.cell? (b.add d) = some (.int .i64 ((M d : Nat) : Int)) := by rw [hw]; exact H2.out d hdl
    have cR : wr.cell? (b.add rest) = some (.int .i64 ((M rest : Nat) : Int)) := by rw [hw]; exact H2.out rest hr
    have HW := Lib.hid hw
    clear hw
    have lM := HML.out rest
    obtain ⟨f, hf⟩ : ∃ f, f = F p := ⟨_, rfl⟩
    obtain ⟨m, hm⟩ : ∃ m, m = M d := ⟨_, rfl⟩
    obtain ⟨r, hrr⟩ : ∃ r, r = M rest := ⟨_, rfl⟩
    rw [← hf] at cF hQp
    rw [← hm] at cM hQp
    rw [← hrr] at cR hQp lM
    have W1 : IntKind.i64.wrap ((r : Int) - 1) = (r : Int) - 1 := IntWalk.i64_in _ (by omega)
    clear hd hf hm hrr
    have q1 : (0 : Int) ≤ (p : Int) := by omega
    have q2 : (p : Int) < (N : Int) := by omega
    have q3 : (0 : Int) ≤ (d : Int) := by omega
    have q4 : (d : Int) < (N : Int) := by omega
    have q5 : (0 : Int) ≤ (rest : Int) := by omega
    have q6 : (rest : Int) < (N : Int) := by omega
    have HS2 := Lib.hid S2
    have HS3 := Lib.hid S3
    have HS4 := Lib.hid S4
    have HS5 := Lib.hid S5
    have HS6 := Lib.hid S6
    have HS1 := Lib.hid S1
    have HPR := Lib.hid hpr
    clear S1 S2 S3 S4 S5 S6 hpr
    have X1 : bits BinOp.and IntKind.u64 ((x : Int) - 1) (ot : Int) = (((x - 1) &&& ot : Nat) : Int) ∨ x = 0 := by
      by_cases k : x = 0
      · exact .inr k
      · left
        rw [show (x : Int) - 1 = ((x - 1 : Nat) : Int) from by omega]
        exact bits_and_u64_nat _ _ (by omega) (by omega)
    have X2 : Hid (Sub ((x - 1) &&& ot) ot) := Lib.hid (and_sub _ _)
    have X3 : Hid ((x - 1) &&& ot ≤ x - 1) := Lib.hid Nat.and_le_left
    by_cases c1 : f = 0
    · have g1 : (f == 0) = true := by simp [c1]
      by_cases c2 : (m : Int) = (r : Int) - 1
      · have g2 : ((m : Int) == (r : Int) - 1) = true := by simp [c2]
        have HQ1 : Hid (Q p) := Lib.hid (hQp.out.2 ⟨c1, c2⟩)
        clear c1 c2 hQp
        by_cases c3 : bb = 0
        · have g3 : ((bb : Int) == 0) = true := by simp [c3]
          have B1 := Lib.hid (HS2.out HQ1.out c3)
          clear c3
          go_wp2_with fail
          go_quiet (fail)
          by_cases c0 : x = 0
          · have g0 : ((x : Int) == 0) = true := by simp [c0]
            go_wp2
            go_ret
            exact ⟨p, rfl, HS6.out _ (by rw [← c0]; exact B1.out), by omega, _, by rw [HW.out, World.drewN_drewN]⟩
          · have g0 : ((x : Int) == 0) = false := by simp; omega
            have X1 := X1.resolve_right c0
            have B2 := Lib.hid (HS5.out _ c0 B1.out)
            have X3 := X3.out
            obtain ⟨y, hy⟩ : ∃ y, y = (x - 1) &&& ot := ⟨_, rfl⟩
            rw [← hy] at X1 X2 B2 X3
            clear hy
            go_wp2
            exact ⟨⟨p, y, rfl, rfl, by omega, X2, by omega, B2, _, by rw [HW.out, World.drewN_drewN]⟩, by simp [intOf]; omega⟩
        · have g3 : ((bb : Int) == 0) = false := by simp; omega
          cases c4 : prec p bb
          · rw [c4] at hpc
            have B1 := Lib.hid (HS4.out c3 (fun h => by rw [HPR.out.2 h] at c4; cases c4))
            clear c4
            go_wp2_with fail
            go_quiet (with_reducible exact Calls.quiet_of_same (hpc _))
            by_cases c0 : x = 0
            · have g0 : ((x : Int) == 0) = true := by simp [c0]
              go_wp2
              go_ret
              exact ⟨bb, rfl, HS6.out _ (by rw [← c0]; exact B1.out), by omega, _, by rw [HW.out, World.drewN_drewN]⟩
            · have g0 : ((x : Int) == 0) = false := by simp; omega
              have X1 := X1.resolve_right c0
              have B2 := Lib.hid (HS5.out _ c0 B1.out)
              have X3 := X3.out
              obtain ⟨y, hy⟩ : ∃ y, y = (x - 1) &&& ot := ⟨_, rfl⟩
              rw [← hy] at X1 X2 B2 X3
              clear hy
              go_wp2
              exact ⟨⟨bb, y, rfl, rfl, by omega, X2, by omega, B2, _, by rw [HW.out, World.drewN_drewN]⟩, by simp [intOf]; omega⟩
          · rw [c4] at hpc
            have B1 := Lib.hid (HS3.out HQ1.out (HPR.out.1 c4))
            clear c4
            go_wp2_with fail
            go_quiet (with_reducible exact Calls.quiet_of_same (hpc _))
            by_cases c0 : x = 0
            · have g0 : ((x : Int) == 0) = true := by simp [c0]
              go_wp2
              go_ret
              exact ⟨p, rfl, HS6.out _ (by rw [← c0]; exact B1.out), by omega, _, by rw [HW.out, World.drewN_drewN]⟩
            · have g0 : ((x : Int) == 0) = false := by simp; omega
              have X1 := X1.resolve_right c0
              have B2 := Lib.hid (HS5.out _ c0 B1.out)
              have X3 := X3.out
              obtain ⟨y, hy⟩ : ∃ y, y = (x - 1) &&& ot := ⟨_, rfl⟩
              rw [← hy] at X1 X2 B2 X3
              clear hy
              go_wp2
              exact ⟨⟨p, y, rfl, rfl, by omega, X2, by omega, B2, _, by rw [HW.out, World.drewN_drewN]⟩, by simp [intOf]; omega⟩
      · have g2 : ((m : Int) == (r : Int) - 1) = false := by simp [c2]
        have B1 : Hid (IsFirst (Seen Q st ot x) bb) := Lib.hid (HS1.out (fun h => c2 (hQp.out.1 h).2))
        clear c2 hQp
        go_wp2_with fail
        go_quiet (fail)
        by_cases c0 : x = 0
        · have g0 : ((x : Int) == 0) = true := by simp [c0]
          go_wp2
          go_ret
          exact ⟨bb, rfl, HS6.out _ (by rw [← c0]; exact B1.out), by omega, _, by rw [HW.out, World.drewN_drewN]⟩
        · have g0 : ((x : Int) == 0) = false := by simp; omega
          have X1 := X1.resolve_right c0
          have B2 := Lib.hid (HS5.out _ c0 B1.out)
          have X3 := X3.out
          obtain ⟨y, hy⟩ : ∃ y, y = (x - 1) &&& ot := ⟨_, rfl⟩
          rw [← hy] at X1 X2 B2 X3
          clear hy
          go_wp2
          exact ⟨⟨bb, y, rfl, rfl, by omega, X2, by omega, B2, _, by rw [HW.out, World.drewN_drewN]⟩, by simp [intOf]; omega⟩
    · have g1 : (f == 0) = false := by simp [c1]
      have B1 : Hid (IsFirst (Seen Q st ot x) bb) := Lib.hid (HS1.out (fun h => c1 (hQp.out.1 h).1))
      clear c1 hQp
      go_wp2_with fail
      go_quiet (fail)
      by_cases c0 : x = 0
      · have g0 : ((x : Int) == 0) = true := by simp [c0]
        go_wp2
        go_ret
        exact ⟨bb, rfl, HS6.out _ (by rw [← c0]; exact B1.out), by omega, _, by rw [HW.out, World.drewN_drewN]⟩
      · have g0 : ((x : Int) == 0) = false := by simp; omega
        have X1 := X1.resolve_right c0
        have B2 := Lib.hid (HS5.out _ c0 B1.out)
        have X3 := X3.out
        obtain ⟨y, hy⟩ : ∃ y, y = (x - 1) &&& ot := ⟨_, rfl⟩
        rw [← hy] at X1 X2 B2 X3
        clear hy
        go_wp2
        exact ⟨⟨bb, y, rfl, rfl, by omega, X2, by omega, B2, _, by rw [HW.out, World.drewN_drewN]⟩, by simp [intOf]; omega⟩
end Go.Proofs.YtepcokgpepcccaaDoor
