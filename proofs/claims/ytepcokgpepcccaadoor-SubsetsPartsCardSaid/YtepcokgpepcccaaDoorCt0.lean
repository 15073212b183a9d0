/- The reference's Counts. -/
import Derived.Test.YtepcokgpepcccaaDoorMo0
import Derived.Test.YtepcokgpepcccaaDoorCl0
import Derived.Test.YtepcokgpepcccaaDoorAw1
namespace Go.Proofs.YtepcokgpepcccaaDoor
open Go.ChangeShapes Go.WideShapes Go.ChangeAt Go.RowKit
set_option linter.unusedVariables false
set_option linter.unusedSimpArgs false

theorem bits_and_i64_nat (a b : Nat) (ha : a < 1024) (hb : b < 1024) : bits .and .i64 (a : Int) (b : Int) = ((a &&& b : Nat) : Int) := by
  have hx : a &&& b < 1024 := Nat.lt_of_le_of_lt Nat.and_le_left ha
  have h1 : (BitVec.ofInt 64 (a : Int)).toNat = a := by
    rw [BitVec.ofInt_natCast, BitVec.toNat_ofNat]; exact Nat.mod_eq_of_lt (by omega)
  have h2 : (BitVec.ofInt 64 (b : Int)).toNat = b := by
    rw [BitVec.ofInt_natCast, BitVec.toNat_ofNat]; exact Nat.mod_eq_of_lt (by omega)
  show IntKind.i64.wrap ((BitVec.ofInt 64 (a : Int) &&& BitVec.ofInt 64 (b : Int)).toNat : Int) = _
  rw [BitVec.toNat_and, h1, h2, IntWalk.i64_in _ (by omega)]
theorem lowsI : ∀ s : Nat, s < 1024 → bits BinOp.and IntKind.i64 (s : Int) (-(s : Int)) = low s := by
  have h : chk (fun s => decide (bits BinOp.and IntKind.i64 (s : Int) (-(s : Int)) = low s)) 10 0 = true := by decide +kernel
  intro s hs
  exact of_decide_eq_true (chk_all _ 10 0 h s (Nat.zero_le _) (by omega))
/-- What Counts counts. -/
def cnt (zs : List Int) (s : Nat) : Int := if SF zs s = 0 then (MF zs s : Int) else -1
theorem cnt_yes {zs : List Int} {s : Nat} (h : SF zs s = 0) : cnt zs s = (MF zs s : Int) := if_pos h
theorem cnt_no {zs : List Int} {s : Nat} (h : SF zs s ≠ 0) : cnt zs s = -1 := if_neg h
def goodP (zs : List Int) (s t : Nat) : Prop := Sub t s ∧ t &&& low s ≠ 0 ∧ SF zs t = 0 ∧ SF zs (s - t) = 0
structure Bst (zs : List Int) (s y : Nat) (b : Int) : Prop where
  is : b = -1 ∨ ∃ t, goodP zs s t ∧ b = (MF zs (s - t) : Int) + 1
  all : ∀ t, goodP zs s t → y < t → (MF zs (s - t) : Int) + 1 ≤ b
theorem Bst.start (zs : List Int) (s : Nat) : Bst zs s s (-1) := ⟨.inl rfl, fun t h k => by have := h.1.le; omega⟩
theorem Bst.skip {zs : List Int} {s y : Nat} {b : Int} (h : Bst zs s y b) (hy : Sub y s) (hc : goodP zs s y → (MF zs (s - y) : Int) + 1 ≤ b) : Bst zs s ((y - 1) &&& s) b :=
  ⟨h.is, fun t ht k => by
    by_cases e : t = y
    · subst e; exact hc ht
    · refine h.all t ht ?_
      apply Nat.lt_of_not_le
      intro k2
      have := sub_next s y t ht.1 hy (by omega)
      omega⟩
theorem Bst.take {zs : List Int} {s y : Nat} {b : Int} (h : Bst zs s y b) (hy : goodP zs s y) (hb : b < (MF zs (s - y) : Int) + 1) : Bst zs s ((y - 1) &&& s) ((MF zs (s - y) : Int) + 1) :=
  ⟨.inr ⟨y, hy, rfl⟩, fun t ht k => by
    by_cases e : t = y
    · subst e; omega
    · have := h.all t ht (by
        apply Nat.lt_of_not_le
        intro k2
        have := sub_next s y t ht.1 hy.1 (by omega)
        omega)
      omega⟩
theorem Bst.done {zs : List Int} {s : Nat} {b : Int} (h : Bst zs s 0 b) (hl : zs.length ≤ 10) (hs : s < 2 ^ zs.length) (s0 : s ≠ 0) : b = cnt zs s := by
  have hN : 2 ^ zs.length ≤ 1024 := Nat.pow_le_pow_right (n := 2) (by omega) hl
  have hF := SF_adds zs
  have hM := MF_counts zs hl
  by_cases hz : SF zs s = 0
  · rw [cnt_yes hz]
    obtain ⟨t, t1, t2, t3, t4⟩ := cand_ex hF hM hN hs s0 hz
    have lo := low_sub (s := s) (by omega) s0
    have t0 : t ≠ 0 := fun e => by
      subst e
      have := t2.le
      have := lo.2
      omega
    have hg : goodP zs s t := ⟨t1, by rw [Nat.and_comm, sub_and.1 t2]; exact lo.2, t3, by have := hF.2 s t t1; omega⟩
    have h1 := h.all t hg (by omega)
    rcases h.is with e | ⟨v, hv, e⟩
    · omega
    · have v0 : v ≠ 0 := fun e2 => hv.2.1 (by rw [e2, Nat.zero_and])
      have := (hM s hs).2 _ (.succ hv.1 v0 hv.2.2.1 (hM (s - v) (by omega)).1)
      omega
  · rw [cnt_no hz]
    rcases h.is with e | ⟨v, hv, e⟩
    · exact e
    · have := hF.2 s v hv.1
      have h1 := hv.2.2.1
      have h2 := hv.2.2.2
      omega
def cntL (zs : List Int) (k : Nat) : List Int := (List.range k).map (cnt zs)
theorem cntL_len (zs : List Int) (k : Nat) : (cntL zs k).length = k := by simp [cntL]
theorem cntL_at (zs : List Int) (k j : Nat) (h : j < (cntL zs k).length) : (cntL zs k)[j] = cnt zs j := by simp [cntL]
theorem cntL_next (zs : List Int) (k : Nat) : cntL zs (k + 1) = cntL zs k ++ [cnt zs k] := by simp [cntL, List.range_succ]
theorem cnt_zero (zs : List Int) (hl : zs.length ≤ 10) : cnt zs 0 = 0 := by
  rw [cnt_yes (sm_zero zs _), ((MF_counts zs hl) 0 (Nat.two_pow_pos _)).1.none]; rfl
theorem lit1c (w : World) (x : Int) : Rdz (w.alloc (.cells #[.int .i64 x] 3)) (.slice (some ⟨w.heap.size, 0, none⟩) 1 1) [x] := lit_rd w [x] 3
theorem gbel {B : Nat} {a w w' : World} {row : Option Nat} (h : Below B a w) (hg : w.grownBy w' row) (hr : ∀ j, row = some j → B ≤ j) (hs : B ≤ w.heap.size) : Below B a w' := h.grown hg hs hr
theorem own_lit1 (w : World) (x : Int) : OwnZ w.heap.size (w.alloc (.cells #[.int .i64 x] 3)) (.slice (some ⟨w.heap.size, 0, none⟩) 1 1) [x] :=
  ⟨rfl, .inr ⟨w.heap.size, 1, #[.int .i64 x], rfl, Nat.le_refl _, Has.new_ w 3 _, Nat.le_refl _, by unfold maxLen; omega, by simp, by simp [zv]⟩⟩
set_option maxRecDepth 100000 in
set_option maxHeartbeats 8000000 in
theorem rcounts_any (u : Value) (zs : List Int) (w : World) (hR : Rdz w u zs) (hl : zs.length ≤ 8) (hz : allZ zs = true) :
    Calls Tryd.prog 61 #[u] w fun e w' => ∃ g c, e = .returned (.slice (some ⟨g, 0, none⟩) (2 ^ zs.length) c) ∧ Hid (OwnZ w.heap.size w' (.slice (some ⟨g, 0, none⟩) (2 ^ zs.length) c) (cntL zs (2 ^ zs.length))) ∧ Below w.heap.size w w' := by
  have hN2 : 2 ^ zs.length ≤ 256 := Nat.pow_le_pow_right (n := 2) (by omega) hl
  have hN1 := Nat.two_pow_pos zs.length
  have hcast : (2 : Int) ^ zs.length = ((2 ^ zs.length : Nat) : Int) := by simp
  have hRS := fun s w h hs => rsum_any u zs s w h (by omega) hz hs
  have hSF : ∀ s, sm zs s zs.length = SF zs s := fun s => rfl
  simp only [hSF] at hRS
  have hMl := MF_le zs (by omega : zs.length ≤ 10)
  have hdone := fun s b (h : Bst zs s 0 b) hs s0 => h.done (by omega) hs s0
  obtain ⟨N, hN⟩ : ∃ N, 2 ^ zs.length = N := ⟨_, rfl⟩
  have W0 : wrap64 ((2 : Int) ^ zs.length) = (N : Int) := by rw [hcast, hN]; unfold wrap64; rw [hN] at hN2; omega
  rw [hN] at hN2 hN1 hdone ⊢
  have HD := Lib.hid hdone
  have HML := Lib.hid hMl
  obtain ⟨q, c, rfl, hq⟩ := hR
  have HR : Hid (Rdz w (.slice q zs.length c) zs) := Lib.hid ⟨q, c, rfl, hq⟩
  have hO := own_lit1 w 0
  have hO1 : Hid (OwnZ w.heap.size (w.alloc (.cells #[.int .i64 0] 3)) (.slice (some ⟨w.heap.size, 0, none⟩) 1 1) (cntL zs 1)) := Lib.hid (by
    rw [show cntL zs 1 = [0] from by simp [cntL, cnt_zero zs (by omega)]]; exact hO)
  have b0 := al1 w (.cells #[.int .i64 0] 3)
  clear hq hN hcast hSF hO hdone hMl
  go_enter Tryd.func61, Tryd.ntmps61
  go_wp2
  go_loopw [3, 4] (fun v3 v wr => ∃ (s g cp : Nat), v = .int .i64 s ∧ 1 ≤ s ∧ s ≤ N ∧ v3 = .slice (some ⟨g, 0, none⟩) s cp ∧ Hid (OwnZ w.heap.size wr (.slice (some ⟨g, 0, none⟩) s cp) (cntL zs s)) ∧ Below w.heap.size w wr) (fun _ v _ => N - (intOf v).toNat)
  case atStart => exact ⟨1, _, 1, rfl, Nat.le_refl _, hN1, rfl, hO1, b0⟩
  case round =>
    clear hO1 b0
    obtain ⟨s, g, cp, rfl, hs1, hs, rfl, hO, hB⟩ := hrel
    obtain ⟨WA, rfl⟩ : ∃ W, W = wr := ⟨_, rfl⟩
    by_cases hlt : s < N
    · have gd : decide ((s : Int) < (N : Int)) = true := by simp [hlt]
      have W1 : IntKind.i64.wrap ((s : Int) + 1) = ((s + 1 : Nat) : Int) := by rw [IntWalk.i64_in _ (by omega)]; omega
      have HR1 := Lib.hid (HR.out.on hB)
      have Wn : IntKind.i64.wrap (0 - (s : Int)) = -(s : Int) := by rw [IntWalk.i64_in _ (by omega)]; omega
      have Wn2 : IntKind.i64.wrap (-(s : Int)) = -(s : Int) := by rw [IntWalk.i64_in _ (by omega)]
      have hLo := lowsI s (by omega)
      have hll := low_lt s (by omega)
      obtain ⟨f, hf⟩ : ∃ f, low s = f := ⟨_, rfl⟩
      rw [hf] at hLo hll
      have HF := Lib.hid hf
      clear hf
      go_wp2
      go_loopw [5, 7] (fun v5 v7 wq => ∃ (y : Nat) (b : Int), v7 = .int .i64 y ∧ v5 = .int .i64 b ∧ y ≤ s ∧ Hid (Sub y s) ∧ Hid (Bst zs s y b) ∧ -1 ≤ b ∧ b ≤ 2000 ∧ WA = wq) (fun _ v _ => (intOf v).toNat)
      case atStart => exact ⟨s, -1, rfl, rfl, Nat.le_refl _, Lib.hid (Sub.refl s), Lib.hid (Bst.start zs s), by omega, by omega, rfl⟩
      case round =>
        obtain ⟨y, b, rfl, rfl, hys, hy, hBs, hb1, hb2, hw⟩ := hrel
        subst hw
        by_cases hy0 : 0 < y
        · have gy : decide ((0 : Int) < (y : Int)) = true := by simp [hy0]
          have gy2 : decide (0 < y) = true := by simp [hy0]
          have hAF := bits_and_i64_nat y f (by omega) hll
          have hNX := bits_and_i64_nat (y - 1) s (by omega) (by omega)
          have Wy : IntKind.i64.wrap ((y : Int) - 1) = ((y - 1 : Nat) : Int) := by rw [IntWalk.i64_in _ (by omega)]; omega
          have Wd : IntKind.i64.wrap ((s : Int) - (y : Int)) = ((s - y : Nat) : Int) := by rw [IntWalk.i64_in _ (by omega)]; omega
          have hnl : (y - 1) &&& s ≤ y - 1 := Nat.and_le_left
          have hns := Lib.hid (and_sub (y - 1) s)
          have hsk := Lib.hid (fun h => hBs.out.skip hy.out h)
          have htk := Lib.hid (fun h k => hBs.out.take (y := y) h k)
          have hS := fun w h => hRS y w h (by omega)
          have o5 : OwnZ w.heap.size WA (.slice (some ⟨g, 0, none⟩) (cntL zs s).length cp) (cntL zs s) := by rw [cntL_len]; exact hO.out
          have hdl : s - y < (cntL zs s).length := by rw [cntL_len]; omega
          have cc := o5.at_ hdl
          rw [cntL_at] at cc
          have hgd : Hid (goodP zs s y ↔ (y &&& f ≠ 0 ∧ SF zs y = 0 ∧ SF zs (s - y) = 0)) := Lib.hid (by unfold goodP; rw [HF.out]; exact ⟨fun h => h.2, fun h => ⟨hy.out, h⟩⟩)
          have hm := HML.out (s - y)
          obtain ⟨z, hzz⟩ : ∃ z, y &&& f = z := ⟨_, rfl⟩
          obtain ⟨nx, hnx⟩ : ∃ x, (y - 1) &&& s = x := ⟨_, rfl⟩
          obtain ⟨d, hd⟩ : ∃ d, s - y = d := ⟨_, rfl⟩
          rw [hzz] at hAF hgd
          rw [hnx] at hNX hnl hns hsk htk
          rw [hd] at cc hgd Wd hsk htk hm
          have hds : d < s := by omega
          have hyy : (y : Int) - 1 = ((y - 1 : Nat) : Int) := by omega
          rw [← hyy] at hNX
          have Wy2 : IntKind.i64.wrap ((y : Int) - 1) = (y : Int) - 1 := by rw [IntWalk.i64_in _ (by omega)]
          have Wd2 : IntKind.i64.wrap ((s : Int) - (y : Int)) = (d : Int) := Wd
          have q1 : (0 : Int) ≤ (d : Int) := by omega
          have q2 : (d : Int) < (s : Int) := by omega
          have hdd : (s : Int) - (y : Int) = (d : Int) := by omega
          clear o5 hdl hzz hnx hd hyy Wy
          obtain ⟨sy, hsy⟩ : ∃ v, SF zs y = v := ⟨_, rfl⟩
          rw [hsy] at hS hgd
          by_cases c1 : z = 0
          · have g1 : ((z : Int) != 0) = false := by simp [c1]
            have B3 := Lib.hid (hsk.out fun h => absurd c1 (hgd.out.1 h).1)
            clear c1 hsy
            go_wp2
            exact ⟨⟨nx, b, rfl, rfl, by omega, hns, B3, hb1, hb2, trivial⟩, by simp [intOf]; omega⟩
          · have g1 : ((z : Int) != 0) = true := by simp [c1]
            by_cases c2 : sy = 0
            · have g2 : (sy == 0) = true := by simp [c2]
              by_cases c3 : SF zs d = 0
              · rw [cnt_yes c3] at cc
                have hgood := hgd.out.2 ⟨c1, c2, c3⟩
                obtain ⟨m, hmm⟩ : ∃ m, MF zs d = m := ⟨_, rfl⟩
                rw [hmm] at cc hsk htk hm
                have g3 : decide ((0 : Int) ≤ (m : Int)) = true := by simp
                have W5 : IntKind.i64.wrap ((m : Int) + 1) = (m : Int) + 1 := IntWalk.i64_in _ (by omega)
                by_cases c4 : b < (m : Int) + 1
                · have g4 : decide (b < (m : Int) + 1) = true := by simp [c4]
                  have B3 := Lib.hid (htk.out hgood c4)
                  clear c1 c2 c3 c4 hgood hmm hsy
                  go_wp2_with (go_at_call 48; (with_reducible refine (hS _ HR1.out).mono ?_); rintro e1 w1 ⟨rfl, hw⟩; subst w1)
                  try simp only [W0]
                  go_roundw
                  case rel => exact ⟨nx, (m : Int) + 1, rfl, rfl, by omega, hns, B3, by omega, by omega, trivial⟩
                  case measure => simp [intOf]; omega
                · have g4 : decide (b < (m : Int) + 1) = false := by simp; omega
                  have B3 := Lib.hid (hsk.out fun _ => by omega)
                  clear c1 c2 c3 c4 hgood hmm hsy
                  go_wp2_with (go_at_call 48; (with_reducible refine (hS _ HR1.out).mono ?_); rintro e1 w1 ⟨rfl, hw⟩; subst w1)
                  try simp only [W0]
                  go_roundw
                  case rel => exact ⟨nx, b, rfl, rfl, by omega, hns, B3, hb1, hb2, trivial⟩
                  case measure => simp [intOf]; omega
              · rw [cnt_no c3] at cc
                have B3 := Lib.hid (hsk.out fun h => absurd (hgd.out.1 h).2.2 c3)
                clear c1 c2 c3 hsy
                go_wp2_with (go_at_call 48; (with_reducible refine (hS _ HR1.out).mono ?_); rintro e1 w1 ⟨rfl, hw⟩; subst w1)
                try simp only [W0]
                go_roundw
                case rel => exact ⟨nx, b, rfl, rfl, by omega, hns, B3, hb1, hb2, trivial⟩
                case measure => simp [intOf]; omega
            · have g2 : (sy == 0) = false := by simp [c2]
              have B3 := Lib.hid (hsk.out fun h => absurd (hgd.out.1 h).2.1 c2)
              clear c1 c2 hsy
              go_wp2_with (go_at_call 48; (with_reducible refine (hS _ HR1.out).mono ?_); rintro e1 w1 ⟨rfl, hw⟩; subst w1)
              try simp only [W0]
              go_roundw
              case rel => exact ⟨nx, b, rfl, rfl, by omega, hns, B3, hb1, hb2, trivial⟩
              case measure => simp [intOf]; omega
        · have gy : decide ((0 : Int) < (y : Int)) = false := by simp; omega
          have y0 : y = 0 := by omega
          subst y0
          have eb := HD.out s b hBs.out hlt (by omega)
          have EB := Lib.hid eb
          have o2 := hO.out.on (al1 WA (.cells #[.int .i64 b] 3))
          have l2 := lit1c WA b
          have z2 := (al1 WA (.cells #[.int .i64 b] 3)).size
          have E1 : Hid ((cntL zs s).length + [b].length ≤ 100000) := Lib.hid (by rw [cntL_len, List.length_singleton]; omega)
          clear eb hO
          go_wp2_with (at_builtin; refine wpList_append_rd rfl _ _ rfl rfl rfl o2 l2 (Nat.le_trans hB.size z2) E1.out ?_)
          intro v' w5 o5 g5 _
          have B5 : Below w.heap.size w w5 := gbel (hB.trans ((al1 WA (.cells #[.int .i64 b] 3)).mono hB.size)) g5 (fun j hj => (World.ownsRow.lt o2 j hj).1) (Nat.le_trans hB.size z2)
          rw [EB.out, ← cntL_next] at o5
          obtain ⟨hn, ⟨-, e4⟩ | ⟨g0, cap, cur, e3, -⟩⟩ := id o5
          · rw [cntL_len] at e4; omega
          · rw [cntL_len] at e3
            subst e3
            have O5 := Lib.hid o5
            clear o5 o2 l2 g5 hn
            go_wp2
            exact ⟨⟨s + 1, g0, cap, rfl, by omega, hlt, rfl, O5, B5⟩, by simp [intOf]; omega⟩
    · have gd : decide ((s : Int) < (N : Int)) = false := by simp; omega
      have e : s = N := by omega
      subst e
      go_wp2
      go_ret
      exact ⟨_, _, rfl, hO, hB⟩
end Go.Proofs.YtepcokgpepcccaaDoor
