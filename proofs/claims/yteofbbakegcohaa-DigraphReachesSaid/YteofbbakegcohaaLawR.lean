/- DigraphReaches: the walk. -/
import Derived.Test.YteofbbakegcohaaRz
namespace Go.Proofs.Yteofbbakegcohaa
open Go.ChangeShapes Go.WideShapes Go.ChangeAt Go.RowKit
set_option linter.unusedVariables false
set_option linter.unusedSimpArgs false


set_option maxRecDepth 100000 in
set_option maxHeartbeats 16000000 in
theorem reaches_ok (p : Option Addr) (m : Nat) (k : List (Nat × Nat)) (cap : Nat) (w : World) (hG : Gr w p m k) (hb : lrg m k.length = false) :
    Calls Try.prog 8 #[.int .i64 m, .slice p k.length cap] w fun e w' => e = .returned (.bool true) ∧ Below w.heap.size w w' := by
  have hml : (cast2 k).length ≤ maxLen := hG.1.2.2.1
  have hA := awake_any w
  have hLg := fun W => large_any p (cast2 k) cap m W hml
  rw [cast2_len, hb] at hLg
  have hmm := hG.2.2.1
  have hkl := hG.2.1
  obtain ⟨b0, hbi, hb0, hb1, hb2⟩ := info_parts info4
  have HAJ := Lib.hid (gr_adj hG)
  have HIN := Lib.hid hG.2.2.2
  have HG := Lib.hid hG
  clear hb hml hG
  go_enter Try.func8, Try.ntmps8
  go_wp2_with (first
    | (go_at_call 10; (with_reducible refine hA.mono ?_); rintro e w1 ⟨rfl, b1⟩; have G1 := HG.out.on b1)
    | (go_at_call 11; (with_reducible refine (hLg _).mono ?_); rintro e w2 ⟨rfl, rfl⟩)
    | (go_at_call 15; (with_reducible refine (valid_ok cap G1).mono ?_); rintro e w2 ⟨rfl, b2⟩; have G2 := G1.on b2)
    | (go_at_call 28; (with_reducible refine (parts_ok p m k cap _ G2).mono ?_); rintro e w3 ⟨v3, ls, rfl, N3, P3, b3⟩; have G3 := G2.on b3)
    | (go_at_call 27; (with_reducible refine (loop_code cap G3).mono ?_); rintro e w4 ⟨v4, z, rfl, hz, b4⟩; have G4 := G3.on b4)
    | (go_at_call 40; (with_reducible refine (con41 p k cap m _ G4).mono ?_); rintro e w5 ⟨rfl, b5⟩; have G5 := G4.on b5; have N5 := (N3.on b4).on b5)
    | (at_make; refine wpList_make_full _ rfl _ _ 65 rfl w5.heap.size 4 b0 _ 1 Try.underlying65 hbi hb0 hb1 _ _ _ _ m rfl rfl rfl rfl (by rw [hb2]; omega) (by unfold maxLen; omega) (Nat.le_refl _) ?_))
  intro w6 hown hgrow
  have R6 := rowb_zero hown
  have S6 := R6.size_
  have B6 := below_grown (Below.refl _ w5) hgrow (Nat.le_refl _)
  have HBW := Lib.hid (belows (belows (belows (belows b1 b2) b3) b4) b5)
  have hflag := pso_flag HIN.out HAJ.out P3
  rw [← hz] at hflag
  obtain ⟨hcl, hlt0⟩ := pso_cls HAJ.out P3
  have hfl := flat_len hcl hlt0
  have hls : ls.length ≤ 60 := by have h1 := P3.1.length_eq; have h2 := tall_le HAJ.out (Nat.le_refl m); omega
  have HCL := Lib.hid (And.intro hcl hlt0)
  obtain ⟨sf, hsf⟩ : ∃ sf, sf = slf k := ⟨_, rfl⟩
  rw [← hsf] at hflag ⊢
  have HFLAG := Lib.hid hflag
  have HFL := Lib.hid hfl
  obtain ⟨pq, pc, rfl, kN⟩ := N5.rd
  have KN := Lib.hid kN
  have R6' : Hid (RowB w6 w5.heap.size m (mks (ls.take 0))) := Lib.hid (R6.cong fun x hx => rfl)
  clear hsf hflag hfl hcl hlt0 hz b1 b2 b3 b4 b5 hown hgrow R6 kN N3 N5 G1 G2 G3 G4 P3 hA hLg
  go_wp2
  go_loopw [9, 10, 52] (fun v9 v10 v52 wr => ∃ (j c : Nat) (b : Bool), v9 = .int .i64 (c : Int) ∧ v10 = .bool b ∧ v52 = .int .i64 j ∧ j ≤ ls.length ∧ Hid ((ls.take j).flatten.length = c) ∧ Hid ((sf || (ls.take j).any fun q => decide (1 < q.length)) = b) ∧ Hid (RowB wr w5.heap.size m (mks (ls.take j))) ∧ Below w5.heap.size w5 wr ∧ w5.heap.size < wr.heap.size) (fun _ _ x _ => ls.length - (intOf x).toNat)
  case atStart => exact ⟨0, 0, sf, rfl, rfl, rfl, Nat.zero_le _, Lib.hid rfl, Lib.hid (by simp), R6', B6, S6⟩
  case round =>
    clear R6' B6 S6
    obtain ⟨j, c, b, rfl, rfl, rfl, hj, HC, HB, hR, hB, hSz⟩ := hrel
    by_cases hlt : j < ls.length
    · have g1 : decide ((j : Int) < (ls.length : Int)) = true := by simp [hlt]
      have W1 : IntKind.i64.wrap ((j : Int) + 1) = ((j + 1 : Nat) : Int) := by rw [IntWalk.i64_in _ (by omega)]; omega
      have q1 : (0 : Int) ≤ (j : Int) := by omega
      have q2 : (j : Int) < (ls.length : Int) := by omega
      obtain ⟨gu, u0, rfl, cu, ru⟩ := KN.out j hlt
      have cu := cell_later hB cu
      have HND := Lib.hid (fun i hi => nd_of HAJ.out HCL.out.1 HCL.out.2 hlt (i := i) hi)
      have HMK := Lib.hid (mks_next hlt)
      have hfn := flat_next hlt
      rw [HC.out] at hfn
      have hfm := flat_take_le ls (j + 1)
      rw [HFL.out, hfn] at hfm
      have HAN := Lib.hid (any_next hlt (fun q => decide (1 < q.length)))
      have hq0 : 0 < ls[j].length := List.length_pos_iff.2 (HCL.out.1.p1 _ (List.getElem_mem hlt)).2.2.1
      obtain ⟨q, hq⟩ : ∃ q, q = ls[j] := ⟨_, rfl⟩
      rw [← hq] at ru HND HMK hfn hfm HAN hq0
      clear hq
      have HCn := Lib.hid hfn
      obtain ⟨d, hd1⟩ : ∃ d, decide ((1 : Int) < (q.length : Int)) = d := ⟨_, rfl⟩
      have hd2 : decide (1 < q.length) = d := by
        rw [← hd1]
        by_cases h : 1 < q.length
        · rw [decide_eq_true h, decide_eq_true (by omega)]
        · rw [decide_eq_false h, decide_eq_false (by omega)]
      have s5 : decide ((q.length : Int) = 0) = false := decide_eq_false (by omega)
      have s6 : ((q.length : Int) == 0) = false := beq_eq_false_iff_ne.2 (by omega)
      have s7 : ¬ q = [] := fun e => by rw [e] at hq0; simp at hq0
      have HBn0 : Hid ((sf || (ls.take (j + 1)).any fun q => decide (1 < q.length)) = (b || d)) := Lib.hid (by rw [HAN.out, ← Bool.or_assoc, HB.out, hd2])
      have HRQ := Lib.hid ru
      obtain ⟨pr, cr, rfl, -⟩ := ru
      clear hfn HAN HC HB
      cases b
      · cases d
        · have HBn : Hid ((sf || (ls.take (j + 1)).any fun q => decide (1 < q.length)) = false) := Lib.hid (by rw [HBn0.out]; rfl)
          clear HBn0
          go_wp2
          go_loopw [9, 14, 64] (fun v9 v14 v64 wr => ∃ (i : Nat) (F : Value), v9 = .int .i64 ((c + i : Nat) : Int) ∧ v14 = F ∧ v64 = .int .i64 i ∧ i ≤ q.length ∧ Hid (RowB wr w5.heap.size m (fun x => mks (ls.take j) x || (q.take i).contains x)) ∧ Hid (∃ ys, Own (w5.heap.size + 1) wr F ys ∧ (0 < i → ys = rch (adj k) m (hd q))) ∧ Below w5.heap.size w5 wr ∧ w5.heap.size < wr.heap.size) (fun _ _ x _ => q.length - (intOf x).toNat)
          case atStart => exact ⟨0, _, rfl, rfl, rfl, Nat.zero_le _, Lib.hid (hR.out.cong fun x hx => by simp), Lib.hid ⟨[], World.ownsRow_nil _ _ _ _, fun h => absurd h (Nat.lt_irrefl 0)⟩, hB, hSz⟩
          case round =>
            clear hR hB hSz g1
            obtain ⟨i, F, rfl, rfl, rfl, hi2, hR, HFy, hB, hSz⟩ := hrel
            by_cases hlt2 : i < q.length
            · have g2 : decide ((i : Int) < (q.length : Int)) = true := by simp [hlt2]
              have W2 : IntKind.i64.wrap ((i : Int) + 1) = ((i + 1 : Nat) : Int) := by rw [IntWalk.i64_in _ (by omega)]; omega
              have q3 : (0 : Int) ≤ (i : Int) := by omega
              have q4 : (i : Int) < (q.length : Int) := by omega
              have ru := (HRQ.out.on hB)
              obtain ⟨q0, cx, e0, kr⟩ := ru
              cases e0
              obtain ⟨g, rfl, d0⟩ := kr i hlt2
              have ND := HND.out i hlt2
              have hRn := Lib.hid (row_next hlt2 hR.out)
              obtain ⟨x, hx⟩ : ∃ x, x = q[i] := ⟨_, rfl⟩
              rw [← hx] at d0 ND hRn
              clear hx kr
              have ND := Lib.hid ND
              have hxm := ND.out.lt
              have c1 := hR.out.read hxm
              rw [ND.out.no] at c1
              have f1 := Has.open_ hR.out x
              have q5 : (0 : Int) ≤ (x : Int) := by omega
              have q6 : (x : Int) < (m : Int) := by omega
              have t5 : decide ((x : Int) < 0) = false := decide_eq_false (by omega)
              have t6 : decide ((m : Int) ≤ (x : Int)) = false := decide_eq_false (by omega)
              obtain ⟨ci, hci⟩ : ∃ ci, ci = c + i := ⟨_, rfl⟩
              rw [← hci]
              have W4 : IntKind.i64.wrap ((ci : Int) + 1) = ((ci + 1 : Nat) : Int) := by rw [IntWalk.i64_in _ (by omega)]; omega
              have HCI : Hid (ci + 1 = c + (i + 1)) := Lib.hid (by omega)
              have A1 : At w5.heap.size wr (wr.setCell ⟨w5.heap.size, x, none⟩ (.bool true)) := (At.refl _ _).put _ _
              have hB1 := hB.trans (A1.below (Nat.le_refl _))
              obtain ⟨ys, oF, hys⟩ := HFy.out
              have oF1 := own_at oF A1 (fun e => by have := (oF.lt _ e).1; omega)
              have hS1 : w5.heap.size < (wr.setCell ⟨w5.heap.size, x, none⟩ (.bool true)).heap.size := by rw [A1.size]; exact hSz
              have hC := reach_ok p m k cap x _ (G5.on hB1) hxm
              have G1x := G5.on hB1
              clear A1 hR hB HFy oF hSz hci hxm
              obtain ⟨RL, hRL0⟩ : ∃ RL, RL = rch (adj k) m x := ⟨_, rfl⟩
              rw [← hRL0] at hC
              have hRL : RL.length ≤ 100000 := by rw [hRL0]; have := rch_len (adj k) m x; omega
              have hcs : RL.contains x = true := by rw [hRL0]; exact ND.out.sf
              have HRS : Hid (RL = rch (adj k) m (hd q)) := Lib.hid (by rw [hRL0]; exact ND.out.sm)
              have hRLe := Lib.hid hRL0
              have HRn := hRn
              clear hRL0 hRn
              by_cases i0 : i = 0
              · have t7 : decide (0 < (i : Int)) = false := decide_eq_false (by omega)
                have t8 : ((i : Int) == 0) = true := by simp [i0]
                have t9 : decide ((i : Int) = 0) = true := decide_eq_true (by omega)
                subst i0
                go_wp2_with (first
                  | (go_at_call 35; (with_reducible refine hC.mono ?_); rintro e1 w7 ⟨u, rfl, o7, b7⟩; have G7 := G1x.on b7; have r7 := o7.rd; have kc := contains_any u RL x w7 r7 hRL; rw [hcs] at kc)
                  | (go_at_call 34; (with_reducible refine kc.mono ?_); rintro e1 wz ⟨rfl, rfl⟩))
                have b8 : Below w7.heap.size w7 w7 := Below.refl _ _
                have hB7 := belows hB1 b7
                have hS7 : w5.heap.size < w7.heap.size := Nat.lt_of_lt_of_le hS1 b7.size
                have R7 := Lib.hid (RowB.on HRn.out b7)
                have O7 : Hid (Own (w5.heap.size + 1) w7 u RL) := Lib.hid (Own.mono o7 hS1)
                have G8 := G7.on b8
                have r8 := r7.on b8
                have b58 := belows hB7 b8
                have S8 : w5.heap.size < w7.heap.size := Nat.lt_of_lt_of_le hS7 b8.size
                have R8 := Lib.hid (RowB.on R7.out b8)
                have O8 := Lib.hid (own_on O7.out b8)
                have HR8 := Lib.hid r8
                clear b8 r7 r8 R7 O7 hB7 hS7 G7
                go_loopw [117] (fun v wr => ∃ e : Nat, v = .int .i64 e ∧ e ≤ k.length ∧ Below w7.heap.size w7 wr) (fun v _ => k.length - (intOf v).toNat)
                case atStart => exact ⟨0, rfl, Nat.zero_le _, Below.refl _ _⟩
                case round =>
                  obtain ⟨e, rfl, he, hBx⟩ := hrel
                  by_cases hlt3 : e < k.length
                  · have g3 : decide ((e : Int) < (k.length : Int)) = true := by simp [hlt3]
                    have W3 : IntKind.i64.wrap ((e : Int) + 1) = ((e + 1 : Nat) : Int) := by rw [IntWalk.i64_in _ (by omega)]; omega
                    obtain ⟨ae, rfl, d0, d1, l1, l2⟩ := (G8.on hBx).at hlt3
                    have HED := Lib.hid (ND.out.ed k[e].1 k[e].2 (List.getElem_mem hlt3))
                    obtain ⟨x1, hx1⟩ : ∃ x, x = k[e].1 := ⟨_, rfl⟩
                    obtain ⟨x2, hx2⟩ : ∃ x, x = k[e].2 := ⟨_, rfl⟩
                    rw [← hx1] at d0 HED
                    rw [← hx2] at d1 HED
                    clear hx1 hx2 l1 l2
                    have ax := al1 wr (.cells #[.int .i64 (x1 : Int), .int .i64 (x2 : Int)] 42)
                    have CE := Has.new_ wr 42 #[.int .i64 (x1 : Int), .int .i64 (x2 : Int)]
                    have CE0 := CE.read 0
                    have CE1 := CE.read 1
                    have k1 := contains_any u RL x1 _ ((HR8.out.on hBx).on ax) hRL
                    have k2 := contains_any u RL x2 _ ((HR8.out.on hBx).on ax) hRL
                    have hBy := Lib.hid (belows hBx ax)
                    clear CE hBx ax
                    cases hv : RL.contains x1
                    · rw [hv] at k1
                      clear hv k2
                      go_wp2_with (go_at_call 34; (with_reducible refine k1.mono ?_); rintro e1 wy ⟨rfl, rfl⟩)
                      exact ⟨⟨e + 1, rfl, hlt3, hBy.out⟩, by simp [intOf]; omega⟩
                    · have h2 := HED.out (by rw [← hRLe.out]; exact hv)
                      rw [← hRLe.out] at h2
                      rw [hv] at k1
                      rw [h2] at k2
                      clear hv h2
                      go_wp2_with (go_at_call 34; first | ((with_reducible refine k1.mono ?_); rintro e1 wy ⟨rfl, rfl⟩) | ((with_reducible refine k2.mono ?_); rintro e1 wy ⟨rfl, rfl⟩))
                      exact ⟨⟨e + 1, rfl, hlt3, hBy.out⟩, by simp [intOf]; omega⟩
                  · have g3 : decide ((e : Int) < (k.length : Int)) = false := by simp; omega
                    have O9 := Lib.hid (own_on O8.out hBx)
                    have R9 := Lib.hid (RowB.on R8.out hBx)
                    have S9 : w5.heap.size < wr.heap.size := Nat.lt_of_lt_of_le S8 hBx.size
                    have b59 := Lib.hid (belows b58 hBx)
                    clear hBx b58 O8 R8 HR8 S8
                    go_wp2
                    exact ⟨⟨0 + 1, _, by rw [← HCI.out]; rfl, rfl, rfl, hlt2, R9, Lib.hid ⟨_, O9.out, fun _ => HRS.out⟩, b59.out, S9⟩, by simp [intOf]; omega⟩

              · have t7 : decide (0 < (i : Int)) = true := decide_eq_true (by omega)
                have t8 : ((i : Int) == 0) = false := beq_eq_false_iff_ne.2 (by omega)
                have t9 : decide ((i : Int) = 0) = false := decide_eq_false (by omega)
                have hyy := hys (by omega)
                rw [← HRS.out] at hyy
                rw [hyy] at oF1
                clear hyy hys
                go_wp2_with (first
                  | (go_at_call 35; (with_reducible refine hC.mono ?_); rintro e1 w7 ⟨u, rfl, o7, b7⟩; have G7 := G1x.on b7; have r7 := o7.rd; have kc := contains_any u RL x w7 r7 hRL; rw [hcs] at kc; have rF := Own.rd (own_on oF1 b7))
                  | (go_at_call 34; (with_reducible refine kc.mono ?_); rintro e1 wz ⟨rfl, rfl⟩)
                  | (go_at_call 17; (with_reducible refine (eq_same u _ RL w7 r7 rF hRL).mono ?_); rintro e1 w8 ⟨rfl, b8⟩))
                have hB7 := belows hB1 b7
                have hS7 : w5.heap.size < w7.heap.size := Nat.lt_of_lt_of_le hS1 b7.size
                have R7 := Lib.hid (RowB.on HRn.out b7)
                have O7 := Lib.hid (own_on oF1 b7)
                have G8 := G7.on b8
                have r8 := r7.on b8
                have b58 := belows hB7 b8
                have S8 : w5.heap.size < w8.heap.size := Nat.lt_of_lt_of_le hS7 b8.size
                have R8 := Lib.hid (RowB.on R7.out b8)
                have O8 := Lib.hid (own_on O7.out b8)
                have HR8 := Lib.hid r8
                clear b8 r7 r8 R7 O7 hB7 hS7 G7
                go_loopw [117] (fun v wr => ∃ e : Nat, v = .int .i64 e ∧ e ≤ k.length ∧ Below w8.heap.size w8 wr) (fun v _ => k.length - (intOf v).toNat)
                case atStart => exact ⟨0, rfl, Nat.zero_le _, Below.refl _ _⟩
                case round =>
                  obtain ⟨e, rfl, he, hBx⟩ := hrel
                  by_cases hlt3 : e < k.length
                  · have g3 : decide ((e : Int) < (k.length : Int)) = true := by simp [hlt3]
                    have W3 : IntKind.i64.wrap ((e : Int) + 1) = ((e + 1 : Nat) : Int) := by rw [IntWalk.i64_in _ (by omega)]; omega
                    obtain ⟨ae, rfl, d0, d1, l1, l2⟩ := (G8.on hBx).at hlt3
                    have HED := Lib.hid (ND.out.ed k[e].1 k[e].2 (List.getElem_mem hlt3))
                    obtain ⟨x1, hx1⟩ : ∃ x, x = k[e].1 := ⟨_, rfl⟩
                    obtain ⟨x2, hx2⟩ : ∃ x, x = k[e].2 := ⟨_, rfl⟩
                    rw [← hx1] at d0 HED
                    rw [← hx2] at d1 HED
                    clear hx1 hx2 l1 l2
                    have ax := al1 wr (.cells #[.int .i64 (x1 : Int), .int .i64 (x2 : Int)] 42)
                    have CE := Has.new_ wr 42 #[.int .i64 (x1 : Int), .int .i64 (x2 : Int)]
                    have CE0 := CE.read 0
                    have CE1 := CE.read 1
                    have k1 := contains_any u RL x1 _ ((HR8.out.on hBx).on ax) hRL
                    have k2 := contains_any u RL x2 _ ((HR8.out.on hBx).on ax) hRL
                    have hBy := Lib.hid (belows hBx ax)
                    clear CE hBx ax
                    cases hv : RL.contains x1
                    · rw [hv] at k1
                      clear hv k2
                      go_wp2_with (go_at_call 34; (with_reducible refine k1.mono ?_); rintro e1 wy ⟨rfl, rfl⟩)
                      exact ⟨⟨e + 1, rfl, hlt3, hBy.out⟩, by simp [intOf]; omega⟩
                    · have h2 := HED.out (by rw [← hRLe.out]; exact hv)
                      rw [← hRLe.out] at h2
                      rw [hv] at k1
                      rw [h2] at k2
                      clear hv h2
                      go_wp2_with (go_at_call 34; first | ((with_reducible refine k1.mono ?_); rintro e1 wy ⟨rfl, rfl⟩) | ((with_reducible refine k2.mono ?_); rintro e1 wy ⟨rfl, rfl⟩))
                      exact ⟨⟨e + 1, rfl, hlt3, hBy.out⟩, by simp [intOf]; omega⟩
                  · have g3 : decide ((e : Int) < (k.length : Int)) = false := by simp; omega
                    have O9 := Lib.hid (own_on O8.out hBx)
                    have R9 := Lib.hid (RowB.on R8.out hBx)
                    have S9 : w5.heap.size < wr.heap.size := Nat.lt_of_lt_of_le S8 hBx.size
                    have b59 := Lib.hid (belows b58 hBx)
                    clear hBx b58 O8 R8 HR8 S8
                    go_wp2
                    exact ⟨⟨i + 1, _, by rw [← HCI.out]; rfl, rfl, rfl, hlt2, R9, Lib.hid ⟨_, O9.out, fun _ => HRS.out⟩, b59.out, S9⟩, by simp [intOf]; omega⟩

            · have g2 : decide ((i : Int) < (q.length : Int)) = false := by simp; omega
              have ei : i = q.length := by omega
              subst ei
              have HRo : Hid (RowB wr w5.heap.size m (mks (ls.take (j + 1)))) := Lib.hid (hR.out.cong fun x hx => by rw [HMK.out x, List.take_length])
              clear hR HFy
              go_wp2
              exact ⟨⟨j + 1, c + q.length, _, rfl, rfl, rfl, hlt, HCn, HBn, HRo, hB, hSz⟩, by simp [intOf]; omega⟩

        · have HBn : Hid ((sf || (ls.take (j + 1)).any fun q => decide (1 < q.length)) = true) := Lib.hid (by rw [HBn0.out]; rfl)
          clear HBn0
          go_wp2
          go_loopw [9, 14, 64] (fun v9 v14 v64 wr => ∃ (i : Nat) (F : Value), v9 = .int .i64 ((c + i : Nat) : Int) ∧ v14 = F ∧ v64 = .int .i64 i ∧ i ≤ q.length ∧ Hid (RowB wr w5.heap.size m (fun x => mks (ls.take j) x || (q.take i).contains x)) ∧ Hid (∃ ys, Own (w5.heap.size + 1) wr F ys ∧ (0 < i → ys = rch (adj k) m (hd q))) ∧ Below w5.heap.size w5 wr ∧ w5.heap.size < wr.heap.size) (fun _ _ x _ => q.length - (intOf x).toNat)
          case atStart => exact ⟨0, _, rfl, rfl, rfl, Nat.zero_le _, Lib.hid (hR.out.cong fun x hx => by simp), Lib.hid ⟨[], World.ownsRow_nil _ _ _ _, fun h => absurd h (Nat.lt_irrefl 0)⟩, hB, hSz⟩
          case round =>
            clear hR hB hSz g1
            obtain ⟨i, F, rfl, rfl, rfl, hi2, hR, HFy, hB, hSz⟩ := hrel
            by_cases hlt2 : i < q.length
            · have g2 : decide ((i : Int) < (q.length : Int)) = true := by simp [hlt2]
              have W2 : IntKind.i64.wrap ((i : Int) + 1) = ((i + 1 : Nat) : Int) := by rw [IntWalk.i64_in _ (by omega)]; omega
              have q3 : (0 : Int) ≤ (i : Int) := by omega
              have q4 : (i : Int) < (q.length : Int) := by omega
              have ru := (HRQ.out.on hB)
              obtain ⟨q0, cx, e0, kr⟩ := ru
              cases e0
              obtain ⟨g, rfl, d0⟩ := kr i hlt2
              have ND := HND.out i hlt2
              have hRn := Lib.hid (row_next hlt2 hR.out)
              obtain ⟨x, hx⟩ : ∃ x, x = q[i] := ⟨_, rfl⟩
              rw [← hx] at d0 ND hRn
              clear hx kr
              have ND := Lib.hid ND
              have hxm := ND.out.lt
              have c1 := hR.out.read hxm
              rw [ND.out.no] at c1
              have f1 := Has.open_ hR.out x
              have q5 : (0 : Int) ≤ (x : Int) := by omega
              have q6 : (x : Int) < (m : Int) := by omega
              have t5 : decide ((x : Int) < 0) = false := decide_eq_false (by omega)
              have t6 : decide ((m : Int) ≤ (x : Int)) = false := decide_eq_false (by omega)
              obtain ⟨ci, hci⟩ : ∃ ci, ci = c + i := ⟨_, rfl⟩
              rw [← hci]
              have W4 : IntKind.i64.wrap ((ci : Int) + 1) = ((ci + 1 : Nat) : Int) := by rw [IntWalk.i64_in _ (by omega)]; omega
              have HCI : Hid (ci + 1 = c + (i + 1)) := Lib.hid (by omega)
              have A1 : At w5.heap.size wr (wr.setCell ⟨w5.heap.size, x, none⟩ (.bool true)) := (At.refl _ _).put _ _
              have hB1 := hB.trans (A1.below (Nat.le_refl _))
              obtain ⟨ys, oF, hys⟩ := HFy.out
              have oF1 := own_at oF A1 (fun e => by have := (oF.lt _ e).1; omega)
              have hS1 : w5.heap.size < (wr.setCell ⟨w5.heap.size, x, none⟩ (.bool true)).heap.size := by rw [A1.size]; exact hSz
              have hC := reach_ok p m k cap x _ (G5.on hB1) hxm
              have G1x := G5.on hB1
              clear A1 hR hB HFy oF hSz hci hxm
              obtain ⟨RL, hRL0⟩ : ∃ RL, RL = rch (adj k) m x := ⟨_, rfl⟩
              rw [← hRL0] at hC
              have hRL : RL.length ≤ 100000 := by rw [hRL0]; have := rch_len (adj k) m x; omega
              have hcs : RL.contains x = true := by rw [hRL0]; exact ND.out.sf
              have HRS : Hid (RL = rch (adj k) m (hd q)) := Lib.hid (by rw [hRL0]; exact ND.out.sm)
              have hRLe := Lib.hid hRL0
              have HRn := hRn
              clear hRL0 hRn
              by_cases i0 : i = 0
              · have t7 : decide (0 < (i : Int)) = false := decide_eq_false (by omega)
                have t8 : ((i : Int) == 0) = true := by simp [i0]
                have t9 : decide ((i : Int) = 0) = true := decide_eq_true (by omega)
                subst i0
                go_wp2_with (first
                  | (go_at_call 35; (with_reducible refine hC.mono ?_); rintro e1 w7 ⟨u, rfl, o7, b7⟩; have G7 := G1x.on b7; have r7 := o7.rd; have kc := contains_any u RL x w7 r7 hRL; rw [hcs] at kc)
                  | (go_at_call 34; (with_reducible refine kc.mono ?_); rintro e1 wz ⟨rfl, rfl⟩))
                have b8 : Below w7.heap.size w7 w7 := Below.refl _ _
                have hB7 := belows hB1 b7
                have hS7 : w5.heap.size < w7.heap.size := Nat.lt_of_lt_of_le hS1 b7.size
                have R7 := Lib.hid (RowB.on HRn.out b7)
                have O7 : Hid (Own (w5.heap.size + 1) w7 u RL) := Lib.hid (Own.mono o7 hS1)
                have G8 := G7.on b8
                have r8 := r7.on b8
                have b58 := belows hB7 b8
                have S8 : w5.heap.size < w7.heap.size := Nat.lt_of_lt_of_le hS7 b8.size
                have R8 := Lib.hid (RowB.on R7.out b8)
                have O8 := Lib.hid (own_on O7.out b8)
                have HR8 := Lib.hid r8
                clear b8 r7 r8 R7 O7 hB7 hS7 G7
                go_loopw [117] (fun v wr => ∃ e : Nat, v = .int .i64 e ∧ e ≤ k.length ∧ Below w7.heap.size w7 wr) (fun v _ => k.length - (intOf v).toNat)
                case atStart => exact ⟨0, rfl, Nat.zero_le _, Below.refl _ _⟩
                case round =>
                  obtain ⟨e, rfl, he, hBx⟩ := hrel
                  by_cases hlt3 : e < k.length
                  · have g3 : decide ((e : Int) < (k.length : Int)) = true := by simp [hlt3]
                    have W3 : IntKind.i64.wrap ((e : Int) + 1) = ((e + 1 : Nat) : Int) := by rw [IntWalk.i64_in _ (by omega)]; omega
                    obtain ⟨ae, rfl, d0, d1, l1, l2⟩ := (G8.on hBx).at hlt3
                    have HED := Lib.hid (ND.out.ed k[e].1 k[e].2 (List.getElem_mem hlt3))
                    obtain ⟨x1, hx1⟩ : ∃ x, x = k[e].1 := ⟨_, rfl⟩
                    obtain ⟨x2, hx2⟩ : ∃ x, x = k[e].2 := ⟨_, rfl⟩
                    rw [← hx1] at d0 HED
                    rw [← hx2] at d1 HED
                    clear hx1 hx2 l1 l2
                    have ax := al1 wr (.cells #[.int .i64 (x1 : Int), .int .i64 (x2 : Int)] 42)
                    have CE := Has.new_ wr 42 #[.int .i64 (x1 : Int), .int .i64 (x2 : Int)]
                    have CE0 := CE.read 0
                    have CE1 := CE.read 1
                    have k1 := contains_any u RL x1 _ ((HR8.out.on hBx).on ax) hRL
                    have k2 := contains_any u RL x2 _ ((HR8.out.on hBx).on ax) hRL
                    have hBy := Lib.hid (belows hBx ax)
                    clear CE hBx ax
                    cases hv : RL.contains x1
                    · rw [hv] at k1
                      clear hv k2
                      go_wp2_with (go_at_call 34; (with_reducible refine k1.mono ?_); rintro e1 wy ⟨rfl, rfl⟩)
                      exact ⟨⟨e + 1, rfl, hlt3, hBy.out⟩, by simp [intOf]; omega⟩
                    · have h2 := HED.out (by rw [← hRLe.out]; exact hv)
                      rw [← hRLe.out] at h2
                      rw [hv] at k1
                      rw [h2] at k2
                      clear hv h2
                      go_wp2_with (go_at_call 34; first | ((with_reducible refine k1.mono ?_); rintro e1 wy ⟨rfl, rfl⟩) | ((with_reducible refine k2.mono ?_); rintro e1 wy ⟨rfl, rfl⟩))
                      exact ⟨⟨e + 1, rfl, hlt3, hBy.out⟩, by simp [intOf]; omega⟩
                  · have g3 : decide ((e : Int) < (k.length : Int)) = false := by simp; omega
                    have O9 := Lib.hid (own_on O8.out hBx)
                    have R9 := Lib.hid (RowB.on R8.out hBx)
                    have S9 : w5.heap.size < wr.heap.size := Nat.lt_of_lt_of_le S8 hBx.size
                    have b59 := Lib.hid (belows b58 hBx)
                    clear hBx b58 O8 R8 HR8 S8
                    go_wp2
                    exact ⟨⟨0 + 1, _, by rw [← HCI.out]; rfl, rfl, rfl, hlt2, R9, Lib.hid ⟨_, O9.out, fun _ => HRS.out⟩, b59.out, S9⟩, by simp [intOf]; omega⟩

              · have t7 : decide (0 < (i : Int)) = true := decide_eq_true (by omega)
                have t8 : ((i : Int) == 0) = false := beq_eq_false_iff_ne.2 (by omega)
                have t9 : decide ((i : Int) = 0) = false := decide_eq_false (by omega)
                have hyy := hys (by omega)
                rw [← HRS.out] at hyy
                rw [hyy] at oF1
                clear hyy hys
                go_wp2_with (first
                  | (go_at_call 35; (with_reducible refine hC.mono ?_); rintro e1 w7 ⟨u, rfl, o7, b7⟩; have G7 := G1x.on b7; have r7 := o7.rd; have kc := contains_any u RL x w7 r7 hRL; rw [hcs] at kc; have rF := Own.rd (own_on oF1 b7))
                  | (go_at_call 34; (with_reducible refine kc.mono ?_); rintro e1 wz ⟨rfl, rfl⟩)
                  | (go_at_call 17; (with_reducible refine (eq_same u _ RL w7 r7 rF hRL).mono ?_); rintro e1 w8 ⟨rfl, b8⟩))
                have hB7 := belows hB1 b7
                have hS7 : w5.heap.size < w7.heap.size := Nat.lt_of_lt_of_le hS1 b7.size
                have R7 := Lib.hid (RowB.on HRn.out b7)
                have O7 := Lib.hid (own_on oF1 b7)
                have G8 := G7.on b8
                have r8 := r7.on b8
                have b58 := belows hB7 b8
                have S8 : w5.heap.size < w8.heap.size := Nat.lt_of_lt_of_le hS7 b8.size
                have R8 := Lib.hid (RowB.on R7.out b8)
                have O8 := Lib.hid (own_on O7.out b8)
                have HR8 := Lib.hid r8
                clear b8 r7 r8 R7 O7 hB7 hS7 G7
                go_loopw [117] (fun v wr => ∃ e : Nat, v = .int .i64 e ∧ e ≤ k.length ∧ Below w8.heap.size w8 wr) (fun v _ => k.length - (intOf v).toNat)
                case atStart => exact ⟨0, rfl, Nat.zero_le _, Below.refl _ _⟩
                case round =>
                  obtain ⟨e, rfl, he, hBx⟩ := hrel
                  by_cases hlt3 : e < k.length
                  · have g3 : decide ((e : Int) < (k.length : Int)) = true := by simp [hlt3]
                    have W3 : IntKind.i64.wrap ((e : Int) + 1) = ((e + 1 : Nat) : Int) := by rw [IntWalk.i64_in _ (by omega)]; omega
                    obtain ⟨ae, rfl, d0, d1, l1, l2⟩ := (G8.on hBx).at hlt3
                    have HED := Lib.hid (ND.out.ed k[e].1 k[e].2 (List.getElem_mem hlt3))
                    obtain ⟨x1, hx1⟩ : ∃ x, x = k[e].1 := ⟨_, rfl⟩
                    obtain ⟨x2, hx2⟩ : ∃ x, x = k[e].2 := ⟨_, rfl⟩
                    rw [← hx1] at d0 HED
                    rw [← hx2] at d1 HED
                    clear hx1 hx2 l1 l2
                    have ax := al1 wr (.cells #[.int .i64 (x1 : Int), .int .i64 (x2 : Int)] 42)
                    have CE := Has.new_ wr 42 #[.int .i64 (x1 : Int), .int .i64 (x2 : Int)]
                    have CE0 := CE.read 0
                    have CE1 := CE.read 1
                    have k1 := contains_any u RL x1 _ ((HR8.out.on hBx).on ax) hRL
                    have k2 := contains_any u RL x2 _ ((HR8.out.on hBx).on ax) hRL
                    have hBy := Lib.hid (belows hBx ax)
                    clear CE hBx ax
                    cases hv : RL.contains x1
                    · rw [hv] at k1
                      clear hv k2
                      go_wp2_with (go_at_call 34; (with_reducible refine k1.mono ?_); rintro e1 wy ⟨rfl, rfl⟩)
                      exact ⟨⟨e + 1, rfl, hlt3, hBy.out⟩, by simp [intOf]; omega⟩
                    · have h2 := HED.out (by rw [← hRLe.out]; exact hv)
                      rw [← hRLe.out] at h2
                      rw [hv] at k1
                      rw [h2] at k2
                      clear hv h2
                      go_wp2_with (go_at_call 34; first | ((with_reducible refine k1.mono ?_); rintro e1 wy ⟨rfl, rfl⟩) | ((with_reducible refine k2.mono ?_); rintro e1 wy ⟨rfl, rfl⟩))
                      exact ⟨⟨e + 1, rfl, hlt3, hBy.out⟩, by simp [intOf]; omega⟩
                  · have g3 : decide ((e : Int) < (k.length : Int)) = false := by simp; omega
                    have O9 := Lib.hid (own_on O8.out hBx)
                    have R9 := Lib.hid (RowB.on R8.out hBx)
                    have S9 : w5.heap.size < wr.heap.size := Nat.lt_of_lt_of_le S8 hBx.size
                    have b59 := Lib.hid (belows b58 hBx)
                    clear hBx b58 O8 R8 HR8 S8
                    go_wp2
                    exact ⟨⟨i + 1, _, by rw [← HCI.out]; rfl, rfl, rfl, hlt2, R9, Lib.hid ⟨_, O9.out, fun _ => HRS.out⟩, b59.out, S9⟩, by simp [intOf]; omega⟩

            · have g2 : decide ((i : Int) < (q.length : Int)) = false := by simp; omega
              have ei : i = q.length := by omega
              subst ei
              have HRo : Hid (RowB wr w5.heap.size m (mks (ls.take (j + 1)))) := Lib.hid (hR.out.cong fun x hx => by rw [HMK.out x, List.take_length])
              clear hR HFy
              go_wp2
              exact ⟨⟨j + 1, c + q.length, _, rfl, rfl, rfl, hlt, HCn, HBn, HRo, hB, hSz⟩, by simp [intOf]; omega⟩

      · have HBn : Hid ((sf || (ls.take (j + 1)).any fun q => decide (1 < q.length)) = true) := Lib.hid (by rw [HBn0.out]; rfl)
        clear HBn0
        go_wp2
        go_loopw [9, 14, 64] (fun v9 v14 v64 wr => ∃ (i : Nat) (F : Value), v9 = .int .i64 ((c + i : Nat) : Int) ∧ v14 = F ∧ v64 = .int .i64 i ∧ i ≤ q.length ∧ Hid (RowB wr w5.heap.size m (fun x => mks (ls.take j) x || (q.take i).contains x)) ∧ Hid (∃ ys, Own (w5.heap.size + 1) wr F ys ∧ (0 < i → ys = rch (adj k) m (hd q))) ∧ Below w5.heap.size w5 wr ∧ w5.heap.size < wr.heap.size) (fun _ _ x _ => q.length - (intOf x).toNat)
        case atStart => exact ⟨0, _, rfl, rfl, rfl, Nat.zero_le _, Lib.hid (hR.out.cong fun x hx => by simp), Lib.hid ⟨[], World.ownsRow_nil _ _ _ _, fun h => absurd h (Nat.lt_irrefl 0)⟩, hB, hSz⟩
        case round =>
          clear hR hB hSz g1
          obtain ⟨i, F, rfl, rfl, rfl, hi2, hR, HFy, hB, hSz⟩ := hrel
          by_cases hlt2 : i < q.length
          · have g2 : decide ((i : Int) < (q.length : Int)) = true := by simp [hlt2]
            have W2 : IntKind.i64.wrap ((i : Int) + 1) = ((i + 1 : Nat) : Int) := by rw [IntWalk.i64_in _ (by omega)]; omega
            have q3 : (0 : Int) ≤ (i : Int) := by omega
            have q4 : (i : Int) < (q.length : Int) := by omega
            have ru := (HRQ.out.on hB)
            obtain ⟨q0, cx, e0, kr⟩ := ru
            cases e0
            obtain ⟨g, rfl, d0⟩ := kr i hlt2
            have ND := HND.out i hlt2
            have hRn := Lib.hid (row_next hlt2 hR.out)
            obtain ⟨x, hx⟩ : ∃ x, x = q[i] := ⟨_, rfl⟩
            rw [← hx] at d0 ND hRn
            clear hx kr
            have ND := Lib.hid ND
            have hxm := ND.out.lt
            have c1 := hR.out.read hxm
            rw [ND.out.no] at c1
            have f1 := Has.open_ hR.out x
            have q5 : (0 : Int) ≤ (x : Int) := by omega
            have q6 : (x : Int) < (m : Int) := by omega
            have t5 : decide ((x : Int) < 0) = false := decide_eq_false (by omega)
            have t6 : decide ((m : Int) ≤ (x : Int)) = false := decide_eq_false (by omega)
            obtain ⟨ci, hci⟩ : ∃ ci, ci = c + i := ⟨_, rfl⟩
            rw [← hci]
            have W4 : IntKind.i64.wrap ((ci : Int) + 1) = ((ci + 1 : Nat) : Int) := by rw [IntWalk.i64_in _ (by omega)]; omega
            have HCI : Hid (ci + 1 = c + (i + 1)) := Lib.hid (by omega)
            have A1 : At w5.heap.size wr (wr.setCell ⟨w5.heap.size, x, none⟩ (.bool true)) := (At.refl _ _).put _ _
            have hB1 := hB.trans (A1.below (Nat.le_refl _))
            obtain ⟨ys, oF, hys⟩ := HFy.out
            have oF1 := own_at oF A1 (fun e => by have := (oF.lt _ e).1; omega)
            have hS1 : w5.heap.size < (wr.setCell ⟨w5.heap.size, x, none⟩ (.bool true)).heap.size := by rw [A1.size]; exact hSz
            have hC := reach_ok p m k cap x _ (G5.on hB1) hxm
            have G1x := G5.on hB1
            clear A1 hR hB HFy oF hSz hci hxm
            obtain ⟨RL, hRL0⟩ : ∃ RL, RL = rch (adj k) m x := ⟨_, rfl⟩
            rw [← hRL0] at hC
            have hRL : RL.length ≤ 100000 := by rw [hRL0]; have := rch_len (adj k) m x; omega
            have hcs : RL.contains x = true := by rw [hRL0]; exact ND.out.sf
            have HRS : Hid (RL = rch (adj k) m (hd q)) := Lib.hid (by rw [hRL0]; exact ND.out.sm)
            have hRLe := Lib.hid hRL0
            have HRn := hRn
            clear hRL0 hRn
            by_cases i0 : i = 0
            · have t7 : decide (0 < (i : Int)) = false := decide_eq_false (by omega)
              have t8 : ((i : Int) == 0) = true := by simp [i0]
              have t9 : decide ((i : Int) = 0) = true := decide_eq_true (by omega)
              subst i0
              go_wp2_with (first
                | (go_at_call 35; (with_reducible refine hC.mono ?_); rintro e1 w7 ⟨u, rfl, o7, b7⟩; have G7 := G1x.on b7; have r7 := o7.rd; have kc := contains_any u RL x w7 r7 hRL; rw [hcs] at kc)
                | (go_at_call 34; (with_reducible refine kc.mono ?_); rintro e1 wz ⟨rfl, rfl⟩))
              have b8 : Below w7.heap.size w7 w7 := Below.refl _ _
              have hB7 := belows hB1 b7
              have hS7 : w5.heap.size < w7.heap.size := Nat.lt_of_lt_of_le hS1 b7.size
              have R7 := Lib.hid (RowB.on HRn.out b7)
              have O7 : Hid (Own (w5.heap.size + 1) w7 u RL) := Lib.hid (Own.mono o7 hS1)
              have G8 := G7.on b8
              have r8 := r7.on b8
              have b58 := belows hB7 b8
              have S8 : w5.heap.size < w7.heap.size := Nat.lt_of_lt_of_le hS7 b8.size
              have R8 := Lib.hid (RowB.on R7.out b8)
              have O8 := Lib.hid (own_on O7.out b8)
              have HR8 := Lib.hid r8
              clear b8 r7 r8 R7 O7 hB7 hS7 G7
              go_loopw [117] (fun v wr => ∃ e : Nat, v = .int .i64 e ∧ e ≤ k.length ∧ Below w7.heap.size w7 wr) (fun v _ => k.length - (intOf v).toNat)
              case atStart => exact ⟨0, rfl, Nat.zero_le _, Below.refl _ _⟩
              case round =>
                obtain ⟨e, rfl, he, hBx⟩ := hrel
                by_cases hlt3 : e < k.length
                · have g3 : decide ((e : Int) < (k.length : Int)) = true := by simp [hlt3]
                  have W3 : IntKind.i64.wrap ((e : Int) + 1) = ((e + 1 : Nat) : Int) := by rw [IntWalk.i64_in _ (by omega)]; omega
                  obtain ⟨ae, rfl, d0, d1, l1, l2⟩ := (G8.on hBx).at hlt3
                  have HED := Lib.hid (ND.out.ed k[e].1 k[e].2 (List.getElem_mem hlt3))
                  obtain ⟨x1, hx1⟩ : ∃ x, x = k[e].1 := ⟨_, rfl⟩
                  obtain ⟨x2, hx2⟩ : ∃ x, x = k[e].2 := ⟨_, rfl⟩
                  rw [← hx1] at d0 HED
                  rw [← hx2] at d1 HED
                  clear hx1 hx2 l1 l2
                  have ax := al1 wr (.cells #[.int .i64 (x1 : Int), .int .i64 (x2 : Int)] 42)
                  have CE := Has.new_ wr 42 #[.int .i64 (x1 : Int), .int .i64 (x2 : Int)]
                  have CE0 := CE.read 0
                  have CE1 := CE.read 1
                  have k1 := contains_any u RL x1 _ ((HR8.out.on hBx).on ax) hRL
                  have k2 := contains_any u RL x2 _ ((HR8.out.on hBx).on ax) hRL
                  have hBy := Lib.hid (belows hBx ax)
                  clear CE hBx ax
                  cases hv : RL.contains x1
                  · rw [hv] at k1
                    clear hv k2
                    go_wp2_with (go_at_call 34; (with_reducible refine k1.mono ?_); rintro e1 wy ⟨rfl, rfl⟩)
                    exact ⟨⟨e + 1, rfl, hlt3, hBy.out⟩, by simp [intOf]; omega⟩
                  · have h2 := HED.out (by rw [← hRLe.out]; exact hv)
                    rw [← hRLe.out] at h2
                    rw [hv] at k1
                    rw [h2] at k2
                    clear hv h2
                    go_wp2_with (go_at_call 34; first | ((with_reducible refine k1.mono ?_); rintro e1 wy ⟨rfl, rfl⟩) | ((with_reducible refine k2.mono ?_); rintro e1 wy ⟨rfl, rfl⟩))
                    exact ⟨⟨e + 1, rfl, hlt3, hBy.out⟩, by simp [intOf]; omega⟩
                · have g3 : decide ((e : Int) < (k.length : Int)) = false := by simp; omega
                  have O9 := Lib.hid (own_on O8.out hBx)
                  have R9 := Lib.hid (RowB.on R8.out hBx)
                  have S9 : w5.heap.size < wr.heap.size := Nat.lt_of_lt_of_le S8 hBx.size
                  have b59 := Lib.hid (belows b58 hBx)
                  clear hBx b58 O8 R8 HR8 S8
                  go_wp2
                  exact ⟨⟨0 + 1, _, by rw [← HCI.out]; rfl, rfl, rfl, hlt2, R9, Lib.hid ⟨_, O9.out, fun _ => HRS.out⟩, b59.out, S9⟩, by simp [intOf]; omega⟩

            · have t7 : decide (0 < (i : Int)) = true := decide_eq_true (by omega)
              have t8 : ((i : Int) == 0) = false := beq_eq_false_iff_ne.2 (by omega)
              have t9 : decide ((i : Int) = 0) = false := decide_eq_false (by omega)
              have hyy := hys (by omega)
              rw [← HRS.out] at hyy
              rw [hyy] at oF1
              clear hyy hys
              go_wp2_with (first
                | (go_at_call 35; (with_reducible refine hC.mono ?_); rintro e1 w7 ⟨u, rfl, o7, b7⟩; have G7 := G1x.on b7; have r7 := o7.rd; have kc := contains_any u RL x w7 r7 hRL; rw [hcs] at kc; have rF := Own.rd (own_on oF1 b7))
                | (go_at_call 34; (with_reducible refine kc.mono ?_); rintro e1 wz ⟨rfl, rfl⟩)
                | (go_at_call 17; (with_reducible refine (eq_same u _ RL w7 r7 rF hRL).mono ?_); rintro e1 w8 ⟨rfl, b8⟩))
              have hB7 := belows hB1 b7
              have hS7 : w5.heap.size < w7.heap.size := Nat.lt_of_lt_of_le hS1 b7.size
              have R7 := Lib.hid (RowB.on HRn.out b7)
              have O7 := Lib.hid (own_on oF1 b7)
              have G8 := G7.on b8
              have r8 := r7.on b8
              have b58 := belows hB7 b8
              have S8 : w5.heap.size < w8.heap.size := Nat.lt_of_lt_of_le hS7 b8.size
              have R8 := Lib.hid (RowB.on R7.out b8)
              have O8 := Lib.hid (own_on O7.out b8)
              have HR8 := Lib.hid r8
              clear b8 r7 r8 R7 O7 hB7 hS7 G7
              go_loopw [117] (fun v wr => ∃ e : Nat, v = .int .i64 e ∧ e ≤ k.length ∧ Below w8.heap.size w8 wr) (fun v _ => k.length - (intOf v).toNat)
              case atStart => exact ⟨0, rfl, Nat.zero_le _, Below.refl _ _⟩
              case round =>
                obtain ⟨e, rfl, he, hBx⟩ := hrel
                by_cases hlt3 : e < k.length
                · have g3 : decide ((e : Int) < (k.length : Int)) = true := by simp [hlt3]
                  have W3 : IntKind.i64.wrap ((e : Int) + 1) = ((e + 1 : Nat) : Int) := by rw [IntWalk.i64_in _ (by omega)]; omega
                  obtain ⟨ae, rfl, d0, d1, l1, l2⟩ := (G8.on hBx).at hlt3
                  have HED := Lib.hid (ND.out.ed k[e].1 k[e].2 (List.getElem_mem hlt3))
                  obtain ⟨x1, hx1⟩ : ∃ x, x = k[e].1 := ⟨_, rfl⟩
                  obtain ⟨x2, hx2⟩ : ∃ x, x = k[e].2 := ⟨_, rfl⟩
                  rw [← hx1] at d0 HED
                  rw [← hx2] at d1 HED
                  clear hx1 hx2 l1 l2
                  have ax := al1 wr (.cells #[.int .i64 (x1 : Int), .int .i64 (x2 : Int)] 42)
                  have CE := Has.new_ wr 42 #[.int .i64 (x1 : Int), .int .i64 (x2 : Int)]
                  have CE0 := CE.read 0
                  have CE1 := CE.read 1
                  have k1 := contains_any u RL x1 _ ((HR8.out.on hBx).on ax) hRL
                  have k2 := contains_any u RL x2 _ ((HR8.out.on hBx).on ax) hRL
                  have hBy := Lib.hid (belows hBx ax)
                  clear CE hBx ax
                  cases hv : RL.contains x1
                  · rw [hv] at k1
                    clear hv k2
                    go_wp2_with (go_at_call 34; (with_reducible refine k1.mono ?_); rintro e1 wy ⟨rfl, rfl⟩)
                    exact ⟨⟨e + 1, rfl, hlt3, hBy.out⟩, by simp [intOf]; omega⟩
                  · have h2 := HED.out (by rw [← hRLe.out]; exact hv)
                    rw [← hRLe.out] at h2
                    rw [hv] at k1
                    rw [h2] at k2
                    clear hv h2
                    go_wp2_with (go_at_call 34; first | ((with_reducible refine k1.mono ?_); rintro e1 wy ⟨rfl, rfl⟩) | ((with_reducible refine k2.mono ?_); rintro e1 wy ⟨rfl, rfl⟩))
                    exact ⟨⟨e + 1, rfl, hlt3, hBy.out⟩, by simp [intOf]; omega⟩
                · have g3 : decide ((e : Int) < (k.length : Int)) = false := by simp; omega
                  have O9 := Lib.hid (own_on O8.out hBx)
                  have R9 := Lib.hid (RowB.on R8.out hBx)
                  have S9 : w5.heap.size < wr.heap.size := Nat.lt_of_lt_of_le S8 hBx.size
                  have b59 := Lib.hid (belows b58 hBx)
                  clear hBx b58 O8 R8 HR8 S8
                  go_wp2
                  exact ⟨⟨i + 1, _, by rw [← HCI.out]; rfl, rfl, rfl, hlt2, R9, Lib.hid ⟨_, O9.out, fun _ => HRS.out⟩, b59.out, S9⟩, by simp [intOf]; omega⟩

          · have g2 : decide ((i : Int) < (q.length : Int)) = false := by simp; omega
            have ei : i = q.length := by omega
            subst ei
            have HRo : Hid (RowB wr w5.heap.size m (mks (ls.take (j + 1)))) := Lib.hid (hR.out.cong fun x hx => by rw [HMK.out x, List.take_length])
            clear hR HFy
            go_wp2
            exact ⟨⟨j + 1, c + q.length, _, rfl, rfl, rfl, hlt, HCn, HBn, HRo, hB, hSz⟩, by simp [intOf]; omega⟩

    · have g1 : decide ((j : Int) < (ls.length : Int)) = false := by simp; omega
      have ej : j = ls.length := by omega
      have hC := HC.out
      rw [ej, List.take_length, HFL.out] at hC
      have hBf := HB.out
      rw [ej, List.take_length, HFLAG.out] at hBf
      have W1 : IntKind.i64.wrap ((j : Int) + 1) = ((j + 1 : Nat) : Int) := by rw [IntWalk.i64_in _ (by omega)]; omega
      clear ej
      subst hC
      have HB2 := Lib.hid hB
      obtain ⟨Y, hY⟩ : ∃ Y, Y = decide (z = 0) := ⟨_, rfl⟩
      rw [← hY] at hBf
      subst hBf
      have hY2 := hY.symm
      clear hB hR HC HB hY
      cases Y
      all_goals (
        go_wp2
        go_ret
        exact ⟨by first | rfl | (simp; first | exact of_decide_eq_true hY2 | exact of_decide_eq_false hY2), belows HBW.out HB2.out⟩)
end Go.Proofs.Yteofbbakegcohaa
