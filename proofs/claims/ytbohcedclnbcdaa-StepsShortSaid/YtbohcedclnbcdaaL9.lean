/- StepsShort: the walk. -/
import Derived.Test.YtbohcedclnbcdaaL8
namespace Go.Proofs.Ytbohcedclnbcdaa
open Go.ChangeShapes Go.WideShapes Go.ChangeAt Go.RowKit
set_option linter.unusedVariables false
set_option linter.unusedSimpArgs false

set_option maxHeartbeats 8000000 in
set_option maxRecDepth 100000 in
theorem short_b (p : Option Addr) (l : List Stp) (cap : Nat) (x : Int) (w : World) (hS : Sl w p l) (h0 : l.length ≤ 199) (h1 : -1048576 ≤ x) (h2 : x < 1048576) (hv : okS l = true) (hix : ix x l < l.length) (hg : ∀ s, l[ix x l]? = some s → x < s.1) :
    Calls Try.prog 10 #[.slice p l.length cap, .int .i64 x] w fun e w' => e = .returned (.bool true) ∧ Below w.heap.size w w' := by
  have ok := okS_to hv
  have ha := fun W => awake_any W
  have g1 : ¬ (199 : Int) < (l.length : Int) := by omega
  have g2 : ¬ x < -1048576 := by omega
  have g3 : ¬ (1048576 : Int) ≤ x := by omega
  have h14 := fun W h => short_ok p l cap W h hv
  have h13 := fun W h => at_ok p l cap x W h hv
  have hsl : (sht l).length ≤ l.length := shF_sub.length_le
  have g4 : ¬ (l.length : Int) < ((sht l).length : Int) := by omega
  have hsv := okS_of (OkS.sht ok)
  have h16 := fun p' c' W h => valid_any p' (sht l) c' W h
  rw [hsv] at h16
  have h32 := fun c W h hc => idx33 c x p l cap W h (by omega) hc
  have h34 := fun W h => clone_any p l cap W h (by omega)
  have hpx : plc x = true := by rw [plc_iff]; omega
  have hw1 : IntKind.i64.wrap (x + 1) = x + 1 := IntWalk.i64_in _ (by omega)
  have hrg : (rng x (x + 1) && !decide (x = x + 1) && ara 1) = true := by
    rw [rng_lt, hpx, (plc_iff (x + 1)).2 (by omega), decide_eq_true (by omega : x < x + 1)]; rfl
  have ho1 : sht [(x, 1), (x + 1, 0)] = one_ x := rfl
  have hoo : OkS (one_ x) := pul_ok hrg
  have h29 := fun W => pulse_yes2 x (x + 1) 1 W hrg
  rw [ho1] at h29
  have h20 := fun p' q' c' d' W h h' => add_ok p' q' l (one_ x) c' d' W h h' hv (okS_of hoo)
  have HCO := Lib.hid (cmb_codes l (one_ x))
  have HCN := Lib.hid (one_more ok hoo)
  have h18 := fun p' q' c' d' W h h' => eq_same p' q' (sht l) c' d' W h h'
  have h18b := fun p' q' c' d' W h h' => equal_any p' q' (sht l) (cmb o45 l (one_ x)).1 c' d' W h h'
  have HSH0 : Sh 0 (sht l) := shF_sh 0 l
  have hn6 : I64 (va l x) := by have := (ara_iff _).1 (va_ara ok.ar x); unfold I64; omega
  have hR : (if ix x l < l.length then (ix x l : Int) else -1) = (ix x l : Int) := if_pos hix
  rw [hR] at h32
  clear hR
  have HM : Hid (l.take (ix x l) ++ (x, va l x) :: l.drop (ix x l) = mor x l) := Lib.hid rfl
  have hgt : ∀ k : ix x l < l.length, x < l[ix x l].1 := fun k => hg _ (List.getElem?_eq_getElem k)
  have hMo := mor_ok ok h0 hpx hgt
  have hMs := mor_sht ok hgt
  have h14M := fun p' c' W h => short_ok p' (mor x l) c' W h (okS_of hMo)
  rw [hMs] at h14M
  have hM6 := hMo.i64
  have hMl := hMo.len
  generalize mor x l = M at *
  clear hMs hMo hgt
  generalize ix x l = kk at *
  have y0 : ¬ ((kk : Int) < 0) := by omega
  generalize hT : sht l = T at *
  clear hT
  have HSH := Lib.hid (sh_at HSH0)
  clear HSH0
  obtain ⟨U, hU⟩ : ∃ U, U = cmb o45 l (one_ x) := ⟨_, rfl⟩
  rw [← hU] at HCO HCN h20 h18b
  clear hU
  obtain ⟨u, D⟩ := U
  obtain ⟨n, hn⟩ : ∃ n, n = va l x := ⟨_, rfl⟩
  rw [← hn] at h13 hn6 HM
  clear hn hv hoo hpx hrg ho1 hsv
  have hOne : (one_ x).length = 2 := rfl
  simp only [hOne] at h20 h29
  clear hOne
  generalize one_ x = O at *
  have hTm : T.length ≤ 199 := by omega
  go_enter Try.func10, Try.ntmps10
  go_wp2_with (first
    | (go_at_call 11; (with_reducible refine (ha _).mono ?_); rintro e w1 ⟨rfl, hb⟩; have C := cell_later hb ((Has.new_ w 3 #[.int .i64 x]).read 0); have B := belows (al1 w (.cells #[.int .i64 x] 3)) hb; clear hb)
    | (go_at_call 14; (with_reducible refine (h14 _ (hS.on B)).mono ?_); rintro e w2 ⟨p2, c2, rfl, S2, hb⟩; replace C := cell_later hb C; replace B := belows B hb; clear hb)
    | (go_at_call 13; (with_reducible refine (h13 _ (hS.on B)).mono ?_); rintro e w3 ⟨rfl, hb⟩; replace C := cell_later hb C; replace S2 := S2.on hb; replace B := belows B hb; clear hb)
    | (go_at_call 16; (with_reducible refine (h16 p2 c2 _ S2).mono ?_); rintro e w4 ⟨rfl, hb⟩; replace C := cell_later hb C; replace S2 := S2.on hb; replace B := belows B hb; clear hb))
  go_loopw [64] (fun v wr => ∃ k : Nat, v = .int .i64 k ∧ k ≤ T.length ∧ Sl wr p2 T ∧ wr.cell? ⟨w.heap.size, 0, none⟩ = some (.int .i64 x) ∧ Below w.heap.size w wr) (fun v _ => T.length - (intOf v).toNat)
  case atStart => exact ⟨0, rfl, Nat.zero_le _, S2, C, B⟩
  case round =>
    clear S2 C B
    obtain ⟨k, rfl, hk, S2, C, B⟩ := hrel
    by_cases hlt : k < T.length
    · clear h14 h13 h16 h32 h34 h29 h20 h18 h18b ha
      have gg1 : decide ((k : Int) < (T.length : Int)) = true := by simp [hlt]
      have W1 : IntKind.i64.wrap ((k : Int) + 1) = ((k + 1 : Nat) : Int) := by rw [IntWalk.i64_in _ (by omega)]; omega
      have hs := HSH.out k hlt
      obtain ⟨a, rfl, c0, c1⟩ := S2.at hlt
      have bA := al1 wr (.cells #[.int .i64 T[k].1, .int .i64 T[k].2] 34)
      have S3 := S2.on bA
      have C3 := cell_later bA C
      have B3 := belows B bA
      have HN := Has.new_ wr 34 #[.int .i64 T[k].1, .int .i64 T[k].2]
      have n0 := HN.read 0
      have n1 := HN.read 1
      simp only [List.getElem?_toArray, List.getElem?_cons_zero, List.getElem?_cons_succ] at n0 n1
      clear HN
      rcases Nat.eq_zero_or_pos k with hz | hp
      · have hne := hs.1 hz
        clear hs HSH
        generalize T[k].1 = s at *
        generalize T[k].2 = t at *
        subst hz
        have za : a.add 0 = a := by simp [Addr.add]
        rw [Nat.zero_mul, za] at c0 c1
        have z4 : (t == 0) = false := by simp [hne]
        have z5 : decide (t = 0) = false := by simp [hne]
        clear hne
        go_wp2
        try go_region
        try go_wp2
        exact ⟨⟨0 + 1, by simp, hlt, S3, C3, B3.drew⟩, by simp [intOf]; omega⟩
      · have hne := hs.2 hp
        obtain ⟨a', e', d0, d1⟩ := S3.at (show k - 1 < T.length by omega)
        obtain rfl := (Option.some.inj e').symm
        clear hs HSH e'
        have W2 : IntKind.i64.wrap ((k : Int) - 1) = ((k - 1 : Nat) : Int) := by rw [IntWalk.i64_in _ (by omega)]; omega
        have q1 : (0 : Int) ≤ ((k - 1 : Nat) : Int) := by omega
        have q2 : ((k - 1 : Nat) : Int) < (T.length : Int) := by omega
        generalize T[k].1 = s at *
        generalize T[k].2 = t at *
        generalize T[k - 1].1 = s' at *
        generalize T[k - 1].2 = t' at *
        have z1 : ((k : Int) == 0) = false := by simp; omega
        have z2 : decide ((k : Int) = 0) = false := by simp; omega
        have z3 : decide ((0 : Int) < (k : Int)) = true := by simp; omega
        have z4 : (t == t') = false := by simp [hne]
        have z5 : decide (t = t') = false := by simp [hne]
        clear hne
        go_wp2
        try go_region
        try go_wp2
        exact ⟨⟨k + 1, by simp, hlt, S3, C3, B3.drew⟩, by simp [intOf]; omega⟩
    · have gg1 : decide ((k : Int) < (T.length : Int)) = false := by simp; omega
      clear hk HSH
      go_wp2_with (first
        | (go_at_call 32; (with_reducible refine (h32 _ _ (hS.on B) C).mono ?_); rintro e w5 ⟨rfl, hb⟩; replace C := cell_later hb C; replace S2 := S2.on hb; replace B := belows B hb; clear hb)
        | (go_at_call 34; (with_reducible refine (h34 _ (hS.on B)).mono ?_); rintro e w6 ⟨v6, rfl, O6, hb⟩; have C5 := C; have S5 := S2; have B5 := B; replace C := cell_later hb C; replace S2 := S2.on hb; replace B := belows B hb; have hb6 := hb; clear hb; obtain ⟨p6, c6, rfl, S6, hbk⟩ := O6.sl (by unfold maxLen; omega) ok.i64))
      obtain ⟨a, rfl, c0, c1⟩ := (hS.on B).at hix
      have hg2 := hg _ (List.getElem?_eq_getElem hix)
      clear hg
      have y1 : ((kk : Int) == (l.length : Int)) = false := by simp; omega
      have y2 : decide ((kk : Int) = (l.length : Int)) = false := by simp; omega
      have y3 : (0 : Int) ≤ (kk : Int) := by omega
      have y4 : (kk : Int) < (l.length : Int) := by omega
      generalize l[kk].1 = s at *
      generalize l[kk].2 = t at *
      have hlt6 := World.ownsRow.lt O6
      have HN6 := Has.new_ w6 34 #[.int .i64 x, .int .i64 n]
      have b6 := al1 w6 (.cells #[.int .i64 x, .int .i64 n] 34)
      have O6' := O6.on b6
      have hsz : w5.heap.size ≤ (w6.alloc (.cells #[.int .i64 x, .int .i64 n] 34)).heap.size := Nat.le_trans hb6.size b6.size
      have h35 : ∀ W, OwnS w5.heap.size W (.slice p6 l.length c6) l → Has W w6.heap.size 34 #[.int .i64 x, .int .i64 n] → w5.heap.size ≤ W.heap.size →
          Calls Try.prog 35 #[.slice p6 l.length c6, .int .i64 (kk : Nat), .slice (some ⟨w6.heap.size, 0, none⟩) 1 1] W fun e w' => ∃ v', e = .returned v' ∧ OwnS w5.heap.size w' v' M ∧ Below w5.heap.size W w' := fun W i1 i2 i3 => by
        have k := insert_any w5.heap.size (.slice p6 l.length c6) l (kk) w6.heap.size x n W i1 (by omega) i2 (fun e => by have := (hlt6 _ e).2; omega) i3 (by omega)
        rw [HM.out] at k
        exact k
      clear O6 hlt6 hbk HM
      rcases HCO.out with hD | hD | hD
      case inl =>
        obtain rfl : D = 0 := hD
        have hTu : decide (T = u) = false := decide_eq_false (HCN.out rfl)
        try simp only at h18b
        rw [hTu] at h18b
        clear HCO HCN hTu
        go_region
        go_wp2_with (first
          | (go_at_call 35; refine Calls.mono (h35 _ (by exact O6') (by exact HN6) (by exact hsz)) ?_; rintro e w7 ⟨v7, rfl, O7, hb⟩; have bb := (hb6.trans (b6.mono hb6.size)).trans (show Below w5.heap.size (w6.alloc (.cells #[.int .i64 x, .int .i64 n] 34)) w7 from ⟨hb.os, hb.tape, hb.output, hb.size, hb.block⟩); clear hb h35; replace C := cell_later bb C5; replace S2 := S5.on bb; replace B := belows B5 bb; obtain ⟨p7, c7, rfl, S7, hbk⟩ := O7.sl (by unfold maxLen; omega) hM6)
          | (go_at_call 14; (with_reducible refine (h14M p7 c7 _ S7).mono ?_); rintro e w8 ⟨p8, c8, rfl, S8, hb⟩; replace C := cell_later hb C; replace S2 := S2.on hb; replace B := belows B hb; clear hb)
          | (go_at_call 18; (with_reducible refine (h18 p2 p8 c2 c8 _ S2 S8).mono ?_); rintro e w9 ⟨rfl, hb⟩; replace C := cell_later hb C; replace S2 := S2.on hb; replace B := belows B hb; clear hb)
          | (go_at_call 29; (with_reducible refine (h29 _).mono ?_); rintro e w10 ⟨p10, c10, rfl, S10, hb⟩; replace S2 := S2.on hb; replace B := belows B hb; clear hb)
          | (go_at_call 20; (with_reducible refine (h20 _ p10 cap c10 _ (hS.on B) S10).mono ?_); rintro e w11 ⟨p11, c11, rfl, S11, hb⟩; replace S2 := S2.on hb; replace B := belows B hb; clear hb)
          | (go_at_call 18; (with_reducible refine (h18b p2 p11 c2 c11 _ S2 S11).mono ?_); rintro e w12 ⟨rfl, m12, rfl⟩; replace B := below_drewN B m12))
        go_ret
        exact ⟨by simp, B⟩
      all_goals (
        obtain rfl := (show D = _ from hD)
        clear HCO HCN h18b
        go_region
        go_wp2_with (first
          | (go_at_call 35; refine Calls.mono (h35 _ (by exact O6') (by exact HN6) (by exact hsz)) ?_; rintro e w7 ⟨v7, rfl, O7, hb⟩; have bb := (hb6.trans (b6.mono hb6.size)).trans (show Below w5.heap.size (w6.alloc (.cells #[.int .i64 x, .int .i64 n] 34)) w7 from ⟨hb.os, hb.tape, hb.output, hb.size, hb.block⟩); clear hb h35; replace C := cell_later bb C5; replace S2 := S5.on bb; replace B := belows B5 bb; obtain ⟨p7, c7, rfl, S7, hbk⟩ := O7.sl (by unfold maxLen; omega) hM6)
          | (go_at_call 14; (with_reducible refine (h14M p7 c7 _ S7).mono ?_); rintro e w8 ⟨p8, c8, rfl, S8, hb⟩; replace C := cell_later hb C; replace S2 := S2.on hb; replace B := belows B hb; clear hb)
          | (go_at_call 18; (with_reducible refine (h18 p2 p8 c2 c8 _ S2 S8).mono ?_); rintro e w9 ⟨rfl, hb⟩; replace C := cell_later hb C; replace S2 := S2.on hb; replace B := belows B hb; clear hb)
          | (go_at_call 29; (with_reducible refine (h29 _).mono ?_); rintro e w10 ⟨p10, c10, rfl, S10, hb⟩; replace S2 := S2.on hb; replace B := belows B hb; clear hb)
          | (go_at_call 20; (with_reducible refine (h20 _ p10 cap c10 _ (hS.on B) S10).mono ?_); rintro e w11 ⟨p11, c11, rfl, S11, hb⟩; replace S2 := S2.on hb; replace B := belows B hb; clear hb))
        go_ret
        exact ⟨by simp, B⟩)
end Go.Proofs.Ytbohcedclnbcdaa
