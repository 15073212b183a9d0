/- BendLonger. -/
import Derived.Test.YthphgppgdlimeaaLo
import Derived.Deep.CutBlock
namespace Go.Proofs.Ythphgppgdlimeaa
open Go.ChangeShapes Go.WideShapes Go.ChangeAt Go.RowKit
set_option linter.unusedVariables false
set_option linter.unusedSimpArgs false

set_option maxHeartbeats 8000000 in
set_option maxRecDepth 100000 in
theorem longer_not (b : Bar) (k u : Int) (w : World) (hk : b.Ok w) (hr : rightB b = false) : Calls Try.prog 8 #[b.val, .int .u8 k, .int .u16 u] w fun e w' => e = .returned (.bool true) ∧ Below w.heap.size w w' := by
  have h10 := fun W => awake_any W
  have h29 := fun W (h : Below w.heap.size w W) => right_any b W (hk.on h)
  have E := (Env.nil w).add w.heap.size 32 b.cs rfl
  have hcs : b.cs = #[.string b.mark, .int .i64 b.size, .int .i64 b.count, .int .i64 b.code, .slice b.p b.ds.length b.cap] := rfl
  have hvv : b.val = .agg b.cs := rfl
  rw [hcs] at E hvv
  rw [hr] at h29
  rw [hvv] at h29 ⊢
  clear hr hk hcs hvv
  have C := E.cells
  simp [BC, CF] at C
  go_enter Try.func8, Try.ntmps8
  go_wp2_with (first
    | (go_at_call 10; (with_reducible refine (h10 _).mono ?_); rintro X wq ⟨rfl, hb⟩; replace E := E.on hb; replace C := E.cells; simp [BC, CF] at C; clear hb)
    | (go_at_call 29; (with_reducible refine (h29 _ (envb E)).mono ?_); rintro X wq ⟨rfl, hb⟩; replace E := E.on hb; replace C := E.cells; simp [BC, CF] at C; clear hb))
  go_ret
  exact ⟨rfl, envb E⟩
set_option maxHeartbeats 16000000 in
set_option maxRecDepth 100000 in
theorem longer_right (b : Bar) (k u : Int) (w : World) (hk : b.Ok w) (hk1 : 0 ≤ k ∧ k ≤ 255) (hu : 0 ≤ u ∧ u ≤ 65535) (hr : rightB b = true) : Calls Try.prog 8 #[b.val, .int .u8 k, .int .u16 u] w fun e w' => e = .returned (.bool true) ∧ Below w.heap.size w w' := by
  have hv : barB b = true := by
    unfold rightB at hr
    simp only [Bool.and_eq_true] at hr
    exact hr.2
  have h10 := fun W => awake_any W
  have h29 := fun W (h : Below w.heap.size w W) => right_any b W (hk.on h)
  obtain ⟨hC, hnd, hfit, -⟩ := barB_and hv
  have hd5 := ndim_le b.code
  have hd0 : 0 < b.ds.length := by
    have := (ndim_zero (c := b.code))
    rcases Nat.eq_zero_or_pos b.ds.length with h0 | h0
    · exfalso
      rw [hnd] at h0
      rw [this.1 h0] at hC; cases hC
    · exact h0
  have h34 := fun W (h : Below w.heap.size w W) => zclone_any b.p b.ds b.cap W (hk.rd.on h) (by omega)
  have E := (Env.nil w).add w.heap.size 32 b.cs rfl
  have hcs : b.cs = #[.string b.mark, .int .i64 b.size, .int .i64 b.count, .int .i64 b.code, .slice b.p b.ds.length b.cap] := rfl
  have hvv : b.val = .agg b.cs := rfl
  rw [hcs] at E hvv
  rw [hr] at h29
  rw [hvv] at h29
  rw [hvv]
  obtain ⟨i, hi⟩ : ∃ i : Nat, k.tmod (b.ds.length : Int) = (i : Int) ∧ i < b.ds.length := by
    have h1 : 0 ≤ k.tmod (b.ds.length : Int) := Int.tmod_nonneg _ hk1.1
    have h2 : k.tmod (b.ds.length : Int) < (b.ds.length : Int) := Int.tmod_lt_of_pos k (by omega)
    refine ⟨(k.tmod (b.ds.length : Int)).toNat, (Int.toNat_of_nonneg h1).symm, ?_⟩
    have h3 := Int.toNat_of_nonneg h1
    generalize (k.tmod (b.ds.length : Int)).toNat = z at *
    rw [← h3] at h2
    exact Int.ofNat_lt.1 h2
  have Wm : k.tmod (b.ds.length : Int) = (i : Int) := hi.1
  have z0 : ¬ (b.ds.length : Int) = 0 := by omega
  have z1 : ¬ b.ds.length = 0 := by omega
  have z2 : ((b.ds.length : Int) == 0) = false := beq_eq_false_iff_ne.2 z0
  have z3 : ¬ b.ds = [] := fun e => by rw [e] at hd0; exact absurd hd0 (by simp)
  have Wk : IntKind.i64.wrap k = k := IntWalk.i64_in _ (by omega)
  have Wu : IntKind.i64.wrap u = u := IntWalk.i64_in _ (by omega)
  have q1 : (0 : Int) ≤ (i : Int) := by omega
  have q2 : (i : Int) < (b.ds.length : Int) := by omega
  have hdi : 1 ≤ b.ds[i]'hi.2 ∧ b.ds[i]'hi.2 ≤ 262144 := fitB_mem _ _ hfit (by omega) _ (List.getElem_mem hi.2)
  have hgd : b.ds.getD i 0 = b.ds[i]'hi.2 := by rw [List.getD_eq_getElem?_getD, List.getElem?_eq_getElem hi.2]; rfl
  obtain ⟨Z, hZ⟩ : ∃ Z, Hid (b.ds.getD i 0 = Z) := ⟨_, Lib.hid rfl⟩
  have Wi : IntKind.i64.wrap (Z + u) = Z + u := by rw [← hZ.out, hgd]; exact IntWalk.i64_in _ (by omega)
  have HK := Lib.hid hk
  have HV := Lib.hid hv
  have HI := Lib.hid hi
  have HD := Lib.hid hd0
  have HN := Lib.hid (show b.ds.length ≤ 5 by omega)
  have HG : Hid (∃ h : i < b.ds.length, b.ds.getD i 0 = b.ds[i]'h) := Lib.hid ⟨hi.2, hgd⟩
  have HVV := Lib.hid hvv
  clear hr hk hcs hvv hv hi hd0 hgd hC hnd hfit hd5 hdi
  have C := E.cells
  simp [BC, CF] at C
  go_enter Try.func8, Try.ntmps8
  go_upto_region 7 with (first
    | (go_at_call 10; (with_reducible refine (h10 _).mono ?_); rintro X wq ⟨rfl, hb⟩; replace E := E.on hb; replace C := E.cells; simp [BC, CF] at C; clear hb)
    | (go_at_call 29; (with_reducible refine (h29 _ (envb E)).mono ?_); rintro X w2 ⟨rfl, hb⟩; replace E := E.on hb; replace C := E.cells; simp [BC, CF] at C; clear hb))
  replace E := E.add w2.heap.size 32 #[.string b.mark, .int .i64 b.size, .int .i64 b.count, .int .i64 b.code, .slice b.p b.ds.length b.cap] rfl
  obtain ⟨gc, hgc⟩ : ∃ g, Hid (w2.heap.size = g) := ⟨_, Lib.hid rfl⟩
  rw [hgc.out] at E ⊢
  have hws : (w2.alloc (.cells #[.string b.mark, .int .i64 b.size, .int .i64 b.count, .int .i64 b.code, .slice b.p b.ds.length b.cap] 32)).heap.size = gc + 1 := by simp [hgc.out]
  generalize (w2.alloc (.cells #[.string b.mark, .int .i64 b.size, .int .i64 b.count, .int .i64 b.code, .slice b.p b.ds.length b.cap] 32)) = w3 at *
  replace C := E.cells
  simp [BC, CF] at C
  have HW := Lib.hid hws
  clear hws
  go_upto_region 8 with (go_at_call 34; (with_reducible refine (h34 _ (envb E)).mono ?_); rintro X w8 ⟨v2, rfl, hI, hb⟩; replace E := E.on hb; obtain ⟨g, cap, rfl, hg1, hg2⟩ := hI.fn rfl HD.out; replace C := E.cells; simp [BC, CF] at C; clear hb)
  rw [HW.out] at hg1
  replace E := E.put 0 4 (.slice (some ⟨g, 0, none⟩) b.ds.length cap) rfl
  simp only [numB] at E
  replace hI := hI.at (at_put w8 gc 4 (.slice (some ⟨g, 0, none⟩) b.ds.length cap)) (by rw [HW.out]; omega)
  generalize (w8.setCell ⟨gc, 4, none⟩ (.slice (some ⟨g, 0, none⟩) b.ds.length cap)) = w9 at *
  replace E : Env w w9 [⟨gc, 32, #[.string b.mark, .int .i64 b.size, .int .i64 b.count, .int .i64 b.code, .slice (some ⟨g, 0, none⟩) b.ds.length cap]⟩, ⟨w.heap.size, 32, #[.string b.mark, .int .i64 b.size, .int .i64 b.count, .int .i64 b.code, .slice b.p b.ds.length b.cap]⟩] := E
  replace C := E.cells
  simp [BC, CF] at C
  have hci := hI.cell HI.out.2
  have d1 : w9.cell? ⟨g, i, none⟩ = some (.int .i64 Z) := by
    obtain ⟨h, e⟩ := HG.out
    rw [← hZ.out, e]; exact hci.1
  have d2 := hci.2
  have hg0 : g < w9.heap.size := by
    have h0 := World.ownsRow.lt hI g rfl
    exact h0.2
  clear hci
  go_upto_region 9 with fail
  replace E : Env w (w9.setCell ⟨g, i, none⟩ (.int .i64 (Z + u))) [⟨gc, 32, #[.string b.mark, .int .i64 b.size, .int .i64 b.count, .int .i64 b.code, .slice (some ⟨g, 0, none⟩) b.ds.length cap]⟩, ⟨w.heap.size, 32, #[.string b.mark, .int .i64 b.size, .int .i64 b.count, .int .i64 b.code, .slice b.p b.ds.length b.cap]⟩] :=
    ⟨E.1.setCell (by have h0 : w.heap.size ≤ gc := E.2.1; dsimp only; omega) _, E.2.far _ (by have h0 : w.heap.size ≤ gc := E.2.1; simp; omega)⟩
  have hI2 := row_set hI rfl i (Z + u)
  generalize (w9.setCell ⟨g, i, none⟩ (.int .i64 (Z + u))) = w10 at *
  replace C := E.cells
  simp [BC, CF] at C
  clear d1 d2 hI
  rw [← hZ.out] at hI2
  have hkc : (lgB b g cap i u).Ok w10 := ⟨HK.out.nm, by show (b.ds.set i _).length ≤ _; rw [List.length_set]; exact HK.out.ln, by
    have h0 := hI2.rdz
    have e : (lgB b g cap i u).sv = .slice (some ⟨g, 0, none⟩) b.ds.length cap := by
      unfold Bar.sv lgB
      dsimp only
      rw [List.length_set]
    rw [e]; exact h0⟩
  clear hI2
  have B9 := Below.refl w10.heap.size w10
  have hcv : (lgB b g cap i u).val = .agg #[.string b.mark, .int .i64 b.size, .int .i64 b.count, .int .i64 b.code, .slice (some ⟨g, 0, none⟩) b.ds.length cap] := by
    unfold Bar.val Bar.cs lgB
    dsimp only
    rw [List.length_set]
  have h35 := fun W (h : Below w10.heap.size w10 W) => Valid_any (lgB b g cap i u) W (hkc.on h)
  cases hcb : barB (lgB b g cap i u)
  · rw [hcb] at h35
    rw [hcv] at h35
    go_wp2_with (go_at_call 35; (with_reducible refine (h35 _ B9).mono ?_); rintro X wq ⟨rfl, hb⟩; replace E := E.on hb)
    go_ret
    exact ⟨rfl, envb E⟩
  · have h30 := fun W (h : Below w.heap.size w W) => Legs_ok b W (HK.out.on h) HV.out
    have h18 := fun W (h : Below w.heap.size w W) => Dev_ok b W (HK.out.on h) HV.out
    have h26 := fun W (h : Below w.heap.size w W) => Check_len b W (HK.out.on h) HV.out
    have h30c := fun W (h : Below w10.heap.size w10 W) => Legs_ok (lgB b g cap i u) W (hkc.on h) hcb
    have h18c := fun W (h : Below w10.heap.size w10 W) => Dev_ok (lgB b g cap i u) W (hkc.on h) hcb
    have h26c := fun W (h : Below w10.heap.size w10 W) => Check_len (lgB b g cap i u) W (hkc.on h) hcb
    have h32 : ∀ v W, Rdz W v (legs b) → Calls Try.prog 32 #[v] W fun e w' => e = .returned (.int .i64 (legs b).sum) ∧ W = w' := fun v W h => total_any v (legs b) W h (by rw [legs_len]; have := nl_le (barB_and HV.out).1; omega) (legs_tot HV.out)
    have h32c : ∀ v W, Rdz W v (legs (lgB b g cap i u)) → Calls Try.prog 32 #[v] W fun e w' => e = .returned (.int .i64 (legs (lgB b g cap i u)).sum) ∧ W = w' := fun v W h => total_any v _ W h (by rw [legs_len]; have := nl_le (barB_and hcb).1; omega) (legs_tot hcb)
    have s1 := legs_lg HV.out g cap hu.1 HI.out.2
    have s2 := legs_sum HV.out
    have s3 := legs_sum hcb
    have s4 := (pt_sum HV.out _ (Nat.le_refl _)).2
    rw [List.take_of_length_le (by rw [legs_len]; omega)] at s4
    have s5 := dev_lg b g cap i u
    have s6 := dev_bd HV.out
    have s7 := dev_bd hcb
    have s8 := chk_lg b g cap hu.1 HI.out.2
    have en : nl (lgB b g cap i u).code = nl b.code := rfl
    have em : mc (lgB b g cap i u).code = mc b.code := rfl
    rw [en, em] at h30c
    rw [hcb] at h35
    rw [hcv] at h35 h30c h18c h26c
    rw [HVV.out] at h30 h18 h26
    unfold two at *
    clear en em hcv hcb hkc
    generalize (chk (lgB b g cap i u)).length = n2 at *
    generalize (chk b).length = n1 at *
    generalize devL (lgB b g cap i u) = x2 at *
    generalize devH (lgB b g cap i u) = y2 at *
    generalize devL b = x1 at *
    generalize devH b = y1 at *
    generalize legs (lgB b g cap i u) = LT at *
    generalize legs b = LS at *
    generalize nl b.code = n at *
    generalize mc b.code = m at *
    have W1 : IntKind.i64.wrap (LT.sum - LS.sum) = LT.sum - LS.sum := IntWalk.i64_in _ (by omega)
    have W2 : IntKind.i64.wrap (1000 * (LT.sum - LS.sum)) = 1000 * (LT.sum - LS.sum) := IntWalk.i64_in _ (by omega)
    have W3 : IntKind.i64.wrap (1000 * u) = 1000 * u := IntWalk.i64_in _ (by omega)
    have W4 : IntKind.i64.wrap (x2 - x1) = 1000 * (LT.sum - LS.sum) := by rw [IntWalk.i64_in _ (by omega)]; omega
    have W5 : IntKind.i64.wrap (y2 - y1) = 1000 * (LT.sum - LS.sum) := by rw [IntWalk.i64_in _ (by omega)]; omega
    have t1 : decide (1000 * (LT.sum - LS.sum) ≥ 1000 * u) = true := by simp; omega
    have t2 : decide (1000 * u ≤ 1000 * (LT.sum - LS.sum)) = true := by simp; omega
    have t5 : decide (u ≤ LT.sum - LS.sum) = true := by simp; omega
    have t6 : ¬ (LT.sum - LS.sum < u) := by omega
    have t7 : u ≤ LT.sum - LS.sum := by omega
    have t3 : decide ((n2 : Int) ≤ (n1 : Int)) = true := by simp; omega
    have t4 : decide (n2 ≤ n1) = true := by simp; omega
    clear s1 s2 s3 s4 s5 s6 s7 s8
    generalize LT.sum = T2 at *
    generalize LS.sum = T1 at *
    go_wp2_with (first
      | (go_at_call 35; (with_reducible refine (h35 _ B9).mono ?_); rintro X wq ⟨rfl, hb⟩; replace B9 := belows B9 hb; replace E := E.on hb; replace C := E.cells; simp [BC, CF] at C; clear hb)
      | (go_at_call 30; first
      | ((with_reducible refine (h30 _ (envb E)).mono ?_); rintro X wq ⟨gL, rfl, hR, hb⟩; replace B9 := belows B9 hb; replace E := E.on hb; replace C := E.cells; simp [BC, CF] at C; clear hb)
      | ((with_reducible refine (h30c _ B9).mono ?_); rintro X wq ⟨gM, rfl, hM, hb⟩; replace B9 := belows B9 hb; replace hR := hR.on hb; replace E := E.on hb; replace C := E.cells; simp [BC, CF] at C; clear hb))
      | (go_at_call 18; first
      | ((with_reducible refine (h18 _ (envb E)).mono ?_); rintro X w5 ⟨rfl, hb⟩; replace B9 := al (belows B9 hb) (.cells #[.int .i64 x1, .int .i64 y1] 24); replace hR := (hR.on hb).on (al1 w5 (.cells #[.int .i64 x1, .int .i64 y1] 24)); replace hM := (hM.on hb).on (al1 w5 (.cells #[.int .i64 x1, .int .i64 y1] 24)); replace E := (E.on hb).add w5.heap.size 24 #[.int .i64 x1, .int .i64 y1] rfl; replace C := E.cells; simp [BC, CF] at C; clear hb)
      | ((with_reducible refine (h18c _ B9).mono ?_); rintro X w6 ⟨rfl, hb⟩; replace B9 := al (belows B9 hb) (.cells #[.int .i64 x2, .int .i64 y2] 24); replace hR := (hR.on hb).on (al1 w6 (.cells #[.int .i64 x2, .int .i64 y2] 24)); replace hM := (hM.on hb).on (al1 w6 (.cells #[.int .i64 x2, .int .i64 y2] 24)); replace E := (E.on hb).add w6.heap.size 24 #[.int .i64 x2, .int .i64 y2] rfl; replace C := E.cells; simp [BC, CF] at C; clear hb))
      | (go_at_call 26; first
      | ((with_reducible refine (h26 _ (envb E)).mono ?_); rintro X wq ⟨pa, ca, rfl, hb⟩; replace B9 := belows B9 hb; replace hR := hR.on hb; replace hM := hM.on hb; replace E := E.on hb; replace C := E.cells; simp [BC, CF] at C; clear hb)
      | ((with_reducible refine (h26c _ B9).mono ?_); rintro X wq ⟨pb, cb, rfl, hb⟩; replace B9 := belows B9 hb; replace hR := hR.on hb; replace hM := hM.on hb; replace E := E.on hb; replace C := E.cells; simp [BC, CF] at C; clear hb))
      | (go_at_call 32; first
        | ((with_reducible refine (h32 _ _ hR).mono ?_); rintro X wq ⟨rfl, rfl⟩)
        | ((with_reducible refine (h32c _ _ hM).mono ?_); rintro X wq ⟨rfl, rfl⟩)))
    go_ret
    exact ⟨by simp, envb E⟩
theorem longer_walk (b : Bar) (k u : Int) (w : World) (hk : b.Ok w) (hk1 : 0 ≤ k ∧ k ≤ 255) (hu : 0 ≤ u ∧ u ≤ 65535) : Calls Try.prog 8 #[b.val, .int .u8 k, .int .u16 u] w fun e w' => e = .returned (.bool true) ∧ Below w.heap.size w w' := by
  cases hr : rightB b
  · exact longer_not b k u w hk hr
  · exact longer_right b k u w hk hk1 hu hr
end Go.Proofs.Ythphgppgdlimeaa
