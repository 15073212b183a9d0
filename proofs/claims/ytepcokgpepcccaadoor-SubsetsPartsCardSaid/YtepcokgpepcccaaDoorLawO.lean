/- SubsetsOrder: the law's walk. -/
import Derived.Test.YtepcokgpepcccaaDoorOr1
namespace Go.Proofs.YtepcokgpepcccaaDoor
open Go.ChangeShapes Go.WideShapes Go.ChangeAt Go.RowKit
set_option linter.unusedVariables false
set_option linter.unusedSimpArgs false
theorem rdzz_nil (w : World) : Rdzz w (.slice none 0 0) [] := ⟨none, 0, rfl, fun j h => by simp at h⟩
theorem OwnZ.sized {B : Nat} {w : World} {q : Option Addr} {n c : Nat} {zs : List Int} (h : OwnZ B w (.slice q n c) zs) : zs.length = n := by
  obtain ⟨q', c', e, -⟩ := h.cell
  simp only [Value.slice.injEq] at e
  exact e.2.1.symm
theorem grown_below {B : Nat} {a w w' : World} {row : Option Nat} (h : Below B a w) (hg : w.grownBy w' row) (hr : ∀ j, row = some j → B ≤ j) (hs : B ≤ w.heap.size) : Below B a w' := h.grown hg hs hr
theorem parts_form (u : Value) (zs : List Int) (L : Nat) (w : World) (hR : Rdz w u zs) (hT : Tab w) (h0 : fau zs = 0) (hl : zs.length ≤ 10) (hz : SF zs (allS zs) = 0) (hL : MF zs (allS zs) = L) :
    Calls Tryd.prog 24 #[u] w fun e w' => ∃ ps q c, e = .returned (.tuple #[.slice q L c, .int .i64 0]) ∧ Hid (Pts (SF zs) (MF zs) (allS zs) ps) ∧ Hid (Rdzz w' (.slice q L c) (lists ps)) ∧ Below w.heap.size w w' :=
  (parts_yes u zs w hR hT h0 hl hz).mono fun e w' ⟨ps, q, c, he, hp, hr, hn, hb⟩ => by
    rw [hL] at hn
    subst hn
    exact ⟨ps, q, c, he, hp, Lib.hid hr, hb⟩
theorem Pts.len {F : Nat → Int} {M : Nat → Nat} {r : Nat} {ps : List Nat} (h : Pts F M r ps) : r < 1024 → ps.length ≤ r := by
  induction h with
  | nil => intro _; exact Nat.le_refl _
  | cons a b c d ih =>
    rename_i rest p ps
    intro hr
    have := ih (by omega)
    rcases c.1 with e | e
    · exact absurd e b
    · have := e.1.le
      rw [List.length_cons]; omega
theorem same_yes (v v' : Value) (ps rs : List Nat) (w : World) (h1 : Rdzz w v (lists ps)) (h2 : Rdzz w v' (lists rs)) (e : ps = rs) (hps : ps.length ≤ 100000) : Calls Tryd.prog 27 #[v, v'] w fun e w' => e = .returned (.bool true) ∧ Below w.heap.size w w' := by
  subst e
  have hx : ∀ x ∈ lists ps, x.length ≤ 100000 := fun x hx => by
    obtain ⟨p, -, rfl⟩ := List.mem_map.1 hx
    rw [toZ_len]
    exact Nat.le_trans (ixs_len _ _) (by omega)
  have hl : (lists ps).length ≤ 100000 := by rw [lists, List.length_map]; exact hps
  exact (same_any v v' _ _ w h1 h2 hl hx hx).mono fun e w' ⟨a, n, b⟩ => ⟨by rw [a, decide_eq_true rfl], by subst b; exact below_drewN (Below.refl _ _) n⟩
set_option maxRecDepth 100000 in
set_option maxHeartbeats 8000000 in
theorem order_walk (u : Value) (zs : List Int) (more : Int) (w : World) (hR : Rdz w u zs) (hI : 0 ≤ more ∧ more ≤ 4294967295) (hT : Tab w) :
    Calls Tryd.prog 8 #[u, .int .u32 more] w fun e w' => e = .returned (.bool true) ∧ Below w.heap.size w w' := by
  obtain ⟨uq, ucc, rfl, hq⟩ := hR
  have hR : Rdz w (.slice uq zs.length ucc) zs := ⟨uq, ucc, rfl, hq⟩
  clear hq
  go_enter Tryd.func8, Tryd.ntmps8
  by_cases hl : 8 < zs.length
  · have g1 : decide ((8 : Int) < (zs.length : Int)) = true := by simp; omega
    go_wp2_with (go_at_call 9; (with_reducible refine (awake_any _ hT).mono ?_); rintro e1 w1 ⟨rfl, b1⟩)
    go_ret
    exact ⟨rfl, b1⟩
  have g1 : decide ((8 : Int) < (zs.length : Int)) = false := by simp; omega
  have hG := fun w h => given_any (.slice uq zs.length ucc) zs w h
  by_cases h0 : fau zs ≠ 0
  · obtain ⟨f, ef⟩ : ∃ f, fau zs = f := ⟨_, rfl⟩
    rw [ef] at hG h0
    have g : (f != 0) = true := by simp [h0]
    clear ef
    go_wp2_with (first
      | (go_at_call 9; (with_reducible refine (awake_any _ hT).mono ?_); rintro e1 w1 ⟨rfl, b1⟩; have R1 := hR.on b1)
      | (go_at_call 13; (with_reducible refine (hG _ R1).mono ?_); rintro e2 w2 ⟨rfl, hw⟩; subst w2))
    go_ret
    exact ⟨rfl, b1⟩
  have h0 : fau zs = 0 := Classical.not_not.1 h0
  rw [h0] at hG
  have hl10 : zs.length ≤ 10 := by omega
  have hCl := fun w h => clone_any (.slice uq zs.length ucc) zs w h (by omega)
  have hRv := fun B v w h => reverse_own B v zs w h (by omega)
  go_upto_region 7 with (first
    | (go_at_call 9; (with_reducible refine (awake_any _ hT).mono ?_); rintro e1 w1 ⟨rfl, b1⟩; have R1 := hR.on b1; have T1 := hT.on b1)
    | (go_at_call 13; (with_reducible refine (hG _ R1).mono ?_); rintro e2 w2 ⟨rfl, hw⟩; subst w2)
    | (go_at_call 31; (with_reducible refine (hCl _ R1).mono ?_); rintro e2 w2 ⟨q2, c2, rfl, o2, b2⟩; have R2 := R1.on b2)
    | (go_at_call 31; (with_reducible refine (hCl _ R2).mono ?_); rintro e3 w3 ⟨q3, c3, rfl, o3, b3⟩; have o2' := o2.on b3)
    | (go_at_call 37; (with_reducible refine (hRv _ _ _ o2').mono ?_); rintro e4 w4 ⟨rfl, o4, g4⟩))
  have b34 : Below w1.heap.size w1 w4 := grown_below (belows b2 b3) g4 (fun j hj => (World.ownsRow.lt o2 j hj).1) (Nat.le_trans b2.size b3.size)
  have n2 : ∀ b, (Value.slice q2 zs.length c2).ownBlock = some b → b < w2.heap.size := fun b e => (World.ownsRow.lt o2 b e).2
  have n3 : ∀ b, (Value.slice q3 zs.length c3).ownBlock = some b → w2.heap.size ≤ b := fun b e => (World.ownsRow.lt o3 b e).1
  have o5 := o3.kept g4 fun b e e' => by have := n2 b e'; have := n3 b e; omega
  have O4 := Lib.hid o4
  have O5 : Hid (OwnZ w2.heap.size w4 (.slice q3 zs.length c3) (negp 0 zs)) := Lib.hid (by rw [negp_zero]; exact o5)
  have hz := (fau_zero h0).2
  have B2 := b2.size
  clear o2 o2' o3 o4 o5 g4 R2 hCl hRv hG b2 b3
  go_wp2
  go_loopw [41] (fun v wr => ∃ k : Nat, v = .int .i64 k ∧ k ≤ zs.length ∧ Hid (OwnZ w1.heap.size wr (.slice q2 zs.length c2) zs.reverse) ∧ Hid (OwnZ w2.heap.size wr (.slice q3 zs.length c3) (negp k zs)) ∧ Below w1.heap.size w1 wr) (fun v _ => zs.length - (intOf v).toNat)
  case atStart => exact ⟨0, rfl, Nat.zero_le _, O4, O5, b34⟩
  case round =>
    clear O4 O5 b34
    obtain ⟨k, rfl, hk, O4, O5, hB⟩ := hrel
    by_cases hlt : k < zs.length
    · have gd : decide ((k : Int) < (zs.length : Int)) = true := by simp [hlt]
      have hne : negp k zs ≠ [] := fun e => by have := negp_len k zs; rw [e] at this; simp at this; omega
      obtain ⟨g, cap, e3, -⟩ := O5.out.form hne
      rw [negp_len] at e3
      simp only [Value.slice.injEq] at e3
      obtain ⟨rfl, -, rfl⟩ := e3
      have o5 := O5.out
      have e5 : Value.slice (some ⟨g, 0, none⟩) zs.length c3 = .slice (some ⟨g, 0, none⟩) (negp k zs).length c3 := by rw [negp_len]
      rw [e5] at o5
      have cc := o5.at_ (j := k) (by rw [negp_len]; exact hlt)
      rw [negp_at k zs hlt] at cc
      have ff := World.ownsRow.frozenAt o5 k
      have bz := okz_of hz k
      have ez : zs[k] = zs.getD k 0 := by simp [List.getD, hlt]
      rw [← ez] at bz
      have P1 := O5.out.put (k := k) (z := - zs[k]) (by rw [negp_len]) (negp_set k zs hlt)
      have P2 := Lib.hid P1.1
      have P3 := Lib.hid (O4.out.kept P1.2 fun b e e' => by have h1 := n2 b e; have h2 := n3 g rfl; simp at e'; omega)
      have P4 := grown_below hB P1.2 (fun j hj => by have := n3 g rfl; simp at hj; omega) hB.size
      obtain ⟨z, hzz⟩ : ∃ z, z = zs[k] := ⟨_, rfl⟩
      rw [← hzz] at cc bz P2 P3 P4
      have W1 : IntKind.i64.wrap ((k : Int) + 1) = ((k + 1 : Nat) : Int) := by
        have := hlt
        rw [IntWalk.i64_in _ (by omega)]; omega
      have W2 : IntKind.i64.wrap (-z) = -z := IntWalk.i64_in _ (by omega)
      have q1 : (0 : Int) ≤ (k : Int) := by omega
      have q2 : (k : Int) < (zs.length : Int) := by omega
      clear P1 hzz ez e5 o5 hne O4 O5 hB
      go_wp2
      exact ⟨⟨k + 1, rfl, hlt, P3, P2, P4⟩, by simp [intOf]; omega⟩
    · have gd : decide ((k : Int) < (zs.length : Int)) = false := by simp; omega
      have ek : negp k zs = ngl zs := by rw [show k = zs.length by omega, negp_all]
      rw [ek] at O5
      have Ro := hR.on (belows b1 hB)
      have To := hT.on (belows b1 hB)
      have Rb := O4.out.rd
      have Rm := O5.out.rd
      have bb := belows b1 hB
      clear O4 O5 ek hB n2 n3 R1 T1
      obtain ⟨W, hW⟩ : ∃ W, wr = W := ⟨_, rfl⟩
      subst hW
      have hne := smz_ne zs
      have hnl := smz_ngl_len zs
      have HS1 := fun w h => sums_form (.slice uq zs.length ucc) zs w h h0 hl10
      have HS2 := fun w h => sums_form (.slice q2 zs.length c2) zs.reverse w h (fau_rev h0) (by rw [List.length_reverse]; exact hl10)
      have HS3 := fun w h => sums_form (.slice q3 zs.length c3) (ngl zs) w h (fau_ngl h0) (by rw [ngl_len]; exact hl10)
      rw [smz_reverse] at HS2
      have hat := fun i h h2 => smz_ngl_at zs i h h2
      have hN2 : (smz zs).length ≤ 1024 := Nat.le_trans (smz_len zs) (Nat.pow_le_pow_right (n := 2) (by omega) hl10)
      have hsml : ∀ x ∈ smz zs, Sml x := fun x hx => sums_sml hz hl10 x (((smz_asc zs).2 x).1 hx)
      obtain ⟨S, hS⟩ : ∃ S, smz zs = S := ⟨_, rfl⟩
      obtain ⟨C, hC⟩ : ∃ C, smz (ngl zs) = C := ⟨_, rfl⟩
      rw [hS] at HS1 HS2 hne hnl hat hN2 hsml
      rw [hC] at HS3 hnl hat
      have HEQ := fun v v' w h1 h2 => equal_any v v' S S w h1 h2 (by omega)
      rw [decide_eq_true (rfl : S = S)] at HEQ
      obtain ⟨m, hm⟩ : ∃ m, S.length = m := ⟨_, rfl⟩
      have hmc : C.length = m := by omega
      have HM := Lib.hid hm
      have HMC := Lib.hid hmc
      have HAT := Lib.hid hat
      have HSML := Lib.hid hsml
      have HS1 : ∀ w, Rdz w (.slice uq zs.length ucc) zs → Calls Tryd.prog 11 #[.slice uq zs.length ucc] w fun e w' => ∃ g cap, e = .returned (.tuple #[.slice (some ⟨g, 0, none⟩) m cap, .int .i64 0]) ∧ Hid (OwnZ w.heap.size w' (.slice (some ⟨g, 0, none⟩) S.length cap) S) ∧ Below w.heap.size w w' := fun w h => (HS1 w h).mono fun e w' ⟨g, c, a, b, d⟩ => ⟨g, c, by rw [← hm]; exact a, Lib.hid b, d⟩
      have HS2 : ∀ w, Rdz w (.slice q2 zs.length c2) zs.reverse → Calls Tryd.prog 11 #[.slice q2 zs.length c2] w fun e w' => ∃ g cap, e = .returned (.tuple #[.slice (some ⟨g, 0, none⟩) m cap, .int .i64 0]) ∧ Hid (OwnZ w.heap.size w' (.slice (some ⟨g, 0, none⟩) S.length cap) S) ∧ Below w.heap.size w w' := fun w h => (HS2 w h).mono fun e w' ⟨g, c, a, b, d⟩ => ⟨g, c, by rw [← hm]; exact a, Lib.hid b, d⟩
      have HS3 : ∀ w, Rdz w (.slice q3 zs.length c3) (ngl zs) → Calls Tryd.prog 11 #[.slice q3 zs.length c3] w fun e w' => ∃ g cap, e = .returned (.tuple #[.slice (some ⟨g, 0, none⟩) m cap, .int .i64 0]) ∧ Hid (OwnZ w.heap.size w' (.slice (some ⟨g, 0, none⟩) C.length cap) C) ∧ Below w.heap.size w w' := fun w h => (HS3 w h).mono fun e w' ⟨g, c, a, b, d⟩ => ⟨g, c, by rw [← hmc]; exact a, Lib.hid b, d⟩
      have HEQ : ∀ v v' w, Rdz w v S → Rdz w v' S → Calls Tryd.prog 14 #[v, v'] w fun e w' => e = .returned (.bool true) ∧ Below w.heap.size w w' := fun v v' w h1 h2 => (HEQ v v' w h1 h2).mono fun e w' ⟨a, n, b⟩ => ⟨a, by subst b; exact below_drewN (Below.refl _ _) n⟩
      have gm : ((m : Int) != (m : Int)) = false := by simp
      have hpos : 0 < m := by rw [← hm]; exact List.length_pos_iff.2 hne
      have hm10 : m ≤ 1024 := by omega
      clear hS hC hm hmc hat hsml hne hnl
      go_upto_region 17 with (first
        | (go_at_call 11; (with_reducible refine (HS1 _ Ro).mono ?_); rintro e5 w5 ⟨ga, ca, rfl, oa5, b5⟩; have Rb5 := Rb.on b5)
        | (go_at_call 11; (with_reducible refine (HS2 _ Rb5).mono ?_); rintro e6 w6 ⟨gb, cb, rfl, ob6, b6⟩; have oa6 := oa5.out.on b6; have Rm6 := (Rm.on b5).on b6)
        | (go_at_call 11; (with_reducible refine (HS3 _ Rm6).mono ?_); rintro e7 w7 ⟨gc, cc7, rfl, oc7, b7⟩; have oa7 := (oa6.on b7).rd; have ob7 := (ob6.out.on b7).rd; rw [HM.out] at oa7 ob7)
        | (go_at_call 14; (with_reducible refine (HEQ _ _ _ oa7 ob7).mono ?_); rintro e8 w8 ⟨rfl, b8⟩))
      have A8 := Lib.hid ((oa6.on b7).on b8)
      have C8 := Lib.hid (oc7.out.on b8)
      have bb8 := belows (belows (belows b5 b6) b7) b8
      have Ro8 := Ro.on bb8
      have Rb8 := Rb.on bb8
      have Rm8 := Rm.on bb8
      have To8 := To.on bb8
      have bb := belows bb bb8
      clear oa5 ob6 oa6 oa7 ob7 oc7 b5 b6 b7 b8 Rb5 Rm6 Ro Rb Rm To bb8 HS1 HS2 HS3 HEQ
      obtain ⟨m1, hm1⟩ : ∃ m1, m - 1 = m1 := ⟨_, rfl⟩
      have HM1 := Lib.hid hm1
      have W0 : IntKind.i64.wrap ((m : Int) - 1) = (m1 : Int) := by rw [IntWalk.i64_in _ (by omega)]; omega
      clear hm1
      go_wp2
      go_loopw [93] (fun v wr => ∃ k : Nat, v = .int .i64 k ∧ k ≤ m ∧ Below w8.heap.size w8 wr) (fun v _ => m - (intOf v).toNat)
      case atStart => exact ⟨0, rfl, Nat.zero_le _, Below.refl _ _⟩
      case round =>
        obtain ⟨j, rfl, hj, hB⟩ := hrel
        by_cases hjm : j < m
        · have gd2 : decide ((j : Int) < (m : Int)) = true := by simp [hjm]
          have hjS : j < S.length := by rw [HM.out]; exact hjm
          have hiC : S.length - 1 - j < C.length := by have := HM.out; have := HMC.out; omega
          have hpr := HAT.out j hjS hiC
          have cx := (A8.out.on hB).at_ hjS
          have cy := (C8.out.on hB).at_ hiC
          have s1 := HSML.out _ (List.getElem_mem hjS)
          obtain ⟨x, hx⟩ : ∃ x, x = S[j] := ⟨_, rfl⟩
          obtain ⟨y, hy⟩ : ∃ y, y = C[S.length - 1 - j] := ⟨_, rfl⟩
          obtain ⟨i, hi⟩ : ∃ i, i = S.length - 1 - j := ⟨_, rfl⟩
          rw [← hx] at hpr cx s1
          rw [← hy] at hpr cy
          rw [← hi] at cy
          have him : i = m1 - j ∧ j ≤ m1 ∧ m1 < m := by have := HM.out; have := HM1.out; omega
          unfold Sml at s1
          have W1 : IntKind.i64.wrap ((j : Int) + 1) = ((j + 1 : Nat) : Int) := by rw [IntWalk.i64_in _ (by omega)]; omega
          have W2 : IntKind.i64.wrap ((m1 : Int) - (j : Int)) = (i : Int) := by rw [IntWalk.i64_in _ (by omega)]; omega
          have W3 : IntKind.i64.wrap (-y) = x := by rw [IntWalk.i64_in _ (by omega)]; omega
          have gx : (x != x) = false := by simp
          have q1 : (0 : Int) ≤ (j : Int) := by omega
          have q2 : (j : Int) < (m : Int) := by omega
          have q3 : (0 : Int) ≤ (i : Int) := by omega
          have q4 : (i : Int) < (m : Int) := by omega
          clear hpr hx hy hi hiC hjS him s1
          go_wp2_with fail
          go_quiet (fail)
          go_wp2
          exact ⟨⟨j + 1, rfl, hjm, below_drewN hB _⟩, by simp [intOf]; omega⟩
        · have gd2 : decide ((j : Int) < (m : Int)) = false := by simp; omega
          have Ro := Ro8.on hB
          have Rb := Rb8.on hB
          have Rm := Rm8.on hB
          have To := To8.on hB
          have bb := belows bb hB
          clear Ro8 Rb8 Rm8 To8 A8 C8 HAT HSML HM HMC HM1 hB
          by_cases hs0 : SF zs (allS zs) = 0
          · have hL := MF_le zs hl10 (allS zs)
            have hL2 := MF_rev zs hl10
            have hL3 : MF (ngl zs) (allS (ngl zs)) = MF zs (allS zs) := by rw [MF_ngl, allS, ngl_len]; rfl
            have hL4 : MF zs (allS zs) + 1 ≤ MF (plus2 zs more) (allS (plus2 zs more)) := by
              have a := MF_counts zs hl10 (allS zs) (by unfold allS; have := Nat.two_pow_pos zs.length; omega)
              have b := MF_counts (plus2 zs more) (by rw [plus2_len]; omega) (allS (plus2 zs more)) (by unfold allS; have := Nat.two_pow_pos (plus2 zs more).length; omega)
              exact b.2 _ (pack_plus2 zs more a.1 hs0)
            have HP1 := fun w h t => parts_form (.slice uq zs.length ucc) zs _ w h t h0 hl10 hs0 rfl
            have HP2 := fun w h t => parts_form (.slice q2 zs.length c2) zs.reverse _ w h t (fau_rev h0) (by rw [List.length_reverse]; exact hl10) (by rw [SF_all_rev]; exact hs0) hL2
            have HP3 := fun w h t => parts_form (.slice q3 zs.length c3) (ngl zs) _ w h t (fau_ngl h0) (by rw [ngl_len]; exact hl10) (by rw [SF_ngl, allS, ngl_len]; have hs0 := hs0; unfold allS at hs0; omega) hL3
            have HP4 := fun v w h t => parts_form v (plus2 zs more) _ w h t (fau_plus2 h0 (by omega) hI.1 hI.2) (by rw [plus2_len]; omega) (by rw [SF_plus2_all]; exact hs0) rfl
            have hL5 := MF_le (plus2 zs more) (by rw [plus2_len]; omega) (allS (plus2 zs more))
            obtain ⟨L, hLL⟩ : ∃ L, MF zs (allS zs) = L := ⟨_, rfl⟩
            obtain ⟨L4, hLL4⟩ : ∃ L, MF (plus2 zs more) (allS (plus2 zs more)) = L := ⟨_, rfl⟩
            rw [hLL] at HP1 HP2 HP3 hL hL4
            rw [hLL4] at hL4 hL5 HP4
            have HCl := fun w h => clone_any (.slice uq zs.length ucc) zs w h (by omega)
            have gL : ((L : Int) != (L : Int)) = false := by simp
            have WL : IntKind.i64.wrap ((L : Int) + 1) = (L : Int) + 1 := IntWalk.i64_in _ (by omega)
            have gL4 : decide ((L : Int) + 1 ≤ (L4 : Int)) = true := by simp; omega
            have Wm : IntKind.i64.wrap more = more := IntWalk.i64_in _ (by omega)
            have Wn : IntKind.i64.wrap (-more) = -more := IntWalk.i64_in _ (by omega)
            have HPQ : ∀ ps rs, Hid (Pts (SF zs) (MF zs) (allS zs) ps) → Hid (Pts (SF (ngl zs)) (MF (ngl zs)) (allS (ngl zs)) rs) → Hid (ps = rs) := fun ps rs a b => Lib.hid (pts_ngl a.out b.out hl10)
            have HPL : ∀ ps, Hid (Pts (SF zs) (MF zs) (allS zs) ps) → ps.length ≤ 100000 := fun ps a => by
              have h2 : 2 ^ zs.length ≤ 1024 := Nat.pow_le_pow_right (n := 2) (by omega) hl10
              have h3 := Nat.two_pow_pos zs.length
              have := a.out.len (by unfold allS; omega)
              unfold allS at this
              omega
            clear hLL hLL4 hL2 hL3
            go_upto_region 30 with (first
              | (go_at_call 24; (with_reducible refine (HP1 _ Ro To).mono ?_); rintro e5 w5 ⟨ps, q5, c5, rfl, hp5, r5, b5⟩; have Rb5 := Rb.on b5; have To5 := To.on b5)
              | (go_at_call 24; (with_reducible refine (HP2 _ Rb5 To5).mono ?_); rintro e6 w6 ⟨qs, q6, c6, rfl, hp6, r6, b6⟩; have Rm6 := (Rm.on b5).on b6; have To6 := To5.on b6; have r56 := r5.out.on b6)
              | (go_at_call 24; (with_reducible refine (HP3 _ Rm6 To6).mono ?_); rintro e7 w7 ⟨rs, q7, c7, rfl, hp7, r7, b7⟩; have r57 := r56.on b7; have hsa := same_yes _ _ ps rs w7 r57 r7.out (HPQ ps rs hp5 hp7).out (HPL ps hp5))
              | (go_at_call 27; (with_reducible refine hsa.mono ?_); rintro e8 w8 ⟨rfl, b8⟩))
            have Ro8 := (((Ro.on b5).on b6).on b7).on b8
            have To8 := (To6.on b7).on b8
            have bb8 := belows (belows (belows (belows bb b5) b6) b7) b8
            clear r5 r6 r7 r56 r57 hp5 hp6 hp7 HPQ HPL HP1 HP2 HP3 b5 b6 b7 b8 Ro Rb Rm To bb hsa Rb5 To5 Rm6 To6
            go_wp2_with (first
              | (go_at_call 31; (with_reducible refine (HCl _ Ro8).mono ?_); rintro e9 w9 ⟨q9, c9, rfl, o9, b9⟩; have l9 := lit_rd w9 [more, -more] 3; have o9' := o9.on (al1 w9 (.cells (zv [more, -more]).toArray 3)); have z9 := (al1 w9 (.cells (zv [more, -more]).toArray 3)).size; have t9 := (To8.on b9).on (al1 w9 (.cells (zv [more, -more]).toArray 3)))
              | (at_builtin; refine wpList_append_rd rfl _ _ rfl rfl rfl o9' l9 (Nat.le_trans b9.size z9) (by simp; omega) ?_))
            intro v' w10 o10 g10 _
            have b10 : Below w8.heap.size w8 w10 := grown_below (b9.trans ((al1 w9 (.cells (zv [more, -more]).toArray 3)).mono b9.size)) g10 (fun j hj => (World.ownsRow.lt o9' j hj).1) (Nat.le_trans b9.size z9)
            have t10 := To8.on b10
            have r10 : Rdz w10 v' (plus2 zs more) := o10.rd
            have bb10 := belows bb8 b10
            clear o9 o9' l9 z9 t9 o10 g10 b9 b10 Ro8 To8 bb8
            go_wp2_with (go_at_call 24; (with_reducible refine (HP4 _ _ r10 t10).mono ?_); rintro e11 w11 ⟨ps4, q11, c11, rfl, hp11, r11, b11⟩)
            go_ret
            exact ⟨rfl, belows bb10 b11⟩
          · have HP1 := fun w h t => parts_no (.slice uq zs.length ucc) zs w h t h0 hl10 hs0
            have HP2 := fun w h t => parts_no (.slice q2 zs.length c2) zs.reverse w h t (fau_rev h0) (by rw [List.length_reverse]; exact hl10) (by rw [SF_all_rev]; exact hs0)
            have HP3 := fun w h t => parts_no (.slice q3 zs.length c3) (ngl zs) w h t (fau_ngl h0) (by rw [ngl_len]; exact hl10) (by rw [SF_ngl, allS, ngl_len]; have hs0 := hs0; unfold allS at hs0; omega)
            have hsa := fun w => same_any _ _ [] [] w (rdzz_nil w) (rdzz_nil w) (by simp) (by simp) (by simp)
            rw [decide_eq_true (rfl : ([] : List (List Int)) = [])] at hsa
            go_wp2_with (first
              | (go_at_call 24; (with_reducible refine (HP1 _ Ro To).mono ?_); rintro e5 w5 ⟨rfl, b5⟩; have Rb5 := Rb.on b5; have To5 := To.on b5)
              | (go_at_call 24; (with_reducible refine (HP2 _ Rb5 To5).mono ?_); rintro e6 w6 ⟨rfl, b6⟩; have Rm6 := (Rm.on b5).on b6; have To6 := To5.on b6)
              | (go_at_call 24; (with_reducible refine (HP3 _ Rm6 To6).mono ?_); rintro e7 w7 ⟨rfl, b7⟩)
              | (go_at_call 27; (with_reducible refine (hsa _).mono ?_); rintro e8 w8 ⟨rfl, n8, rfl⟩))
            go_ret
            exact ⟨rfl, below_drewN (belows (belows (belows bb b5) b6) b7) _⟩
end Go.Proofs.YtepcokgpepcccaaDoor
