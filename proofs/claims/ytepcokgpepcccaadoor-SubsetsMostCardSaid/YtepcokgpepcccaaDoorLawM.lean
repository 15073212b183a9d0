/- SubsetsMost: the law's walk. -/
import Derived.Test.YtepcokgpepcccaaDoorMo2
import Derived.Test.YtepcokgpepcccaaDoorLawO
namespace Go.Proofs.YtepcokgpepcccaaDoor
open Go.ChangeShapes Go.WideShapes Go.ChangeAt Go.RowKit Go.Maps
set_option linter.unusedVariables false
set_option linter.unusedSimpArgs false
theorem lists_at (ps : List Nat) (j : Nat) (h : j < ps.length) (h2 : j < (lists ps).length) : (lists ps)[j] = toZ (ixs 10 ps[j]) := by simp [lists]
theorem lists_len (ps : List Nat) : (lists ps).length = ps.length := by simp [lists]
theorem total_is (u : Value) (zs : List Int) (T : Int) (w : World) (hR : Rdz w u zs) (hl : zs.length ≤ 100) (hz : allZ zs = true) (hT : SF zs (allS zs) = T) :
    Calls Tryd.prog 33 #[u] w fun e w' => e = .returned (.int .i64 T) ∧ w' = w := by
  rw [← hT, ← tot_all]; exact total_any u zs w hR hl hz
theorem check_yes (u v : Value) (zs : List Int) (ls : List (List Int)) (w : World) (hR : Rdz w u zs) (hX : Rdzz w v ls) (hl : zs.length ≤ 10) (h0 : fau zs = 0) (hll : ls.length ≤ 100000) (hlx : ∀ x ∈ ls, x.length ≤ 100000) (hC : Chk zs (allS zs) ls 0) :
    Calls Tryd.prog 25 #[u, v] w fun e w' => e = .returned (.tuple #[.bool true, .int .i64 0]) ∧ w' = w :=
  (check_any u v zs ls w hR hX hl h0 hll hlx).mono fun e w' ⟨b, he, hb, hw⟩ => by
    have := hb.out.2 hC
    subst this
    exact ⟨he, hw⟩
theorem check_no (u v : Value) (zs : List Int) (ls : List (List Int)) (w : World) (hR : Rdz w u zs) (hX : Rdzz w v ls) (hl : zs.length ≤ 10) (h0 : fau zs = 0) (hll : ls.length ≤ 100000) (hlx : ∀ x ∈ ls, x.length ≤ 100000) (hC : ¬ Chk zs (allS zs) ls 0) :
    Calls Tryd.prog 25 #[u, v] w fun e w' => e = .returned (.tuple #[.bool false, .int .i64 0]) ∧ w' = w :=
  (check_any u v zs ls w hR hX hl h0 hll hlx).mono fun e w' ⟨b, he, hb, hw⟩ => by
    cases b with
    | false => exact ⟨he, hw⟩
    | true => exact absurd (hb.out.1 rfl) hC
theorem lit1z (w : World) (x : Int) : Rdz (w.alloc (.cells #[.int .i64 x] 3)) (.slice (some ⟨w.heap.size, 0, none⟩) 1 1) [x] := lit_rd w [x] 3
theorem OwnZ.formed {B : Nat} {w : World} {v : Value} {xs : List Int} {n : Nat} (h : OwnZ B w v xs) (hn : xs.length = n) : ∃ q c, v = .slice q n c := by
  obtain ⟨q, c, e, -⟩ := h.cell
  exact ⟨q, c, by rw [← hn]; exact e⟩
set_option maxRecDepth 100000 in
set_option maxHeartbeats 8000000 in
theorem most_walk (u u2 : Value) (zs : List Int) (bs : List Nat) (w : World) (hR : Rdz w u zs) (hU : Rdu w u2 bs) (hT : Tab w) :
    Calls Tryd.prog 7 #[u, u2] w fun e w' => e = .returned (.bool true) ∧ Below w.heap.size w w' := by
  obtain ⟨uq, ucc, rfl, hq⟩ := hR
  have hR : Rdz w (.slice uq zs.length ucc) zs := ⟨uq, ucc, rfl, hq⟩
  obtain ⟨bq, bcc, rfl, hbq⟩ := hU
  have hU : Rdu w (.slice bq bs.length bcc) bs := ⟨bq, bcc, rfl, hbq⟩
  clear hq hbq
  go_enter Tryd.func7, Tryd.ntmps7
  by_cases hl : 8 < zs.length
  · have g1 : decide ((8 : Int) < (zs.length : Int)) = true := by simp; omega
    go_wp2_with (go_at_call 9; (with_reducible refine (awake_any _ hT).mono ?_); rintro e1 w1 ⟨rfl, b1⟩)
    go_ret
    exact ⟨rfl, b1⟩
  have g1 : decide ((8 : Int) < (zs.length : Int)) = false := by simp; omega
  have hG := fun w h => given_any (.slice uq zs.length ucc) zs w h
  by_cases h0 : fau zs ≠ 0
  · obtain ⟨f, ef⟩ : ∃ f, fau zs = f := ⟨_, rfl⟩
    rw [ef] at hG h0
    have g : (f != 0) = true := by simp [h0]
    clear ef
    go_wp2_with (first
      | (go_at_call 9; (with_reducible refine (awake_any _ hT).mono ?_); rintro e1 w1 ⟨rfl, b1⟩; have R1 := hR.on b1)
      | (go_at_call 13; (with_reducible refine (hG _ R1).mono ?_); rintro e2 w2 ⟨rfl, hw⟩; subst w2))
    go_ret
    exact ⟨rfl, b1⟩
  have h0 : fau zs = 0 := Classical.not_not.1 h0
  rw [h0] at hG
  by_cases hb20 : 20 < bs.length
  · have g2 : decide ((20 : Int) < (bs.length : Int)) = true := by simp; omega
    go_wp2_with (first
      | (go_at_call 9; (with_reducible refine (awake_any _ hT).mono ?_); rintro e1 w1 ⟨rfl, b1⟩; have R1 := hR.on b1)
      | (go_at_call 13; (with_reducible refine (hG _ R1).mono ?_); rintro e2 w2 ⟨rfl, hw⟩; subst w2))
    go_ret
    exact ⟨rfl, b1⟩
  have g2 : decide ((20 : Int) < (bs.length : Int)) = false := by simp; omega
  have hl10 : zs.length ≤ 10 := by omega
  have hz := (fau_zero h0).2
  by_cases hs0 : SF zs (allS zs) ≠ 0
  · have HP := fun w h t => parts_no (.slice uq zs.length ucc) zs w h t h0 hl10 hs0
    obtain ⟨T, hTT⟩ : ∃ T, SF zs (allS zs) = T := ⟨_, rfl⟩
    have HTt := fun w h => total_is (.slice uq zs.length ucc) zs T w h (by omega) hz hTT
    rw [hTT] at hs0
    have gT : (T != 0) = true := by simp [hs0]
    clear hTT
    go_wp2_with (first
      | (go_at_call 9; (with_reducible refine (awake_any _ hT).mono ?_); rintro e1 w1 ⟨rfl, b1⟩; have R1 := hR.on b1; have T1 := hT.on b1)
      | (go_at_call 13; (with_reducible refine (hG _ R1).mono ?_); rintro e2 w2 ⟨rfl, hw⟩; subst w2)
      | (go_at_call 24; (with_reducible refine (HP _ R1 T1).mono ?_); rintro e3 w3 ⟨rfl, b3⟩; have R3 := R1.on b3)
      | (go_at_call 33; (with_reducible refine (HTt _ R3).mono ?_); rintro e2 w2 ⟨rfl, hw⟩; subst w2))
    go_ret
    exact ⟨rfl, belows b1 b3⟩
  have hs0 : SF zs (allS zs) = 0 := Classical.not_not.1 hs0
  have HP := fun w h t => parts_form (.slice uq zs.length ucc) zs _ w h t h0 hl10 hs0 rfl
  have HTt := fun w h => total_is (.slice uq zs.length ucc) zs 0 w h (by omega) hz hs0
  have hN := Nat.pow_le_pow_right (n := 2) (by omega) hl10
  have hN1 := Nat.two_pow_pos zs.length
  have hAl : allS zs < 2 ^ zs.length := by unfold allS; omega
  have hML := MF_le zs hl10 (allS zs)
  have hlen : ∀ ps, Hid (Pts (SF zs) (MF zs) (allS zs) ps) → ps.length = MF zs (allS zs) := fun ps a => pts_len hl10 a.out hAl hs0
  have HCK : ∀ ps v w, Hid (Pts (SF zs) (MF zs) (allS zs) ps) → Rdz w (.slice uq zs.length ucc) zs → Rdzz w v (lists ps) → Calls Tryd.prog 25 #[.slice uq zs.length ucc, v] w fun e w' => e = .returned (.tuple #[.bool true, .int .i64 0]) ∧ w' = w := fun ps v w a b c =>
    check_yes _ v zs (lists ps) w b c hl10 h0 (by rw [lists_len, hlen ps a]; omega) (fun x hx => by obtain ⟨p, -, rfl⟩ := List.mem_map.1 hx; rw [toZ_len]; exact Nat.le_trans (ixs_len _ _) (by omega)) (pts_chk hl10 a.out hAl hs0)
  obtain ⟨L, hLL⟩ : ∃ L, MF zs (allS zs) = L := ⟨_, rfl⟩
  rw [hLL] at HP hML hlen
  have HLL := Lib.hid hLL
  clear hLL
  go_upto_region 11 with (first
    | (go_at_call 9; (with_reducible refine (awake_any _ hT).mono ?_); rintro e1 w1 ⟨rfl, b1⟩; have R1 := hR.on b1; have T1 := hT.on b1)
    | (go_at_call 13; (with_reducible refine (hG _ R1).mono ?_); rintro e2 w2 ⟨rfl, hw⟩; subst w2)
    | (go_at_call 24; (with_reducible refine (HP _ R1 T1).mono ?_); rintro e3 w3 ⟨ps, pq, pc, rfl, hp, r3, b3⟩; have R3 := R1.on b3)
    | (go_at_call 33; (with_reducible refine (HTt _ R3).mono ?_); rintro e4 w4 ⟨rfl, hw⟩; subst w4)
    | (go_at_call 25; (with_reducible refine (HCK ps _ _ hp R3 r3.out).mono ?_); rintro e5 w5 ⟨rfl, hw⟩; subst w5))
  have T3 := T1.on b3
  have bb3 := belows b1 b3
  have HPL : Hid (ps.length = L) := Lib.hid (hlen ps hp)
  clear HP HTt HCK hlen hG R1 T1 b1 b3 hT hR
  go_wp2
  have HCAND : Hid (∀ j (h : j < ps.length), ps[j] ≠ 0 ∧ ps[j] < 2 ^ zs.length ∧ ∃ r', r' < 2 ^ zs.length ∧ cand (SF zs) (MF zs) r' ps[j]) := Lib.hid fun j h => by
    obtain ⟨a, r', b, c⟩ := pts_cand hp.out _ (List.getElem_mem h)
    have := c.1.le
    exact ⟨a, by omega, r', by omega, c⟩
  go_loopw [72] (fun v wr => ∃ j : Nat, v = .int .i64 j ∧ j ≤ L ∧ Below w3.heap.size w3 wr) (fun v _ => L - (intOf v).toNat)
  case atStart => exact ⟨0, rfl, Nat.zero_le _, Below.refl _ _⟩
  case round =>
    obtain ⟨j, rfl, hj, hB⟩ := hrel
    obtain ⟨WA, rfl⟩ : ∃ W, W = wr := ⟨_, rfl⟩
    by_cases hjl : j < L
    · have gd : decide ((j : Int) < (L : Int)) = true := by simp [hjl]
      have W1 : IntKind.i64.wrap ((j : Int) + 1) = ((j + 1 : Nat) : Int) := by rw [IntWalk.i64_in _ (by omega)]; omega
      have hjp : j < ps.length := by rw [HPL.out]; exact hjl
      obtain ⟨p0, hpl, r', hr', hc⟩ := HCAND.out j hjp
      have r4 := r3.out.on hB
      obtain ⟨pq', pc', epq, hcell⟩ := r4
      rw [lists_len, HPL.out] at epq
      simp only [Value.slice.injEq] at epq
      obtain ⟨rfl, -, rfl⟩ := epq
      obtain ⟨ap, ux, eap, cux, hux⟩ := hcell j (by rw [lists_len]; exact hjp)
      subst eap
      rw [lists_at ps j hjp] at hux
      obtain ⟨p, hpp⟩ : ∃ p, ps[j] = p := ⟨_, rfl⟩
      rw [hpp] at hux p0 hpl hc
      rw [ixs_more zs.length 10 p hpl hl10] at hux
      have R4 := R3.on hB
      have T4 := T3.on hB
      have hX := okL_of zs.length p
      have HZP := fun v w t h => zero_part v zs r' p w t h0 hl10 hr' hc p0 h
      obtain ⟨X, hXX⟩ : ∃ X, toZ (ixs zs.length p) = X := ⟨_, rfl⟩
      rw [hXX] at hux hX HZP
      have hXl := okL_len hX
      have HX := Lib.hid hX
      obtain ⟨xq, xc, rfl, hxc⟩ := hux
      have HXC := Lib.hid hxc
      have HR4 := Lib.hid R4
      have q1 : (0 : Int) ≤ (j : Int) := by omega
      have q2 : (j : Int) < (L : Int) := by omega
      clear hcell hpp hXX hX hxc p0 hpl hc hjp hr'
      go_wp2
      go_loopw [11, 78] (fun v11 v wq => ∃ (k c : Nat) (q : Option Addr), v = .int .i64 k ∧ k ≤ X.length ∧ v11 = .slice q k c ∧ Hid (OwnZ WA.heap.size wq (.slice q k c) (sel zs (X.take k))) ∧ Below WA.heap.size WA wq) (fun _ v _ => X.length - (intOf v).toNat)
      case atStart => exact ⟨0, 0, none, rfl, Nat.zero_le _, rfl, Lib.hid (by simp [sel]; exact World.ownsRow_nil _ _ _ _), Below.refl _ _⟩
      case round =>
        obtain ⟨k, c, q, rfl, hk, rfl, hO, hB2⟩ := hrel
        by_cases hlt : k < X.length
        · have gk : decide ((k : Int) < (X.length : Int)) = true := by simp [hlt]
          have W2 : IntKind.i64.wrap ((k : Int) + 1) = ((k + 1 : Nat) : Int) := by rw [IntWalk.i64_in _ (by omega)]; omega
          obtain ⟨ax, rfl, cx⟩ := HXC.out k hlt
          have cx := cell_later hB2 cx
          obtain ⟨h1, h2, -⟩ := okL_at HX.out hlt
          obtain ⟨i, hi⟩ : ∃ i : Nat, X[k] = (i : Int) := ⟨X[k].toNat, by omega⟩
          have hin : i < zs.length := by omega
          obtain ⟨uq', ucc', euq, hcu⟩ := HR4.out
          simp only [Value.slice.injEq] at euq
          obtain ⟨rfl, -, rfl⟩ := euq
          obtain ⟨au, rfl, cu⟩ := hcu i hin
          have cu := cell_later hB2 cu
          have est := sel_take zs X k hlt
          rw [hi] at est cx
          have ez : zs[i] = zs.getD i 0 := by simp [List.getD, hin]
          rw [ez] at cu
          rw [Int.toNat_natCast] at est
          obtain ⟨z, hzz⟩ : ∃ z, zs.getD i 0 = z := ⟨_, rfl⟩
          rw [hzz] at cu est
          have EST := Lib.hid est
          have gi1 : decide ((i : Int) < 0) = false := by simp
          have gi2 : decide ((zs.length : Int) ≤ (i : Int)) = false := by simp; omega
          have q3 : (0 : Int) ≤ (k : Int) := by omega
          have q4 : (k : Int) < (X.length : Int) := by omega
          have q5 : (0 : Int) ≤ (i : Int) := by omega
          have q6 : (i : Int) < (zs.length : Int) := by omega
          have lk : (sel zs (X.take k)).length + [z].length ≤ 100000 := by rw [sel_len, List.length_take]; simp only [List.length_cons, List.length_nil]; omega
          have LK := Lib.hid lk
          have o2 := hO.out.on (al1 wr (.cells #[.int .i64 z] 3))
          have l2 := lit1z wr z
          have z2 := (al1 wr (.cells #[.int .i64 z] 3)).size
          clear hzz est ez h1 h2 hi hcu lk
          go_wp2_with (at_builtin; refine wpList_append_rd rfl _ _ rfl rfl rfl o2 l2 (Nat.le_trans hB2.size z2) LK.out ?_)
          intro v' w5 o5 g5 _
          have B5 : Below WA.heap.size WA w5 := grown_below (hB2.trans ((al1 wr (.cells #[.int .i64 z] 3)).mono hB2.size)) g5 (fun j hj => (World.ownsRow.lt o2 j hj).1) (Nat.le_trans hB2.size z2)
          rw [← EST.out] at o5
          obtain ⟨q5', c5, rfl⟩ := o5.formed (n := k + 1) (by rw [sel_len, List.length_take]; omega)
          have O5 := Lib.hid o5
          clear o5 o2 l2 g5 hO
          go_wp2
          exact ⟨⟨k + 1, c5, q5', rfl, hlt, rfl, O5, B5⟩, by simp [intOf]; omega⟩
        · have gk : decide ((k : Int) < (X.length : Int)) = false := by simp; omega
          have ek : k = X.length := by omega
          have o5 := hO.out
          rw [List.take_of_length_le (by omega)] at o5
          have hzp := HZP _ wr (T4.on hB2) o5.rd
          have gx : ((X.length : Int) != (k : Int)) = false := by simp; omega
          clear o5 hO ek
          go_wp2_with (go_at_call 20; (with_reducible refine hzp.mono ?_); rintro e6 w6 ⟨q6, c6, rfl, b6⟩)
          exact ⟨⟨j + 1, rfl, hjl, belows (belows hB hB2) b6⟩, by simp [intOf]; omega⟩
    · have gd : decide ((j : Int) < (L : Int)) = false := by simp; omega
      have hmm := @run_makeMap Tryd.prog
      have R4 := R3.on hB
      have U4 := hU.on (belows bb3 hB)
      have bb4 := belows bb3 hB
      have hM := Ofm.made WA
      have bM := al1 WA (.map #[] 0)
      have sM : (WA.alloc (.map #[] 0)).heap.size = WA.heap.size + 1 := by simp
      have Y0 : Byc (WA.heap.size + 1) WA.heap.size 0 0 (WA.alloc (.map #[] 0)) (.slice none 0 0) [] := ⟨Nest.nil _ _, hM, by omega, rfl, by omega, fun x hx => by cases hx⟩
      have HY0 := Lib.hid Y0
      obtain ⟨j0, hj0, hy0, hy1, hy2⟩ := info_parts info22
      clear r3 R3 T3 bb3 HCAND hU hB hM sM Y0
      go_wp2
      go_loopw [16, 116] (fun v16 v wr => ∃ (i n cnt oc : Nat) (oq : Option Addr) (ls : List (List Int)), v = .int .i64 i ∧ i ≤ zs.length ∧ v16 = .slice oq n oc ∧ n ≤ i ∧ cnt ≤ i ∧ Hid (∀ x ∈ ls, x.length ≤ i) ∧ Hid (Byc (WA.heap.size + 1) WA.heap.size cnt n wr (.slice oq n oc) ls) ∧ Below WA.heap.size WA wr) (fun _ v _ => zs.length - (intOf v).toNat)
      case atStart => exact ⟨0, 0, 0, 0, none, [], rfl, Nat.zero_le _, rfl, Nat.le_refl _, Nat.le_refl _, Lib.hid (fun x hx => by cases hx), HY0, bM⟩
      case round =>
        clear HY0 bM
        obtain ⟨i, n, cnt, oc, oq, ls, rfl, hi, rfl, hni, hci, hSM, hY, hB⟩ := hrel
        obtain ⟨WB, rfl⟩ : ∃ W, W = wr := ⟨_, rfl⟩
        by_cases hlt : i < zs.length
        · have gi : decide ((i : Int) < (zs.length : Int)) = true := by simp [hlt]
          have W1 : IntKind.i64.wrap ((i : Int) + 1) = ((i + 1 : Nat) : Int) := by rw [IntWalk.i64_in _ (by omega)]; omega
          have W8 : IntKind.u8.wrap (i : Int) = (i : Int) := by rw [IntKind.wrap_u8]; omega
          by_cases hb0 : bs.length = 0
          · have gb : decide ((0 : Int) < (bs.length : Int)) = false := decide_eq_false (by omega)
            have gb2 : ¬ 0 < bs.length := by omega
            have gb3 : decide (0 < bs.length) = false := decide_eq_false gb2
            clear hb0
            go_upto_region 34 with fail
            have hkl : i < 256 := by omega
            obtain ⟨cv, fl, hlook, hfl⟩ := hY.out.map.look hkl
            cases fl
            · -- a new colour
              obtain ⟨WC, hput, hM1, hg1⟩ := hY.out.map.put (m := n) hkl (by omega) (by omega)
              obtain ⟨vs, oN, iN⟩ := hY.out.nest
              rw [hY.out.len] at oN
              have hsz := hY.out.size
              have oC := World.ownsRow.kept oN hg1 (by
                cases e : (Value.slice oq n oc).ownBlock with
                | none => exact .inl rfl
                | some b => exact .inr (fun e2 => by have := (World.ownsRow.lt oN b e).1; cases e2; omega))
              have iC : Inn (WA.heap.size + 1) WC (Value.slice oq n oc).ownBlock vs ls := ⟨iN.len, fun a u xs h1 h2 => (iN.own a u xs h1 h2).kept hg1 (fun b e e2 => by have := (World.ownsRow.lt (iN.own a u xs h1 h2) b e).1; cases e2; omega), iN.dis, iN.out⟩
              have bC : Below WA.heap.size WA WC := grown_below hB hg1 (fun j hj => by cases hj; exact Nat.le_refl _) hB.size
              have sC := hg1.size
              have oC2 := own_on oC (al1 WC (.cells #[.slice none 0 0] 22))
              have iC2 := iC.on (al1 WC (.cells #[.slice none 0 0] 22))
              have zC := (al1 WC (.cells #[.slice none 0 0] 22)).size
              have mC := hM1.on (al1 WC (.cells #[.slice none 0 0] 22))
              clear oN iN oC iC hM1 hg1 hfl
              go_upto_region 39 with (at_builtin; refine wpList_append_own_at _ rfl _ _ 39 rfl (WA.heap.size + 1) 22 j0 _ 1 24 Tryd.underlying39 hj0 hy0 hy1 hy2 rfl (by decide) _ n vs rfl oC2 ⟨_, 0, none⟩ 1 1 [.slice none 0 0] rfl rfl (cell_one_new _ _ _) (by simp [Value.oneCell']) (by unfold maxLen; omega) (by omega) (by omega) ?_)
              intro v' w5 o5 g5 n5 at5
              have Y5 := Byc.push hY.out oC2 iC2 mC (by omega) o5 g5 (by simpa using at5)
              have B5 : Below WA.heap.size WA w5 := grown_below (bC.trans ((al1 WC _).mono bC.size)) g5 (fun j hj => by have := (World.ownsRow.lt oC2 j hj).1; omega) (by have := bC.size; omega)
              have hx5 : (ls ++ [[]])[n]? = some [] := by rw [← hY.out.len]; simp
              have SM5 : Hid (∀ x ∈ ls ++ [[]], x.length ≤ i) := Lib.hid fun x hx => by
                rcases List.mem_append.1 hx with h | h
                · exact hSM.out x h
                · have : x = [] := by simpa using h
                  subst this; simp
              obtain ⟨q5, c5, rfl⟩ := nest_form Y5.nest Y5.len
              obtain ⟨G, cap, vs2, uu, eG, hBG, hGs, oG, iG, hu, hown, cu, fu, hne⟩ := Y5.nest.facts hx5
              rw [Y5.len] at eG oG
              simp only [Value.slice.injEq] at eG
              obtain ⟨rfl, -, rfl⟩ := eG
              have HY5 := Lib.hid Y5
              clear o5 g5 n5 at5 Y5 oC2 iC2 mC
              have kk : (n : Int) < ((n + 1 : Nat) : Int) := by omega
              have xl : ([] : List Int).length ≤ i := by simp
              have kk0 : (0 : Int) ≤ (n : Int) := by omega
              have oA := own_on oG (al1 w5 (.cells #[.int .i64 (i : Int)] 3))
              have iA := iG.on (al1 w5 (.cells #[.int .i64 (i : Int)] 3))
              have hA := hown.on (al1 w5 (.cells #[.int .i64 (i : Int)] 3))
              have mA := HY5.out.map.on (al1 w5 (.cells #[.int .i64 (i : Int)] 3))
              have zA := (al1 w5 (.cells #[.int .i64 (i : Int)] 3)).size
              have lA := lit1z w5 (i : Int)
              have sY := HY5.out.size
              obtain ⟨uq', un', uc', euu⟩ : ∃ q n c, uu = .slice q n c := by obtain ⟨q, c, e, -⟩ := hown.cell; exact ⟨q, _, c, e⟩
              subst euu
              have nG : some G ≠ (Value.slice uq' un' uc').ownBlock := fun e => hne G e.symm rfl
              have XL := Lib.hid xl
              have e1 : ([] : List Int).length + [(i : Int)].length ≤ 100000 := by rw [List.length_singleton]; omega
              have E1 := Lib.hid e1
              clear e1
              have K6 : ∀ v6 w6, OwnZ (WA.heap.size + 1) w6 v6 ([] ++ [(i : Int)]) → (w5.alloc (.cells #[.int .i64 (i : Int)] 3)).grownBy w6 (Value.slice uq' un' uc').ownBlock → (v6.ownBlock = (Value.slice uq' un' uc').ownBlock ∨ v6.ownBlock = some (w5.alloc (.cells #[.int .i64 (i : Int)] 3)).heap.size) → (w6.frozen? ⟨G, n, none⟩ = false ∧ w6.cell? ⟨G, n, none⟩ = some (Value.slice uq' un' uc')) ∧ Hid (Byc (WA.heap.size + 1) WA.heap.size (cnt + 1) (n + 1) (w6.setCell ⟨G, n, none⟩ v6) (.slice (some ⟨G, 0, none⟩) (n + 1) c5) ((ls ++ [[]]).set n ([] ++ [(i : Int)]))) ∧ Below WA.heap.size WA (w6.setCell ⟨G, n, none⟩ v6) := fun v6 w6 o6 g6 at6 => by
                refine ⟨⟨(g6.frozen_far ⟨G, n, none⟩ (by simp; omega) nG).trans (((al1 w5 _).frozen hGs).trans fu), (g6.cell_far ⟨G, n, none⟩ (by simp; omega) nG).trans (((al1 w5 _).cell hGs).trans cu)⟩, Lib.hid (Byc.grow (i := n) mA HY5.out.lt HY5.out.len HY5.out.small (by have := XL.out; omega) (by omega) oA iA hu hx5 hBG o6 g6 at6), ?_⟩
                exact (grown_below (B5.trans ((al1 w5 _).mono B5.size)) g6 (fun j hj => by have := (World.ownsRow.lt hA j hj).1; omega) (by have := B5.size; omega)).setCell (by simp; omega) _
              go_wp2_with (at_builtin; refine wpList_append_rd rfl _ _ rfl rfl rfl hA lA (by omega) E1.out ?_; intro v6 w6 o6 g6 at6; obtain ⟨q6, c6, ev6⟩ := o6.formed (n := 1) (by simp); subst ev6; obtain ⟨⟨FF, CC⟩, HY6, B6⟩ := K6 _ w6 o6 g6 at6)
              have SM6 : Hid (∀ x ∈ (ls ++ [[]]).set n ([] ++ [(i : Int)]), x.length ≤ i + 1) := Lib.hid fun x hx => by
                rcases List.mem_or_eq_of_mem_set hx with h | rfl
                · have := SM5.out x h; omega
                · rw [List.length_append, List.length_singleton]; have := XL.out; omega
              exact ⟨⟨i + 1, n + 1, cnt + 1, _, _, (ls ++ [[]]).set n ([] ++ [(i : Int)]), rfl, hlt, rfl, by omega, by omega, SM6, HY6, B6⟩, by simp [intOf]; omega⟩
            · -- a colour that was seen
              obtain ⟨k, hk, rfl⟩ := hfl rfl
              have hkl2 : k < ls.length := by rw [hY.out.len]; exact hk
              have hx5 : ls[k]? = some ls[k] := List.getElem?_eq_getElem hkl2
              obtain ⟨xk, hxk⟩ : ∃ x, ls[k] = x := ⟨_, rfl⟩
              have xl : xk.length ≤ i := by rw [← hxk]; exact hSM.out _ (List.getElem_mem hkl2)
              rw [hxk] at hx5
              obtain ⟨G, cap, vs2, uu, eG, hBG, hGs, oG, iG, hu, hown, cu, fu, hne⟩ := hY.out.nest.facts hx5
              rw [hY.out.len] at eG oG
              simp only [Value.slice.injEq] at eG
              obtain ⟨rfl, -, rfl⟩ := eG
              have HY5 := hY
              have SM5 := hSM
              have B5 := hB
              have kk : (k : Int) < (n : Int) := by omega
              clear hxk hkl2 hfl
              have kk0 : (0 : Int) ≤ (k : Int) := by omega
              have oA := own_on oG (al1 WB (.cells #[.int .i64 (i : Int)] 3))
              have iA := iG.on (al1 WB (.cells #[.int .i64 (i : Int)] 3))
              have hA := hown.on (al1 WB (.cells #[.int .i64 (i : Int)] 3))
              have mA := HY5.out.map.on (al1 WB (.cells #[.int .i64 (i : Int)] 3))
              have zA := (al1 WB (.cells #[.int .i64 (i : Int)] 3)).size
              have lA := lit1z WB (i : Int)
              have sY := HY5.out.size
              obtain ⟨uq', un', uc', euu⟩ : ∃ q n c, uu = .slice q n c := by obtain ⟨q, c, e, -⟩ := hown.cell; exact ⟨q, _, c, e⟩
              subst euu
              have nG : some G ≠ (Value.slice uq' un' uc').ownBlock := fun e => hne G e.symm rfl
              have XL := Lib.hid xl
              have e1 : (xk : List Int).length + [(i : Int)].length ≤ 100000 := by rw [List.length_singleton]; omega
              have E1 := Lib.hid e1
              clear e1
              have K6 : ∀ v6 w6, OwnZ (WA.heap.size + 1) w6 v6 (xk ++ [(i : Int)]) → (WB.alloc (.cells #[.int .i64 (i : Int)] 3)).grownBy w6 (Value.slice uq' un' uc').ownBlock → (v6.ownBlock = (Value.slice uq' un' uc').ownBlock ∨ v6.ownBlock = some (WB.alloc (.cells #[.int .i64 (i : Int)] 3)).heap.size) → (w6.frozen? ⟨G, k, none⟩ = false ∧ w6.cell? ⟨G, k, none⟩ = some (Value.slice uq' un' uc')) ∧ Hid (Byc (WA.heap.size + 1) WA.heap.size (cnt) (n) (w6.setCell ⟨G, k, none⟩ v6) (.slice (some ⟨G, 0, none⟩) n oc) ((ls).set k (xk ++ [(i : Int)]))) ∧ Below WA.heap.size WA (w6.setCell ⟨G, k, none⟩ v6) := fun v6 w6 o6 g6 at6 => by
                refine ⟨⟨(g6.frozen_far ⟨G, k, none⟩ (by simp; omega) nG).trans (((al1 WB _).frozen hGs).trans fu), (g6.cell_far ⟨G, k, none⟩ (by simp; omega) nG).trans (((al1 WB _).cell hGs).trans cu)⟩, Lib.hid (Byc.grow (i := k) mA HY5.out.lt HY5.out.len HY5.out.small (by have := XL.out; omega) (by omega) oA iA hu hx5 hBG o6 g6 at6), ?_⟩
                exact (grown_below (B5.trans ((al1 WB _).mono B5.size)) g6 (fun j hj => by have := (World.ownsRow.lt hA j hj).1; omega) (by have := B5.size; omega)).setCell (by simp; omega) _
              go_wp2_with (at_builtin; refine wpList_append_rd rfl _ _ rfl rfl rfl hA lA (by omega) E1.out ?_; intro v6 w6 o6 g6 at6; obtain ⟨q6, c6, ev6⟩ := o6.formed (n := xk.length + 1) (by simp); subst ev6; obtain ⟨⟨FF, CC⟩, HY6, B6⟩ := K6 _ w6 o6 g6 at6)
              have SM6 : Hid (∀ x ∈ (ls).set k (xk ++ [(i : Int)]), x.length ≤ i + 1) := Lib.hid fun x hx => by
                rcases List.mem_or_eq_of_mem_set hx with h | rfl
                · have := SM5.out x h; omega
                · rw [List.length_append, List.length_singleton]; have := XL.out; omega
              exact ⟨⟨i + 1, n, cnt, _, _, (ls).set k (xk ++ [(i : Int)]), rfl, hlt, rfl, by omega, by omega, SM6, HY6, B6⟩, by simp [intOf]; omega⟩
          · have gb : decide ((0 : Int) < (bs.length : Int)) = true := decide_eq_true (by omega)
            have gb2 : 0 < bs.length := by omega
            have gb3 : decide (0 < bs.length) = true := decide_eq_true gb2
            have hm : i % bs.length < bs.length := Nat.mod_lt _ (by omega)
            have TM : (i : Int) % (bs.length : Int) = ((i % bs.length : Nat) : Int) := rfl
            obtain ⟨bq', bc', ebq, hcell⟩ := U4.on hB
            simp only [Value.slice.injEq] at ebq
            obtain ⟨rfl, -, rfl⟩ := ebq
            obtain ⟨ab, rfl, cb, hby⟩ := hcell _ hm
            obtain ⟨y, hyy⟩ : ∃ y, y = bs[i % bs.length] := ⟨_, rfl⟩
            rw [← hyy] at cb hby
            obtain ⟨d, hd⟩ : ∃ d, d = i % bs.length := ⟨_, rfl⟩
            rw [← hd] at TM hm
            have cb : WB.cell? (ab.add d) = some (.int .u8 (y : Int)) := by rw [hd]; exact cb
            have TM8 : (y : Int) % 8 = ((y % 8 : Nat) : Int) := rfl
            obtain ⟨c, hc⟩ : ∃ c, c = y % 8 := ⟨_, rfl⟩
            rw [← hc] at TM8
            have hcl : c < 256 := by omega
            have q1 : (0 : Int) ≤ (d : Int) := by omega
            have q2 : (d : Int) < (bs.length : Int) := by omega
            clear hb0 hcell hyy hd hc
            go_upto_region 34 with fail
            have hkl : c < 256 := by omega
            obtain ⟨cv, fl, hlook, hfl⟩ := hY.out.map.look hkl
            cases fl
            · -- a new colour
              obtain ⟨WC, hput, hM1, hg1⟩ := hY.out.map.put (m := n) hkl (by omega) (by omega)
              obtain ⟨vs, oN, iN⟩ := hY.out.nest
              rw [hY.out.len] at oN
              have hsz := hY.out.size
              have oC := World.ownsRow.kept oN hg1 (by
                cases e : (Value.slice oq n oc).ownBlock with
                | none => exact .inl rfl
                | some b => exact .inr (fun e2 => by have := (World.ownsRow.lt oN b e).1; cases e2; omega))
              have iC : Inn (WA.heap.size + 1) WC (Value.slice oq n oc).ownBlock vs ls := ⟨iN.len, fun a u xs h1 h2 => (iN.own a u xs h1 h2).kept hg1 (fun b e e2 => by have := (World.ownsRow.lt (iN.own a u xs h1 h2) b e).1; cases e2; omega), iN.dis, iN.out⟩
              have bC : Below WA.heap.size WA WC := grown_below hB hg1 (fun j hj => by cases hj; exact Nat.le_refl _) hB.size
              have sC := hg1.size
              have oC2 := own_on oC (al1 WC (.cells #[.slice none 0 0] 22))
              have iC2 := iC.on (al1 WC (.cells #[.slice none 0 0] 22))
              have zC := (al1 WC (.cells #[.slice none 0 0] 22)).size
              have mC := hM1.on (al1 WC (.cells #[.slice none 0 0] 22))
              clear oN iN oC iC hM1 hg1 hfl
              go_upto_region 39 with (at_builtin; refine wpList_append_own_at _ rfl _ _ 39 rfl (WA.heap.size + 1) 22 j0 _ 1 24 Tryd.underlying39 hj0 hy0 hy1 hy2 rfl (by decide) _ n vs rfl oC2 ⟨_, 0, none⟩ 1 1 [.slice none 0 0] rfl rfl (cell_one_new _ _ _) (by simp [Value.oneCell']) (by unfold maxLen; omega) (by omega) (by omega) ?_)
              intro v' w5 o5 g5 n5 at5
              have Y5 := Byc.push hY.out oC2 iC2 mC (by omega) o5 g5 (by simpa using at5)
              have B5 : Below WA.heap.size WA w5 := grown_below (bC.trans ((al1 WC _).mono bC.size)) g5 (fun j hj => by have := (World.ownsRow.lt oC2 j hj).1; omega) (by have := bC.size; omega)
              have hx5 : (ls ++ [[]])[n]? = some [] := by rw [← hY.out.len]; simp
              have SM5 : Hid (∀ x ∈ ls ++ [[]], x.length ≤ i) := Lib.hid fun x hx => by
                rcases List.mem_append.1 hx with h | h
                · exact hSM.out x h
                · have : x = [] := by simpa using h
                  subst this; simp
              obtain ⟨q5, c5, rfl⟩ := nest_form Y5.nest Y5.len
              obtain ⟨G, cap, vs2, uu, eG, hBG, hGs, oG, iG, hu, hown, cu, fu, hne⟩ := Y5.nest.facts hx5
              rw [Y5.len] at eG oG
              simp only [Value.slice.injEq] at eG
              obtain ⟨rfl, -, rfl⟩ := eG
              have HY5 := Lib.hid Y5
              clear o5 g5 n5 at5 Y5 oC2 iC2 mC
              have kk : (n : Int) < ((n + 1 : Nat) : Int) := by omega
              have xl : ([] : List Int).length ≤ i := by simp
              have kk0 : (0 : Int) ≤ (n : Int) := by omega
              have oA := own_on oG (al1 w5 (.cells #[.int .i64 (i : Int)] 3))
              have iA := iG.on (al1 w5 (.cells #[.int .i64 (i : Int)] 3))
              have hA := hown.on (al1 w5 (.cells #[.int .i64 (i : Int)] 3))
              have mA := HY5.out.map.on (al1 w5 (.cells #[.int .i64 (i : Int)] 3))
              have zA := (al1 w5 (.cells #[.int .i64 (i : Int)] 3)).size
              have lA := lit1z w5 (i : Int)
              have sY := HY5.out.size
              obtain ⟨uq', un', uc', euu⟩ : ∃ q n c, uu = .slice q n c := by obtain ⟨q, c, e, -⟩ := hown.cell; exact ⟨q, _, c, e⟩
              subst euu
              have nG : some G ≠ (Value.slice uq' un' uc').ownBlock := fun e => hne G e.symm rfl
              have XL := Lib.hid xl
              have e1 : ([] : List Int).length + [(i : Int)].length ≤ 100000 := by rw [List.length_singleton]; omega
              have E1 := Lib.hid e1
              clear e1
              have K6 : ∀ v6 w6, OwnZ (WA.heap.size + 1) w6 v6 ([] ++ [(i : Int)]) → (w5.alloc (.cells #[.int .i64 (i : Int)] 3)).grownBy w6 (Value.slice uq' un' uc').ownBlock → (v6.ownBlock = (Value.slice uq' un' uc').ownBlock ∨ v6.ownBlock = some (w5.alloc (.cells #[.int .i64 (i : Int)] 3)).heap.size) → (w6.frozen? ⟨G, n, none⟩ = false ∧ w6.cell? ⟨G, n, none⟩ = some (Value.slice uq' un' uc')) ∧ Hid (Byc (WA.heap.size + 1) WA.heap.size (cnt + 1) (n + 1) (w6.setCell ⟨G, n, none⟩ v6) (.slice (some ⟨G, 0, none⟩) (n + 1) c5) ((ls ++ [[]]).set n ([] ++ [(i : Int)]))) ∧ Below WA.heap.size WA (w6.setCell ⟨G, n, none⟩ v6) := fun v6 w6 o6 g6 at6 => by
                refine ⟨⟨(g6.frozen_far ⟨G, n, none⟩ (by simp; omega) nG).trans (((al1 w5 _).frozen hGs).trans fu), (g6.cell_far ⟨G, n, none⟩ (by simp; omega) nG).trans (((al1 w5 _).cell hGs).trans cu)⟩, Lib.hid (Byc.grow (i := n) mA HY5.out.lt HY5.out.len HY5.out.small (by have := XL.out; omega) (by omega) oA iA hu hx5 hBG o6 g6 at6), ?_⟩
                exact (grown_below (B5.trans ((al1 w5 _).mono B5.size)) g6 (fun j hj => by have := (World.ownsRow.lt hA j hj).1; omega) (by have := B5.size; omega)).setCell (by simp; omega) _
              go_wp2_with (at_builtin; refine wpList_append_rd rfl _ _ rfl rfl rfl hA lA (by omega) E1.out ?_; intro v6 w6 o6 g6 at6; obtain ⟨q6, c6, ev6⟩ := o6.formed (n := 1) (by simp); subst ev6; obtain ⟨⟨FF, CC⟩, HY6, B6⟩ := K6 _ w6 o6 g6 at6)
              have SM6 : Hid (∀ x ∈ (ls ++ [[]]).set n ([] ++ [(i : Int)]), x.length ≤ i + 1) := Lib.hid fun x hx => by
                rcases List.mem_or_eq_of_mem_set hx with h | rfl
                · have := SM5.out x h; omega
                · rw [List.length_append, List.length_singleton]; have := XL.out; omega
              exact ⟨⟨i + 1, n + 1, cnt + 1, _, _, (ls ++ [[]]).set n ([] ++ [(i : Int)]), rfl, hlt, rfl, by omega, by omega, SM6, HY6, B6⟩, by simp [intOf]; omega⟩
            · -- a colour that was seen
              obtain ⟨k, hk, rfl⟩ := hfl rfl
              have hkl2 : k < ls.length := by rw [hY.out.len]; exact hk
              have hx5 : ls[k]? = some ls[k] := List.getElem?_eq_getElem hkl2
              obtain ⟨xk, hxk⟩ : ∃ x, ls[k] = x := ⟨_, rfl⟩
              have xl : xk.length ≤ i := by rw [← hxk]; exact hSM.out _ (List.getElem_mem hkl2)
              rw [hxk] at hx5
              obtain ⟨G, cap, vs2, uu, eG, hBG, hGs, oG, iG, hu, hown, cu, fu, hne⟩ := hY.out.nest.facts hx5
              rw [hY.out.len] at eG oG
              simp only [Value.slice.injEq] at eG
              obtain ⟨rfl, -, rfl⟩ := eG
              have HY5 := hY
              have SM5 := hSM
              have B5 := hB
              have kk : (k : Int) < (n : Int) := by omega
              clear hxk hkl2 hfl
              have kk0 : (0 : Int) ≤ (k : Int) := by omega
              have oA := own_on oG (al1 WB (.cells #[.int .i64 (i : Int)] 3))
              have iA := iG.on (al1 WB (.cells #[.int .i64 (i : Int)] 3))
              have hA := hown.on (al1 WB (.cells #[.int .i64 (i : Int)] 3))
              have mA := HY5.out.map.on (al1 WB (.cells #[.int .i64 (i : Int)] 3))
              have zA := (al1 WB (.cells #[.int .i64 (i : Int)] 3)).size
              have lA := lit1z WB (i : Int)
              have sY := HY5.out.size
              obtain ⟨uq', un', uc', euu⟩ : ∃ q n c, uu = .slice q n c := by obtain ⟨q, c, e, -⟩ := hown.cell; exact ⟨q, _, c, e⟩
              subst euu
              have nG : some G ≠ (Value.slice uq' un' uc').ownBlock := fun e => hne G e.symm rfl
              have XL := Lib.hid xl
              have e1 : (xk : List Int).length + [(i : Int)].length ≤ 100000 := by rw [List.length_singleton]; omega
              have E1 := Lib.hid e1
              clear e1
              have K6 : ∀ v6 w6, OwnZ (WA.heap.size + 1) w6 v6 (xk ++ [(i : Int)]) → (WB.alloc (.cells #[.int .i64 (i : Int)] 3)).grownBy w6 (Value.slice uq' un' uc').ownBlock → (v6.ownBlock = (Value.slice uq' un' uc').ownBlock ∨ v6.ownBlock = some (WB.alloc (.cells #[.int .i64 (i : Int)] 3)).heap.size) → (w6.frozen? ⟨G, k, none⟩ = false ∧ w6.cell? ⟨G, k, none⟩ = some (Value.slice uq' un' uc')) ∧ Hid (Byc (WA.heap.size + 1) WA.heap.size (cnt) (n) (w6.setCell ⟨G, k, none⟩ v6) (.slice (some ⟨G, 0, none⟩) n oc) ((ls).set k (xk ++ [(i : Int)]))) ∧ Below WA.heap.size WA (w6.setCell ⟨G, k, none⟩ v6) := fun v6 w6 o6 g6 at6 => by
                refine ⟨⟨(g6.frozen_far ⟨G, k, none⟩ (by simp; omega) nG).trans (((al1 WB _).frozen hGs).trans fu), (g6.cell_far ⟨G, k, none⟩ (by simp; omega) nG).trans (((al1 WB _).cell hGs).trans cu)⟩, Lib.hid (Byc.grow (i := k) mA HY5.out.lt HY5.out.len HY5.out.small (by have := XL.out; omega) (by omega) oA iA hu hx5 hBG o6 g6 at6), ?_⟩
                exact (grown_below (B5.trans ((al1 WB _).mono B5.size)) g6 (fun j hj => by have := (World.ownsRow.lt hA j hj).1; omega) (by have := B5.size; omega)).setCell (by simp; omega) _
              go_wp2_with (at_builtin; refine wpList_append_rd rfl _ _ rfl rfl rfl hA lA (by omega) E1.out ?_; intro v6 w6 o6 g6 at6; obtain ⟨q6, c6, ev6⟩ := o6.formed (n := xk.length + 1) (by simp); subst ev6; obtain ⟨⟨FF, CC⟩, HY6, B6⟩ := K6 _ w6 o6 g6 at6)
              have SM6 : Hid (∀ x ∈ (ls).set k (xk ++ [(i : Int)]), x.length ≤ i + 1) := Lib.hid fun x hx => by
                rcases List.mem_or_eq_of_mem_set hx with h | rfl
                · have := SM5.out x h; omega
                · rw [List.length_append, List.length_singleton]; have := XL.out; omega
              exact ⟨⟨i + 1, n, cnt, _, _, (ls).set k (xk ++ [(i : Int)]), rfl, hlt, rfl, by omega, by omega, SM6, HY6, B6⟩, by simp [intOf]; omega⟩
        · have gi : decide ((i : Int) < (zs.length : Int)) = false := by simp; omega
          have R5 := R4.on hB
          have hYY := hY.out
          have hll : ls.length ≤ 100000 := by rw [hYY.len]; omega
          have hlx : ∀ x ∈ ls, x.length ≤ 100000 := fun x hx => by have := hYY.small x hx; omega
          have b5 := belows bb4 hB
          by_cases hC : Chk zs (allS zs) ls 0
          · have hk := check_yes (.slice uq zs.length ucc) _ zs ls WB R5 hYY.nest.rd hl10 h0 hll hlx hC
            have hnL : n ≤ L := by
              have := (MF_counts zs hl10 (allS zs) hAl).2 _ hC.pack
              rw [hYY.len, HLL.out] at this
              exact this
            have gL : decide ((n : Int) ≤ (L : Int)) = true := decide_eq_true (by omega)
            clear hYY hY hC hll hlx
            go_wp2_with (go_at_call 25; (with_reducible refine hk.mono ?_); rintro e7 w7 ⟨rfl, hw⟩; subst w7)
            go_ret
            exact ⟨rfl, b5⟩
          · have hk := check_no (.slice uq zs.length ucc) _ zs ls WB R5 hYY.nest.rd hl10 h0 hll hlx hC
            clear hYY hY hC hll hlx
            go_wp2_with (go_at_call 25; (with_reducible refine hk.mono ?_); rintro e7 w7 ⟨rfl, hw⟩; subst w7)
            go_ret
            exact ⟨rfl, b5⟩
theorem most_row (u : Value) (zs : List Int) (u2 : Value) (bs : List Nat) (w : World) (hR : Rdz w u zs) (hU : Rdu w u2 bs) (hT : Tab w) :
    Calls Tryd.prog 7 #[u, u2] w fun e w' => e = .returned (.bool true) ∧ Below w.heap.size w w' := most_walk u u2 zs bs w hR hU hT
end Go.Proofs.YtepcokgpepcccaaDoor
