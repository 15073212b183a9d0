/- StepsParts: the walk. -/
import Derived.Test.YtbohcedclnbcdaaP2
import Derived.Deep.RegionHeld3
import Derived.Deep.DeepCutAuto
namespace Go.Proofs.Ytbohcedclnbcdaa
open Go.ChangeShapes Go.WideShapes Go.ChangeAt Go.RowKit
set_option linter.unusedVariables false
set_option linter.unusedSimpArgs false

structure Ep (w : World) (g : Nat) (u v t : Int) (p q : Option Addr) (la lb : List Stp) (W : World) : Prop where
  hh : Has W g 3 #[.int .i64 u, .int .i64 v, .int .i64 t]
  ha : Sl W p la
  hb : Sl W q lb
  bl : Below w.heap.size w W
theorem Ep.on {w : World} {g : Nat} {u v t : Int} {p q : Option Addr} {la lb : List Stp} {W W' : World} (E : Ep w g u v t p q la lb W) (hb : Below W.heap.size W W') : Ep w g u v t p q la lb W' :=
  ⟨E.hh.on hb, E.ha.on hb, E.hb.on hb, belows E.bl hb⟩
theorem Ep.drw {w : World} {g : Nat} {u v t : Int} {p q : Option Addr} {la lb : List Stp} {W : World} (E : Ep w g u v t p q la lb W) : Ep w g u v t p q la lb W.drew := ⟨E.hh, E.ha, E.hb, below_dr E.bl⟩
theorem cells_e {w : World} {g : Nat} {u v t : Int} {p q : Option Addr} {la lb : List Stp} {W : World} (E : Ep w g u v t p q la lb W) :
    W.cell? ⟨g, 0, none⟩ = some (.int .i64 u) ∧ W.cell? ⟨g, 1, none⟩ = some (.int .i64 v) ∧ W.cell? ⟨g, 2, none⟩ = some (.int .i64 t) ∧ Ep w g u v t p q la lb W := ⟨E.hh.read 0, E.hh.read 1, E.hh.read 2, E⟩
theorem add_no (p q : Option Addr) (la lb : List Stp) (c d : Nat) (w : World) (hA : Sl w p la) (hB : Sl w q lb) (h : (okS la && okS lb) = false) :
    Calls Try.prog 20 #[.slice p la.length c, .slice q lb.length d] w fun e w' => ∃ p' c', e = .returned (.tuple #[.slice p' 0 c', .int .i64 1]) ∧ Below w.heap.size w w' := by
  refine (add_any p q la lb c d w hA hB).mono ?_
  rintro e w' ⟨v, rfl, ho, hb⟩
  have e : rs o45 la lb = ([], 1) := by unfold rs; rw [if_neg (by rw [h]; simp)]
  rw [e] at ho ⊢
  obtain ⟨p', c', rfl⟩ := ho.form
  exact ⟨p', c', rfl, hb⟩
set_option maxHeartbeats 4000000 in
set_option maxRecDepth 100000 in
theorem parts_long (p : Option Addr) (la : List Stp) (ca : Nat) (q : Option Addr) (lb : List Stp) (cb : Nat) (x y z : Int) (w : World) (hA : Sl w p la) (hB : Sl w q lb) (hl : (decide (250 < la.length) || decide (250 < lb.length)) = true) :
    Calls Try.prog 9 #[.slice p la.length ca, .slice q lb.length cb, .int .i64 x, .int .i64 y, .int .i64 z] w fun e w' => e = .returned (.bool true) ∧ Below w.heap.size w w' := by
  have ha := fun W => awake_any W
  have hf := fun W => few2 W p q la.length ca lb.length cb
  rw [hl, Bool.not_true] at hf
  clear hl
  go_enter Try.func9, Try.ntmps9
  go_wp2_with (first
    | (go_at_call 11; (with_reducible refine (ha _).mono ?_); rintro e w1 ⟨rfl, hb⟩; have B := al hb (.cells #[.slice p la.length ca, .slice q lb.length cb] 22); clear hb)
    | (go_at_call 12; (with_reducible refine (hf _).mono ?_); rintro e w2 ⟨rfl, hw⟩; obtain rfl := hw.symm; clear hw))
  go_ret
  exact ⟨rfl, B⟩
set_option maxHeartbeats 8000000 in
set_option maxRecDepth 100000 in
theorem parts_walk0 (p : Option Addr) (la : List Stp) (ca : Nat) (q : Option Addr) (lb : List Stp) (cb : Nat) (x y z : Int) (w : World) (hA : Sl w p la) (hB : Sl w q lb) (hl : (decide (250 < la.length) || decide (250 < lb.length)) = false) :
    Calls Try.prog 9 #[.slice p la.length ca, .slice q lb.length cb, .int .i64 x, .int .i64 y, .int .i64 z] w fun e w' => e = .returned (.bool true) ∧ Below w.heap.size w w' := by
  have ha := fun W => awake_any W
  have hf := fun W => few2 W p q la.length ca lb.length cb
  rw [hl, Bool.not_false] at hf
  clear hl
  go_enter Try.func9, Try.ntmps9
  go_upto_region 7 with (first
    | (go_at_call 11; (with_reducible refine (ha _).mono ?_); rintro e w1 ⟨rfl, hb⟩; have B := al hb (.cells #[.slice p la.length ca, .slice q lb.length cb] 22); have B2 := al B (.cells #[.int .i64 x, .int .i64 y, .int .i64 z] 3); have HN := Has.new_ (w1.alloc (.cells #[.slice p la.length ca, .slice q lb.length cb] 22)) 3 #[.int .i64 x, .int .i64 y, .int .i64 z]; rw [World.size_alloc] at HN; have hz1 := hb.size; clear hb B)
    | (go_at_call 12; (with_reducible refine (hf _).mono ?_); rintro e w2 ⟨rfl, hw⟩; obtain rfl := hw.symm; clear hw)
    | (go_at_call 31; (with_reducible refine (sort3 (w1.heap.size + 1) x y z _ HN).mono ?_); rintro e w3 ⟨rfl, u, v, t, huv, hvt, hh, hb3⟩))
  have B3 := B2.trans (hb3.mono (show w.heap.size ≤ w1.heap.size + 1 by omega))
  have E : Ep w (w1.heap.size + 1) u v t p q la lb w3 := ⟨hh, hA.on B3, hB.on B3, B3⟩
  clear hh B3 hb3 HN B2 hz1 hA hB ha hf
  generalize w1.heap.size + 1 = g at *
  have h1 := fun W h => sum_any p la ca u t W h
  have h2 := fun W h => sum_any p la ca u v W h
  have h3 := fun W h => sum_any p la ca v t W h
  have C := cells_e E
  by_cases hgd : okS la = true ∧ rng u t = true
  case neg =>
    have e0 : sumV la u t = 0 ∧ sumC la u t ≠ 0 := by
      unfold sumV sumC
      cases ho : okS la
      · exact ⟨rfl, by show (1 : Int) ≠ 0; decide⟩
      · cases hr : rng u t
        · exact ⟨rfl, by show (2 : Int) ≠ 0; decide⟩
        · exact absurd ⟨ho, hr⟩ hgd
    rw [e0.1] at h1
    have g1 : (sumC la u t != 0) = true := by simp [e0.2]
    generalize sumC la u t = c1 at *
    generalize sumC la u v = c2 at *
    generalize sumC la v t = c3 at *
    generalize sumV la u v = v2 at *
    generalize sumV la v t = v3 at *
    clear e0 hgd
    go_wp2_with fail
    go_region_held3 (fun W' => W'.cell? ⟨g, 0, none⟩ = some (.int .i64 u) ∧ W'.cell? ⟨g, 1, none⟩ = some (.int .i64 v) ∧ W'.cell? ⟨g, 2, none⟩ = some (.int .i64 t) ∧ Ep w g u v t p q la lb W') (first | exact cells_e (by go_split_ands; assumption) | exact cells_e E | exact cells_e E.drw) ((go_at_call 25; (first | (with_reducible refine (h1 _ E.ha).mono ?_) | (with_reducible refine (h1 _ E.drw.ha).mono ?_)); rintro X wK ⟨rfl, hb⟩; (first | have E := E.drw.on hb | have E := E.on hb); clear hb))
    go_wp2_with fail
    go_region_held3 (fun W' => W'.cell? ⟨g, 0, none⟩ = some (.int .i64 u) ∧ W'.cell? ⟨g, 1, none⟩ = some (.int .i64 v) ∧ W'.cell? ⟨g, 2, none⟩ = some (.int .i64 t) ∧ Ep w g u v t p q la lb W') (first | exact cells_e (by go_split_ands; assumption) | exact cells_e E | exact cells_e E.drw) ((go_at_call 25; (first | (with_reducible refine (h2 _ E.ha).mono ?_) | (with_reducible refine (h2 _ E.drw.ha).mono ?_)); rintro X wK ⟨rfl, hb⟩; (first | have E := E.drw.on hb | have E := E.on hb); clear hb))
    go_wp2_with fail
    go_region_held3 (fun W' => W'.cell? ⟨g, 0, none⟩ = some (.int .i64 u) ∧ W'.cell? ⟨g, 1, none⟩ = some (.int .i64 v) ∧ W'.cell? ⟨g, 2, none⟩ = some (.int .i64 t) ∧ Ep w g u v t p q la lb W') (first | exact cells_e (by go_split_ands; assumption) | exact cells_e E | exact cells_e E.drw) ((go_at_call 25; (first | (with_reducible refine (h3 _ E.ha).mono ?_) | (with_reducible refine (h3 _ E.drw.ha).mono ?_)); rintro X wK ⟨rfl, hb⟩; (first | have E := E.drw.on hb | have E := E.on hb); clear hb))
    go_wp2
    go_ret
    exact ⟨by simp, E.bl⟩
  case pos =>
    obtain ⟨oa, hR⟩ := hgd
    have hr3 : plc u = true ∧ plc t = true := by unfold rng at hR; simp at hR; exact hR.1
    have pu := (plc_iff _).1 hr3.1
    have pt := (plc_iff _).1 hr3.2
    have pv : plc v = true := (plc_iff _).2 (by omega)
    have r2 : rng u v = true := by unfold rng; rw [hr3.1, pv]; simpa using huv
    have r3 : rng v t = true := by unfold rng; rw [hr3.2, pv]; simpa using hvt
    have oa' := okS_to oa
    have e1 : sumV la u t = smT la u t ∧ sumC la u t = 0 := by unfold sumV sumC; rw [oa, hR]; exact ⟨rfl, rfl⟩
    have e2 : sumV la u v = smT la u v ∧ sumC la u v = 0 := by unfold sumV sumC; rw [oa, r2]; exact ⟨rfl, rfl⟩
    have e3 : sumV la v t = smT la v t ∧ sumC la v t = 0 := by unfold sumV sumC; rw [oa, r3]; exact ⟨rfl, rfl⟩
    rw [e1.1, e1.2] at h1
    rw [e2.1, e2.2] at h2
    rw [e3.1, e3.2] at h3
    have hsum := sm_parts oa' hr3.1 pv huv hvt
    have hbd := smP_small oa' hr3.1 hr3.2 (by omega) la.length (Nat.le_refl _)
    change 0 ≤ smT la u t ∧ smT la u t ≤ 2305843009213693952 at hbd
    have h4 := fun W h => at_ok p la ca u W h oa
    have h5 := fun W h => add_no p q la lb ca cb W h
    have h6 : u < 1048576 → ∀ W, Sl W p la → Calls Try.prog 25 #[.slice p la.length ca, .int .i64 u, .int .i64 (u + 1)] W fun e w' => e = .returned (.tuple #[.int .i64 (va la u), .int .i64 0]) ∧ Below W.heap.size W w' := fun hlt W h => by
      have r4 : rng u (u + 1) = true := by unfold rng; rw [hr3.1, (plc_iff (u + 1)).2 (by omega)]; simp; omega
      have k := sum_ok p la ca u (u + 1) W h oa r4
      rw [sm_one oa' hr3.1] at k
      exact k
    have wu : IntKind.i64.wrap (u + 1) = u + 1 := IntWalk.i64_in _ (by omega)
    have ws : IntKind.i64.wrap (smT la u v + smT la v t) = smT la u v + smT la v t := IntWalk.i64_in _ (by omega)
    have g1 : (smT la u t != smT la u v + smT la v t) = false := by rw [hsum]; simp
    have g2 : decide (smT la u t < 0) = false := decide_eq_false (by omega)
    have HADD : Hid (okS lb = true → (cmb o45 la lb).2 = 0 → okS (cmb o45 la lb).1 = true ∧ smT (cmb o45 la lb).1 u t = smT la u t + smT lb u t ∧ IntKind.i64.wrap (smT la u t + smT lb u t) = smT la u t + smT lb u t) := Lib.hid fun hob h => by
      have k := cmb_ok (o := o45) rfl oa' (okS_to hob) h
      have hut : u ≤ t := by omega
      have hb2 := smP_small (okS_to hob) hr3.1 hr3.2 hut lb.length (Nat.le_refl _)
      change 0 ≤ smT lb u t ∧ smT lb u t ≤ 2305843009213693952 at hb2
      exact ⟨okS_of k.1, sm_sum oa' (okS_to hob) k.1 k.2.2 hr3.1 hut, IntWalk.i64_in _ (by omega)⟩
    have HNO := Lib.hid (fun (hob : okS lb = true) (h : (cmb o45 la lb).2 ≠ 0) => cmb_no h)
    have h7 := fun W h h' hob => add_ok p q la lb ca cb W h h' oa hob
    have h8 := fun (hob : okS lb = true) W h => sum_ok q lb cb u t W h hob hR
    have h9 := fun (ho : okS (cmb o45 la lb).1 = true) p' c' W h => sum_ok p' (cmb o45 la lb).1 c' u t W h ho hR
    have HU : Hid (u < 1048576 ∨ ¬ u < 1048576) := Lib.hid (Classical.em _)
    clear e1 e2 e3 hsum hbd pu pt pv r2 r3 hr3 oa' hR huv hvt
    go_wp2_with fail
    go_region_held3 (fun W' => W'.cell? ⟨g, 0, none⟩ = some (.int .i64 u) ∧ W'.cell? ⟨g, 1, none⟩ = some (.int .i64 v) ∧ W'.cell? ⟨g, 2, none⟩ = some (.int .i64 t) ∧ Ep w g u v t p q la lb W') (first | exact cells_e (by go_split_ands; assumption) | exact cells_e E | exact cells_e E.drw) ((go_at_call 25; (first | (with_reducible refine (h1 _ E.ha).mono ?_) | (with_reducible refine (h1 _ E.drw.ha).mono ?_)); rintro X wK ⟨rfl, hb⟩; (first | have E := E.drw.on hb | have E := E.on hb); clear hb))
    go_wp2_with fail
    go_region_held3 (fun W' => W'.cell? ⟨g, 0, none⟩ = some (.int .i64 u) ∧ W'.cell? ⟨g, 1, none⟩ = some (.int .i64 v) ∧ W'.cell? ⟨g, 2, none⟩ = some (.int .i64 t) ∧ Ep w g u v t p q la lb W') (first | exact cells_e (by go_split_ands; assumption) | exact cells_e E | exact cells_e E.drw) ((go_at_call 25; (first | (with_reducible refine (h2 _ E.ha).mono ?_) | (with_reducible refine (h2 _ E.drw.ha).mono ?_)); rintro X wK ⟨rfl, hb⟩; (first | have E := E.drw.on hb | have E := E.on hb); clear hb))
    go_wp2_with fail
    go_region_held3 (fun W' => W'.cell? ⟨g, 0, none⟩ = some (.int .i64 u) ∧ W'.cell? ⟨g, 1, none⟩ = some (.int .i64 v) ∧ W'.cell? ⟨g, 2, none⟩ = some (.int .i64 t) ∧ Ep w g u v t p q la lb W') (first | exact cells_e (by go_split_ands; assumption) | exact cells_e E | exact cells_e E.drw) ((go_at_call 25; (first | (with_reducible refine (h3 _ E.ha).mono ?_) | (with_reducible refine (h3 _ E.drw.ha).mono ?_)); rintro X wK ⟨rfl, hb⟩; (first | have E := E.drw.on hb | have E := E.on hb); clear hb))
    clear h1 h2 h3 C
    have C := cells_e E
    have OA : Hid (okS la = true) := Lib.hid oa
    clear oa
    rcases HU.out with hlt | hlt
    · have g3 : decide (u < 1048576) = true := decide_eq_true hlt
      have h6 := h6 hlt
      clear hlt
      go_wp2_with (go_at_call 13; (first | (with_reducible refine (h4 _ E.ha).mono ?_) | (with_reducible refine (h4 _ E.drw.ha).mono ?_)); rintro X wK ⟨rfl, hb⟩; (first | have E := E.drw.on hb | have E := E.on hb); clear hb h4; have C := cells_e E)
      go_region_held3 (fun W' => W'.cell? ⟨g, 0, none⟩ = some (.int .i64 u) ∧ W'.cell? ⟨g, 1, none⟩ = some (.int .i64 v) ∧ W'.cell? ⟨g, 2, none⟩ = some (.int .i64 t) ∧ Ep w g u v t p q la lb W') (first | exact cells_e (by go_split_ands; assumption) | exact cells_e E | exact cells_e E.drw) ((go_at_call 25; (first | (with_reducible refine (h6 _ E.ha).mono ?_) | (with_reducible refine (h6 _ E.drw.ha).mono ?_)); rintro X wK ⟨rfl, hb⟩; (first | have E := E.drw.on hb | have E := E.on hb); clear hb))
      have C := cells_e E
      clear h6
      cases hob : okS lb
      · have h5 := fun W h h' => h5 W h h' (by rw [OA.out, hob]; rfl)
        clear h7 h8 h9 hob
        go_wp2_with (go_at_call 20; (first | (with_reducible refine (h5 _ E.ha E.hb).mono ?_) | (with_reducible refine (h5 _ E.drw.ha E.drw.hb).mono ?_)); rintro X wK ⟨p5, c5, rfl, hb⟩; (first | have E := E.drw.on hb | have E := E.on hb); clear hb h5)
        go_ret
        exact ⟨by simp, E.bl⟩
      · have h7 := fun W h h' => h7 W h h' hob
        have h8 := h8 hob
        have hA := HADD.out hob
        have hN := HNO.out hob
        clear h5 hob HADD HNO
        generalize cmb o45 la lb = R at *
        obtain ⟨L, D⟩ := R
        simp only at h7 h9 hA hN
        by_cases hD : D = 0
        · have hA := hA hD
          have h9 := h9 hA.1
          rw [hA.2.1] at h9
          have wz := hA.2.2
          subst hD
          clear hA hN
          generalize smT la u t = n1 at *
          generalize smT lb u t = n2 at *
          go_wp2_with (go_at_call 20; (first | (with_reducible refine (h7 _ E.ha E.hb).mono ?_) | (with_reducible refine (h7 _ E.drw.ha E.drw.hb).mono ?_)); rintro X wA ⟨p5, c5, rfl, S5, hb⟩; (first | have E := E.drw.on hb | have E := E.on hb); clear hb h7; have C := cells_e E)
          have S5d : Sl wA.drew p5 L := S5
          go_region_held3 (fun W' => W'.cell? ⟨g, 0, none⟩ = some (.int .i64 u) ∧ W'.cell? ⟨g, 1, none⟩ = some (.int .i64 v) ∧ W'.cell? ⟨g, 2, none⟩ = some (.int .i64 t) ∧ Ep w g u v t p q la lb W') (first | exact cells_e (by go_split_ands; assumption) | exact cells_e E | exact cells_e E.drw) ((go_at_call 25; (first | (with_reducible refine (h9 p5 c5 _ S5).mono ?_) | (with_reducible refine (h9 p5 c5 _ S5d).mono ?_)); rintro X wK ⟨rfl, hb⟩; (first | have E := E.drw.on hb | have E := E.on hb); clear hb))
          go_wp2_with fail
          go_region_held3 (fun W' => W'.cell? ⟨g, 0, none⟩ = some (.int .i64 u) ∧ W'.cell? ⟨g, 1, none⟩ = some (.int .i64 v) ∧ W'.cell? ⟨g, 2, none⟩ = some (.int .i64 t) ∧ Ep w g u v t p q la lb W') (first | exact cells_e (by go_split_ands; assumption) | exact cells_e E | exact cells_e E.drw) ((go_at_call 25; (first | (with_reducible refine (h8 _ E.hb).mono ?_) | (with_reducible refine (h8 _ E.drw.hb).mono ?_)); rintro X wK ⟨rfl, hb⟩; (first | have E := E.drw.on hb | have E := E.on hb); clear hb))
          go_wp2
          go_ret
          exact ⟨by simp, E.bl⟩
        · have hL := hN hD
          have g4 : (D != 0) = true := by simp [hD]
          subst hL
          clear hA hN hD h8 h9
          go_wp2_with (go_at_call 20; (first | (with_reducible refine (h7 _ E.ha E.hb).mono ?_) | (with_reducible refine (h7 _ E.drw.ha E.drw.hb).mono ?_)); rintro X wA ⟨p5, c5, rfl, S5, hb⟩; (first | have E := E.drw.on hb | have E := E.on hb); clear hb h7)
          go_ret
          exact ⟨by simp, E.bl⟩
    · have g3 : decide (u < 1048576) = false := decide_eq_false (by omega)
      clear hlt h6 h4
      cases hob : okS lb
      · have h5 := fun W h h' => h5 W h h' (by rw [OA.out, hob]; rfl)
        clear h7 h8 h9 hob
        go_wp2_with (go_at_call 20; (first | (with_reducible refine (h5 _ E.ha E.hb).mono ?_) | (with_reducible refine (h5 _ E.drw.ha E.drw.hb).mono ?_)); rintro X wK ⟨p5, c5, rfl, hb⟩; (first | have E := E.drw.on hb | have E := E.on hb); clear hb h5)
        go_ret
        exact ⟨by simp, E.bl⟩
      · have h7 := fun W h h' => h7 W h h' hob
        have h8 := h8 hob
        have hA := HADD.out hob
        have hN := HNO.out hob
        clear h5 hob HADD HNO
        generalize cmb o45 la lb = R at *
        obtain ⟨L, D⟩ := R
        simp only at h7 h9 hA hN
        by_cases hD : D = 0
        · have hA := hA hD
          have h9 := h9 hA.1
          rw [hA.2.1] at h9
          have wz := hA.2.2
          subst hD
          clear hA hN
          generalize smT la u t = n1 at *
          generalize smT lb u t = n2 at *
          go_wp2_with (go_at_call 20; (first | (with_reducible refine (h7 _ E.ha E.hb).mono ?_) | (with_reducible refine (h7 _ E.drw.ha E.drw.hb).mono ?_)); rintro X wA ⟨p5, c5, rfl, S5, hb⟩; (first | have E := E.drw.on hb | have E := E.on hb); clear hb h7; have C := cells_e E)
          have S5d : Sl wA.drew p5 L := S5
          go_region_held3 (fun W' => W'.cell? ⟨g, 0, none⟩ = some (.int .i64 u) ∧ W'.cell? ⟨g, 1, none⟩ = some (.int .i64 v) ∧ W'.cell? ⟨g, 2, none⟩ = some (.int .i64 t) ∧ Ep w g u v t p q la lb W') (first | exact cells_e (by go_split_ands; assumption) | exact cells_e E | exact cells_e E.drw) ((go_at_call 25; (first | (with_reducible refine (h9 p5 c5 _ S5).mono ?_) | (with_reducible refine (h9 p5 c5 _ S5d).mono ?_)); rintro X wK ⟨rfl, hb⟩; (first | have E := E.drw.on hb | have E := E.on hb); clear hb))
          go_wp2_with fail
          go_region_held3 (fun W' => W'.cell? ⟨g, 0, none⟩ = some (.int .i64 u) ∧ W'.cell? ⟨g, 1, none⟩ = some (.int .i64 v) ∧ W'.cell? ⟨g, 2, none⟩ = some (.int .i64 t) ∧ Ep w g u v t p q la lb W') (first | exact cells_e (by go_split_ands; assumption) | exact cells_e E | exact cells_e E.drw) ((go_at_call 25; (first | (with_reducible refine (h8 _ E.hb).mono ?_) | (with_reducible refine (h8 _ E.drw.hb).mono ?_)); rintro X wK ⟨rfl, hb⟩; (first | have E := E.drw.on hb | have E := E.on hb); clear hb))
          go_wp2
          go_ret
          exact ⟨by simp, E.bl⟩
        · have hL := hN hD
          have g4 : (D != 0) = true := by simp [hD]
          subst hL
          clear hA hN hD h8 h9
          go_wp2_with (go_at_call 20; (first | (with_reducible refine (h7 _ E.ha E.hb).mono ?_) | (with_reducible refine (h7 _ E.drw.ha E.drw.hb).mono ?_)); rintro X wA ⟨p5, c5, rfl, S5, hb⟩; (first | have E := E.drw.on hb | have E := E.on hb); clear hb h7)
          go_ret
          exact ⟨by simp, E.bl⟩
theorem parts_walk (p : Option Addr) (la : List Stp) (ca : Nat) (q : Option Addr) (lb : List Stp) (cb : Nat) (x y z : Int) (w : World) (hA : Sl w p la) (hB : Sl w q lb) (h1 : I64 x) (h2 : I64 y) (h3 : I64 z) :
    Calls Try.prog 9 #[.slice p la.length ca, .slice q lb.length cb, .int .i64 x, .int .i64 y, .int .i64 z] w fun e w' => e = .returned (.bool true) ∧ Below w.heap.size w w' := by
  cases hl : (decide (250 < la.length) || decide (250 < lb.length))
  · exact parts_walk0 p la ca q lb cb x y z w hA hB hl
  · exact parts_long p la ca q lb cb x y z w hA hB hl
end Go.Proofs.Ytbohcedclnbcdaa
