/- Volume. -/
import Derived.Test.YtkgaahmehmbfjaaTi
namespace Go.Proofs.Ytkgaahmehmbfjaa
open Go.ChangeShapes Go.WideShapes Go.ChangeAt Go.RowKit Go.Maps Go.Shelf
set_option linter.unusedVariables false
set_option linter.unusedSimpArgs false

attribute [local go_sem] Oper.semAt_some
def volL (P : List Bx) : Int := (P.map volB).sum
theorem volL_app (P R : List Bx) : volL (P ++ R) = volL P + volL R := by simp [volL]
theorem volL_one (b : Bx) : volL [b] = volB b := by simp [volL]
theorem volL_pos : ∀ {P : List Bx}, (∀ b ∈ P, tkB b = true) → 0 ≤ volL P
  | [], _ => by simp [volL]
  | b :: P, h => by
    have ih := volL_pos (P := P) fun y hy => h y (by simp [hy])
    have h1 := (vol_bd (h b (by simp))).1
    have e : volL (b :: P) = volB b + volL P := by simp [volL]
    rw [e]; omega
/-- What Volume answers. -/
def volR (l h : List Bx) : Value := if volL (parts l h) ≤ 1152921504606846976 then .tuple #[.int .i64 (volL (parts l h)), .int .i64 0] else .tuple #[.int .i64 0, .int .i64 5]
theorem volR_big {l h : List Bx} (hv : okS l h = true) {pre rest : List Bx} {b : Bx} (e : parts l h = pre ++ b :: rest) (hb : 1152921504606846976 < volL pre + volB b) : volR l h = .tuple #[.int .i64 0, .int .i64 5] := by
  unfold volR
  rw [if_neg]
  have hp := part_tk hv
  rw [e] at hp ⊢
  rw [show pre ++ b :: rest = pre ++ [b] ++ rest by simp, volL_app, volL_app, volL_one]
  have := volL_pos (P := rest) fun y hy => hp y (by simp [hy])
  omega
theorem volR_ok {l h : List Bx} (hb : volL (parts l h) ≤ 1152921504606846976) : volR l h = .tuple #[.int .i64 (volL (parts l h)), .int .i64 0] := if_pos hb
theorem kpo_then {S : Nat → Prop} {A B : World} {g i : Nat} {v : Value} (hb : Below A.heap.size A B) (h : ¬ S g) : Kpo S A (B.setCell ⟨g, i, none⟩ v) :=
  ⟨⟨by simp [World.setCell]; exact hb.size, fun k hk hs => (Below.heap_setCell _ _ _ _ (fun e => by subst e; exact h hs)).trans (hb.block k hk)⟩, hb.os, hb.tape, hb.output⟩
/-- How Volume ends early. -/
structure Vex (w : World) (n : Nat) (R : Value) (j : Code) (W : World) : Prop where
  jr : j = .ret
  r0 : Has W (n + 1) 3 #[.int .i64 0]
  r1 : Has W (n + 1 + 1) 33 #[.int .i64 5]
  hb : Below n w W
  rv : R = .tuple #[.int .i64 0, .int .i64 5]
theorem Vex.abd {w : World} {n M : Nat} {R : Value} (j : Code) (h1 : n + 2 < M) (h2 : w.heap.size = n) : Abd M (M + 2) (fun (_ : List Bx) W => Vex w n R j W) := fun _ W W' C hc =>
  ⟨C.jr, C.r0.chg hc (.inl (by omega)), C.r1.chg hc (.inl (by omega)), C.hb.trans (hc.below (by omega) (by have := C.hb.size; omega)), C.rv⟩
set_option maxHeartbeats 8000000 in
set_option maxRecDepth 100000 in
theorem Volume_no (p q : Option Addr) (l h : List Bx) (c d : Nat) (w : World) (hS : Sl w p l) (hT : Sl w q h) (hs : okS l h = false) :
    Calls Try.prog 22 #[sv p q l h c d] w fun e w' => e = .returned (.tuple #[.int .i64 0, .int .i64 1]) ∧ Below w.heap.size w w' := by
  have h14 := fun W a b => val14 p q l h c d W a b
  have E := (((Env.nil w).add w.heap.size 24 #[.slice p l.length c, .slice q h.length d] rfl).add (w.heap.size + 1) 3 #[.int .i64 0] (by simp)).add (w.heap.size + 1 + 1) 33 #[.int .i64 0] (by simp)
  have C := E.cells
  simp [BC, CF] at C
  simp only [hs] at h14
  unfold sv
  go_enter Try.func22, Try.ntmps22
  go_wp2_with (first
    | (go_at_call 14; (with_reducible refine (h14 _ (hS.on (envB E)) (hT.on (envB E))).mono ?_); rintro X wq ⟨rfl, hb⟩; replace E := E.on hb; replace C := E.cells; simp [BC, CF] at C; clear hb))
  refine bodyPost_ret (v := .tuple #[.int .i64 0, .int .i64 1]) (by simp [results, Try.results22, go_sem, C]) rfl ⟨rfl, ?_⟩
  exact envB (Env.put (Env.put E 1 0 (.int .i64 0) rfl) 0 0 (.int .i64 1) rfl)
set_option maxHeartbeats 8000000 in
set_option maxRecDepth 100000 in
theorem Volume_ok (p q : Option Addr) (l h : List Bx) (c d : Nat) (w : World) (hS : Sl w p l) (hT : Sl w q h) (hs : okS l h = true) :
    Calls Try.prog 22 #[sv p q l h c d] w fun e w' => e = .returned (volR l h) ∧ Below w.heap.size w w' := by
  have h14 := fun W a b => val14 p q l h c d W a b
  have E := (((Env.nil w).add w.heap.size 24 #[.slice p l.length c, .slice q h.length d] rfl).add (w.heap.size + 1) 3 #[.int .i64 0] (by simp)).add (w.heap.size + 1 + 1) 33 #[.int .i64 0] (by simp)
  have C := E.cells
  simp [BC, CF] at C
  simp only [hs] at h14
  unfold sv
  obtain ⟨RES, hRES⟩ : ∃ R, R = volR l h := ⟨_, rfl⟩
  rw [← hRES]
  have HR := Lib.hid hRES
  clear hRES
  refine (callsIn_wide (n := 6)).1 ?_
  refine callsIn_of_wp_marks Try.func22 rfl trivial ?_ rfl
  simp only [Try.ntmps22, List.size_toArray, List.length_cons, List.length_nil, Nat.reduceAdd, Nat.reduceSub, Array.replicate_succ, Array.replicate_zero, List.push_toArray, List.append_toArray, List.nil_append, List.cons_append]
  have hf14 : Fence.wide.fn 14 := trivial
  have hf56 : Fence.wide.fn 56 := trivial
  have hf57 : Fence.wide.fn 57 := trivial
  gi_upto_region 3 with (gi_at_call 14; (with_reducible refine (callsIn_wide.2 (h14 _ (hS.on (envB E)) (hT.on (envB E)))).mono ?_); rintro X w1 ⟨rfl, hb1⟩; replace E := E.on hb1; replace C := E.cells; simp [BC, CF] at C)
  gi_upto_region 4 with fail
  replace E := E.add w1.heap.size 3 #[.int .i64 0] rfl
  replace C := E.cells
  simp [BC, CF] at C
  have hw1 : w.heap.size + 1 + 1 < w1.heap.size := by
    have := hb1.size; simp at this; omega
  gi_wp2_with (gi_at_call 56; (with_reducible refine (callsIn_wide.2 (parts_56 p q l h c d _)).mono ?_); rintro X w2 ⟨rfl, rfl⟩)
  have Gs := Has.new_ (w1.alloc (.cells #[.int .i64 0] 3)) 24 #[.slice p l.length c, .slice q h.length d]
  replace E := E.on (al1 _ (.cells #[.slice p l.length c, .slice q h.length d] 24))
  clear hb1 C h14
  rw [show (w1.alloc (.cells #[.int .i64 0] 3)).heap.size = w1.heap.size + 1 from World.size_alloc _ _] at Gs
  generalize (w1.alloc (.cells #[.int .i64 0] 3)).alloc (.cells #[.slice p l.length c, .slice q h.length d] 24) = V at *
  generalize w1.heap.size = sb at *
  have A0 := E.2.2.1
  have A2 := E.2.2.2.2.2.1
  have A1 := E.2.2.2.2.2.2.2.2.1
  have hSV := hS.on (envB E)
  have hTV := hT.on (envB E)
  have hBV := envB E
  have hsb := A0.size_
  dsimp only at A0 A1 A2 hsb
  clear E
  have hpt := part_tk hs
  have HA := Lib.hid (And.intro A1 A2)
  refine wpIn_range_far (by omega) (gf := 78) (ba := #[]) (lb := #[.pointer (some ⟨sb + 1, 0, none⟩)]) rfl (enters_of Try.func78 (by kernel_rfl) rfl) (R := fun _ x _ vs => vs = #[x.val])
    (fun k => k < V.heap.size ∧ k ≠ sb) (parts l h) (by rintro k x W vs rfl; rfl)
    (fun W hW hbW => parts_yields _ _ (sb + 1) p q l h c d V W hSV hTV hs (Gs.read 0) (Gs.read 1) hbW hW)
    (fun pre W => Acc V sb (volL pre) W ∧ volL pre ≤ 1152921504606846976) (fun j _ W => Vex w w.heap.size RES j W) (fun s A B hs hz hc => ⟨hs.1.on hsb hc, hs.2⟩) (fun j => Vex.abd j (by omega) rfl) ⟨⟨Chg.refl _ _ _, A0⟩, by simp [volL]⟩ ?round (fun k hk => hk.1) ?done ?stop
  case round =>
    rintro L pre b rest W vs hxs ⟨hA, hle⟩ hsz rfl
    have hbt : tkB b = true := hpt b (by rw [hxs]; simp)
    have hpre : ∀ y ∈ pre, tkB y = true := fun y hy => hpt y (by rw [hxs]; simp [hy])
    have hp0 := volL_pos hpre
    have hb0 := vol_bd hbt
    have h57 := fun W => volOf_any b W hbt
    have hbig := Lib.hid (volR_big hs hxs)
    have hsn : volL (pre ++ [b]) = volL pre + volB b := by rw [volL_app, volL_one]
    clear hxs hpre hpt
    unfold Bx.val at *
    gi_wp2
    refine ⟨Kpo.of (al1 _ _), fun w3 hc3 hz3 => ?_⟩
    have hF := (Has.new_ W 30 #[.int .i64 b.a, .int .i64 b.b, .int .i64 b.c, .int .i64 b.d, .int .i64 b.e, .int .i64 b.f]).chg hc3 (.inr (by omega))
    have I3 : Acc V sb (volL pre) w3 := hA.on hsb ((Below.less (al1 W (.cells #[.int .i64 b.a, .int .i64 b.b, .int .i64 b.c, .int .i64 b.d, .int .i64 b.e, .int .i64 b.f] 30)) (by omega)).trans (Below.less (Chg.below' hc3 (by simp; omega)) (by omega)))
    have hz : V.heap.size ≤ w3.heap.size := I3.ch.size
    have F0 := hF.read 0
    have F1 := hF.read 1
    have F2 := hF.read 2
    have F3 := hF.read 3
    have F4 := hF.read 4
    have F5 := hF.read 5
    simp only [List.getElem?_toArray, List.getElem?_cons_succ, List.getElem?_cons_zero] at F0 F1 F2 F3 F4 F5
    clear hF hc3 hA
    have hex : 1152921504606846976 < volL pre + volB b → ∀ w4, Below w3.heap.size w3 w4 → rndPosto (fun k => (k < V.heap.size ∧ k ≠ sb) ∨ V.heap.size ≤ k) (fun k => V.heap.size ≤ k) (fun pre W => Acc V sb (volL pre) W ∧ volL pre ≤ 1152921504606846976) (fun j _ W => Vex w w.heap.size RES j W) (pre ++ [b]) w3 .ret { tmps := #[], defers := [] } ((w4.setCell ⟨w.heap.size + 1, 0, none⟩ (.int .i64 0)).setCell ⟨w.heap.size + 1 + 1, 0, none⟩ (.int .i64 5)) := fun hgt w4 h4 => by
      have i4 := I3.on hsb (Below.less h4 hz)
      have B1 := i4.ch.has_ HA.out.1 (by omega)
      have B2 := i4.ch.has_ HA.out.2 (by omega)
      have hB4 : Below w.heap.size w w4 := hBV.trans (Chg.below i4.ch (by omega) (by have := hBV.size; omega))
      refine ⟨⟨⟨by simp [World.setCell]; exact h4.size, fun k hk hs => ?_⟩, h4.os, h4.tape, h4.output⟩, rfl, ?_, ?_, ?_, HR.out.trans (hbig.out hgt)⟩
      · rw [Below.heap_setCell _ _ _ _ (show k ≠ w.heap.size + 1 + 1 by omega), Below.heap_setCell _ _ _ _ (show k ≠ w.heap.size + 1 by omega)]
        exact h4.block k hk
      · have := (B1.put_ 0 (.int .i64 0)).apart_ (p := ⟨w.heap.size + 1 + 1, 0, none⟩) (by simp) (.int .i64 5)
        simpa using this
      · have := (B2.apart_ (p := ⟨w.heap.size + 1, 0, none⟩) (by simp) (.int .i64 0)).put_ 0 (.int .i64 5)
        simpa using this
      · exact (hB4.setCell (p := ⟨w.heap.size + 1, 0, none⟩) (by simp) _).setCell (p := ⟨w.heap.size + 1 + 1, 0, none⟩) (by simp; omega) _
    have HX := Lib.hid hex
    clear hex
    by_cases hv : volB b ≤ 1152921504606846976
    · simp only [if_pos hv] at h57
      by_cases hw : 1152921504606846976 < volL pre + volB b
      · have W1 : IntKind.i64.wrap (1152921504606846976 - volL pre) = 1152921504606846976 - volL pre := IntWalk.i64_in _ (by omega)
        have q1 : decide (1152921504606846976 - volL pre < volB b) = true := by simp; omega
        have HW := Lib.hid hw
        clear hsn hw hp0 hb0 hbig hv hle
        gi_wp2_with (gi_at_call 57; refine (CallsIn.inRound L (callsIn_wide.2 (h57 _))).mono ?_; rintro X w4 ⟨rfl, hb4⟩; have i4 := I3.on hsb (Below.less hb4 hz); have R4 := i4.at_.read 0; have f4 := i4.at_.open_ 0; have B1 := i4.ch.has_ HA.out.1 (by omega); have B2 := i4.ch.has_ HA.out.2 (by omega); have b1 := B1.read 0; have b2 := B2.read 0; have c1 := B1.open_ 0; have c2 := B2.open_ 0; simp only [List.getElem?_toArray, List.getElem?_cons_zero] at R4 b1 b2)
        exact HX.out HW.out w4 hb4
      · have W1 : IntKind.i64.wrap (1152921504606846976 - volL pre) = 1152921504606846976 - volL pre := IntWalk.i64_in _ (by omega)
        have q1 : decide (1152921504606846976 - volL pre < volB b) = false := by simp; omega
        have W2 : IntKind.i64.wrap (volL pre + volB b) = volL (pre ++ [b]) := by rw [hsn]; exact IntWalk.i64_in _ (by omega)
        have HW : Hid (volL (pre ++ [b]) ≤ 1152921504606846976) := Lib.hid (by omega)
        clear hsn hw hp0 hb0 hbig hv hle
        gi_wp2_with (gi_at_call 57; refine (CallsIn.inRound L (callsIn_wide.2 (h57 _))).mono ?_; rintro X w4 ⟨rfl, hb4⟩; have i4 := I3.on hsb (Below.less hb4 hz); have R4 := i4.at_.read 0; have f4 := i4.at_.open_ 0; have B1 := i4.ch.has_ HA.out.1 (by omega); have B2 := i4.ch.has_ HA.out.2 (by omega); have b1 := B1.read 0; have b2 := B2.read 0; have c1 := B1.open_ 0; have c2 := B2.open_ 0; simp only [List.getElem?_toArray, List.getElem?_cons_zero] at R4 b1 b2)
        exact ⟨kpo_then hb4 (by simp; omega), i4.put, HW.out⟩
    · simp only [if_neg hv] at h57
      have HW : Hid (1152921504606846976 < volL pre + volB b) := Lib.hid (by omega)
      clear hsn hp0 hb0 hbig hv hle
      gi_wp2_with (gi_at_call 57; refine (CallsIn.inRound L (callsIn_wide.2 (h57 _))).mono ?_; rintro X w4 ⟨rfl, hb4⟩; have i4 := I3.on hsb (Below.less hb4 hz); have R4 := i4.at_.read 0; have f4 := i4.at_.open_ 0; have B1 := i4.ch.has_ HA.out.1 (by omega); have B2 := i4.ch.has_ HA.out.2 (by omega); have b1 := B1.read 0; have b2 := B2.read 0; have c1 := B1.open_ 0; have c2 := B2.open_ 0; simp only [List.getElem?_toArray, List.getElem?_cons_zero] at R4 b1 b2)
      exact HX.out HW.out w4 hb4
  case done =>
    rintro W ⟨hAc, hle⟩ hK
    have e := HR.out.trans (volR_ok hle)
    subst e
    have R0 := hAc.at_.read 0
    have B1 := hAc.ch.has_ HA.out.1 (by omega)
    have B2 := hAc.ch.has_ HA.out.2 (by omega)
    have b1 := B1.read 0
    have b2 := B2.read 0
    have c1 := B1.open_ 0
    have c2 := B2.open_ 0
    simp only [List.getElem?_toArray, List.getElem?_cons_zero] at R0 b1 b2
    have hBW : Below w.heap.size w W := hBV.trans (Chg.below hAc.ch (by omega) (by have := hBV.size; omega))
    have HB := Lib.hid (And.intro B1 (And.intro B2 hBW))
    have hWz : V.heap.size < W.heap.size := (Array.getElem?_eq_some_iff.1 hK).1
    clear B1 B2 hBW hAc hSV hTV hle HR
    gi_wp2
    obtain ⟨B1, B2, hBW⟩ := HB.out
    have P1 := (B1.put_ 0 (.int .i64 (volL (parts l h)))).apart_ (p := ⟨w.heap.size + 1 + 1, 0, none⟩) (by simp) (.int .i64 0)
    have P2 := (B2.apart_ (p := ⟨w.heap.size + 1, 0, none⟩) (by simp) (.int .i64 (volL (parts l h)))).put_ 0 (.int .i64 0)
    have PB := (hBW.setCell (p := ⟨w.heap.size + 1, 0, none⟩) (by simp) (.int .i64 (volL (parts l h)))).setCell (p := ⟨w.heap.size + 1 + 1, 0, none⟩) (by simp; omega) (.int .i64 0)
    have hK4 : ((W.setCell ⟨w.heap.size + 1, 0, none⟩ (.int .i64 (volL (parts l h)))).setCell ⟨w.heap.size + 1 + 1, 0, none⟩ (.int .i64 0)).heap[V.heap.size]? = some (.deferred (some [])) := by
      rw [Below.heap_setCell _ _ _ _ (show V.heap.size ≠ w.heap.size + 1 + 1 by omega), Below.heap_setCell _ _ _ _ (show V.heap.size ≠ w.heap.size + 1 by omega)]; exact hK
    generalize (W.setCell ⟨w.heap.size + 1, 0, none⟩ (.int .i64 (volL (parts l h)))).setCell ⟨w.heap.size + 1 + 1, 0, none⟩ (.int .i64 0) = W4 at *
    refine ⟨by simp, .inl ⟨_, _, rfl, run_takeDeferred hK4, ?_⟩⟩
    have hc := fun ob => Chg.obj (lo := V.heap.size) (hi := V.heap.size + 1) (l := V.heap.size) W4 ob (Nat.le_refl _) (Nat.lt_succ_self _)
    have hob := fun ob => below_obj PB (l := V.heap.size) ob (by omega)
    generalize hW5 : W4.putObj V.heap.size _ = W5
    have hc5 : Chg V.heap.size (V.heap.size + 1) W4 W5 := by rw [← hW5]; exact hc _
    have hB5 : Below w.heap.size w W5 := by rw [← hW5]; exact hob _
    clear hc hob R0
    have R1 := (P1.chg hc5 (.inl (by omega))).read 0
    have R3 := (P2.chg hc5 (.inl (by omega))).read 0
    simp only [List.set_cons_zero, List.set_cons_succ, List.setIfInBounds_toArray, List.getElem?_toArray, List.getElem?_cons_succ, List.getElem?_cons_zero] at R1 R3
    exact ⟨.tuple #[.int .i64 (volL (parts l h)), .int .i64 0], by simp [results, Try.results22, go_sem, R1, R3], rfl, hB5⟩
  case stop =>
    rintro j pre rest W hxs C hK
    obtain rfl := C.jr
    have e := C.rv
    subst e
    clear hxs
    have hVs : w.heap.size + 1 + 1 < V.heap.size := by omega
    gi_wp2
    refine ⟨by simp, .inl ⟨_, _, rfl, run_takeDeferred hK, ?_⟩⟩
    have C5 := fun o => Vex.abd (w := w) (M := V.heap.size) (n := w.heap.size) (R := .tuple #[.int .i64 0, .int .i64 5]) .ret (by omega) rfl pre _ _ C (Chg.obj (lo := V.heap.size) (hi := V.heap.size + 2) (l := V.heap.size) W o (Nat.le_refl _) (by omega))
    clear C
    generalize hW5 : W.putObj V.heap.size _ = W5
    have C6 : Vex w w.heap.size (.tuple #[.int .i64 0, .int .i64 5]) .ret W5 := by rw [← hW5]; exact C5 _
    have R1 := C6.r0.read 0
    have R3 := C6.r1.read 0
    simp only [List.getElem?_toArray, List.getElem?_cons_zero] at R1 R3
    exact ⟨.tuple #[.int .i64 0, .int .i64 5], by simp [results, Try.results22, go_sem, R1, R3], rfl, C6.hb⟩
end Go.Proofs.Ytkgaahmehmbfjaa
