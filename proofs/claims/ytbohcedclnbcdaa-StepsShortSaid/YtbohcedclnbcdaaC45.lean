/- Short steps of two functions: combined with the closure 45. -/
import Derived.Test.YtbohcedclnbcdaaV4
namespace Go.Proofs.Ytbohcedclnbcdaa
open Go.ChangeShapes Go.WideShapes Go.ChangeAt Go.RowKit Go.Shelf
attribute [local go_sem] Oper.semAt_some
set_option linter.unusedVariables false
set_option linter.unusedSimpArgs false

structure Stop45 (p : Prop) : Prop where
  out : p
abbrev o45 : Int → Int → Int := fun x y => x + y
def st45 (e : Int × Int × Int) : Stp := (e.1, o45 e.2.1 e.2.2)
theorem opl_snoc45 (pre : List (Int × Int × Int)) (e : Int × Int × Int) : opl o45 (pre ++ [e]) = opl o45 pre ++ [st45 e] := by simp [opl, st45]
/-- What the caller's cells hold between two rounds. -/
structure Ic45 (w : World) (n0 b5 b6 b7 b8 b9 B : Nat) (pre : List (Int × Int × Int)) (W : World) : Prop where
  h5 : Has W b5 42 #[.func (.func 45) #[] #[]]
  h6 : Has W b6 22 #[.slice none 0 0]
  h7 : Has W b7 25 #[.int .i64 0]
  h8 : ∃ v, Has W b8 22 #[v] ∧ OwnS B W v (sht (opl o45 pre))
  h9 : Has W b9 3 #[.int .i64 (lastv 0 (opl o45 pre))]
  hb : Below n0 w W
  ha : ∀ s ∈ opl o45 pre, ara s.2 = true
structure Ix45 (w : World) (n0 b6 b7 : Nat) (pre : List (Int × Int × Int)) (W : World) : Prop where
  h6 : Has W b6 22 #[.slice none 0 0]
  h7 : Has W b7 25 #[.int .i64 5]
  hb : Below n0 w W
  hx : ∃ s ∈ opl o45 pre, ara s.2 = false
theorem Ic45.abd {w : World} {n0 b5 b6 b7 b8 b9 lo hi : Nat} (h5 : b5 < lo) (h6 : b6 < lo) (h7 : b7 < lo) (h8 : b8 < lo) (h9 : b9 < lo) (hn : n0 ≤ lo) (hn2 : n0 ≤ w.heap.size) : Abd lo hi (Ic45 w n0 b5 b6 b7 b8 b9 hi) := fun pre W W' C hc => by
  obtain ⟨v, c8, o8⟩ := C.h8
  exact ⟨C.h5.chg hc (.inl h5), C.h6.chg hc (.inl h6), C.h7.chg hc (.inl h7), ⟨v, c8.chg hc (.inl h8), o8.kept fun k hk hB => hc.block k hk (.inr hB)⟩, C.h9.chg hc (.inl h9),
    C.hb.trans (hc.below hn (Nat.le_trans hn2 C.hb.size)), C.ha⟩
theorem Ix45.abd {w : World} {n0 b6 b7 lo hi : Nat} (h6 : b6 < lo) (h7 : b7 < lo) (hn : n0 ≤ lo) (hn2 : n0 ≤ w.heap.size) : Abd lo hi (Ix45 w n0 b6 b7) := fun pre W W' C hc =>
  ⟨C.h6.chg hc (.inl h6), C.h7.chg hc (.inl h7), C.hb.trans (hc.below hn (Nat.le_trans hn2 C.hb.size)), C.hx⟩
set_option maxHeartbeats 4000000 in
set_option maxRecDepth 100000 in
theorem comb45_ok (pa pb : Option Addr) (la lb : List Stp) (ca cb : Nat) (w : World) (hA : Sl w pa la) (hB : Sl w pb lb) (oa : OkS la) (ob : OkS lb) :
    Calls Try.prog 44 #[.slice pa la.length ca, .slice pb lb.length cb, .func (.func 45) #[] #[]] w fun e w' =>
      ∃ v, e = .returned (.tuple #[v, .int .i64 (cmb o45 la lb).2]) ∧ OwnS w.heap.size w' v (cmb o45 la lb).1 ∧ Below w.heap.size w w' := by
  have la' := hA.lt
  have lb' := hB.lt
  have va1 := fun W h => valid_any pa la ca W h
  have vb1 := fun W h => valid_any pb lb cb W h
  rw [okS_of oa] at va1
  rw [okS_of ob] at vb1
  refine (callsIn_wide (n := 6)).1 ?_
  refine callsIn_of_wp_marks Try.func44 rfl trivial ?_ rfl
  simp only [Try.ntmps44, List.size_toArray, List.length_cons, List.length_nil, Nat.reduceAdd, Nat.reduceSub, Array.replicate_succ, Array.replicate_zero, List.push_toArray, List.append_toArray, List.nil_append, List.cons_append]
  have B1 := al1 w (.cells #[.func (.func 45) #[] #[]] 42)
  have B2 := al B1 (.cells #[.slice none 0 0] 22)
  have B3 := al B2 (.cells #[.int .i64 0] 25)
  have H5 := Has.new_ w 42 #[.func (.func 45) #[] #[]]
  have H6 := Has.new_ (w.alloc (.cells #[.func (.func 45) #[] #[]] 42)) 22 #[.slice none 0 0]
  have H7 := Has.new_ ((w.alloc (.cells #[.func (.func 45) #[] #[]] 42)).alloc (.cells #[.slice none 0 0] 22)) 25 #[.int .i64 0]
  rw [World.size_alloc] at H6
  rw [World.size_alloc, World.size_alloc] at H7
  replace H5 := (H5.on (al1 _ (.cells #[.slice none 0 0] 22))).on (al1 _ (.cells #[.int .i64 0] 25))
  replace H6 := H6.on (al1 _ (.cells #[.int .i64 0] 25))
  have HA := hA.on B3
  have HB := hB.on B3
  clear hA hB
  gi_wp2_with (first
    | ((refine ⟨trivial, ?_⟩); gi_at_call 16; refine (callsIn_wide.2 (va1 _ HA)).mono ?_; rintro e w1 ⟨rfl, hb1⟩; clear va1; replace HA := HA.on hb1; replace HB := HB.on hb1; replace H5 := H5.on hb1; replace H6 := H6.on hb1; replace H7 := H7.on hb1; replace B3 := belows B3 hb1; clear hb1)
    | ((refine ⟨trivial, ?_⟩); gi_at_call 16; refine (callsIn_wide.2 (vb1 _ HB)).mono ?_; rintro e w2 ⟨rfl, hb2⟩; clear vb1; replace HA := HA.on hb2; replace HB := HB.on hb2; replace H5 := H5.on hb2; replace H6 := H6.on hb2; replace H7 := H7.on hb2; replace B3 := belows B3 hb2; clear hb2)
    | ((refine ⟨trivial, ?_⟩); gi_at_call 50; refine (callsIn_wide.2 (together_any pa pb la.length lb.length ca cb _)).mono ?_; rintro e w3 ⟨rfl, hw3⟩))
  clear hw3
  have J1 := al1 w2 (.cells #[.slice none 0 0] 22)
  have J2 := al J1 (.cells #[.int .i64 0] 3)
  have J3 := al J2 (.cells #[.slice pa la.length ca] 22)
  have J4 := al J3 (.cells #[.slice pb lb.length cb] 22)
  have H8 := Has.new_ w2 22 #[.slice none 0 0]
  have H9 := Has.new_ (w2.alloc (.cells #[.slice none 0 0] 22)) 3 #[.int .i64 0]
  have G1 := Has.new_ ((w2.alloc (.cells #[.slice none 0 0] 22)).alloc (.cells #[.int .i64 0] 3)) 22 #[.slice pa la.length ca]
  have G2 := Has.new_ (((w2.alloc (.cells #[.slice none 0 0] 22)).alloc (.cells #[.int .i64 0] 3)).alloc (.cells #[.slice pa la.length ca] 22)) 22 #[.slice pb lb.length cb]
  have e1 : (w2.alloc (.cells #[.slice none 0 0] 22)).heap.size = w2.heap.size + 1 := World.size_alloc _ _
  have e2 : ((w2.alloc (.cells #[.slice none 0 0] 22)).alloc (.cells #[.int .i64 0] 3)).heap.size = w2.heap.size + 1 + 1 := by rw [World.size_alloc, e1]
  have e3 : (((w2.alloc (.cells #[.slice none 0 0] 22)).alloc (.cells #[.int .i64 0] 3)).alloc (.cells #[.slice pa la.length ca] 22)).heap.size = w2.heap.size + 1 + 1 + 1 := by rw [World.size_alloc, e2]
  have e4 : ((((w2.alloc (.cells #[.slice none 0 0] 22)).alloc (.cells #[.int .i64 0] 3)).alloc (.cells #[.slice pa la.length ca] 22)).alloc (.cells #[.slice pb lb.length cb] 22)).heap.size = w2.heap.size + 1 + 1 + 1 + 1 := by rw [World.size_alloc, e3]
  rw [e1] at H9
  rw [e2] at G1
  rw [e3] at G2
  replace H8 := ((H8.on (al1 _ (.cells #[.int .i64 0] 3))).on (al1 _ (.cells #[.slice pa la.length ca] 22))).on (al1 _ (.cells #[.slice pb lb.length cb] 22))
  replace H9 := (H9.on (al1 _ (.cells #[.slice pa la.length ca] 22))).on (al1 _ (.cells #[.slice pb lb.length cb] 22))
  replace G1 := G1.on (al1 _ (.cells #[.slice pb lb.length cb] 22))
  have hw2s : w.heap.size + 3 ≤ w2.heap.size := by have := H7.size_; omega
  replace H5 := H5.on J4
  replace H6 := H6.on J4
  replace H7 := H7.on J4
  replace HA := HA.on J4
  replace HB := HB.on J4
  replace B3 := belows B3 J4
  clear J1 J2 J3 J4 e1 e2 e3
  generalize ((((w2.alloc (.cells #[.slice none 0 0] 22)).alloc (.cells #[.int .i64 0] 3)).alloc (.cells #[.slice pa la.length ca] 22)).alloc (.cells #[.slice pb lb.length cb] 22)) = V at *
  obtain ⟨b6, hb6⟩ : ∃ b, b = w.heap.size + 1 := ⟨_, rfl⟩
  obtain ⟨b7, hb7⟩ : ∃ b, b = w.heap.size + 1 + 1 := ⟨_, rfl⟩
  obtain ⟨b8, hb8⟩ : ∃ b, b = w2.heap.size := ⟨_, rfl⟩
  obtain ⟨b9, hb9⟩ : ∃ b, b = w2.heap.size + 1 := ⟨_, rfl⟩
  obtain ⟨d1, hd1⟩ : ∃ b, b = w2.heap.size + 1 + 1 := ⟨_, rfl⟩
  obtain ⟨d2, hd2⟩ : ∃ b, b = w2.heap.size + 1 + 1 + 1 := ⟨_, rfl⟩
  rw [← hd2, ← hd1, ← hb9, ← hb8, ← hb7, ← hb6]
  rw [← hd2] at G2
  rw [← hd1] at G1
  rw [← hb9] at H9
  rw [← hb8] at H8
  rw [← hb7] at H7
  rw [← hb6] at H6
  have L : Hid (w.heap.size < b6 ∧ b6 < b7 ∧ b7 < b8 ∧ b8 < b9 ∧ b9 < d1 ∧ d1 < d2 ∧ d2 < V.heap.size) := Lib.hid (by omega)
  clear hd1 hd2 hb6 hb7 hb8 hb9 hw2s e4
  obtain ⟨l1, l2, l3, l4, l5, l6, l7⟩ := L.out
  refine wpIn_range_own (by omega) (gf := 56) (lb := #[.pointer (some ⟨d1, 0, none⟩), .pointer (some ⟨d2, 0, none⟩)]) rfl (enters_of Try.func56 (by kernel_rfl) rfl) (encs := encs)
    (fun k => k < w.heap.size ∨ k = d1 ∨ k = d2) (tog la lb) (fun _ => rfl)
    (fun W hW hb => tog_yields _ pa pb la lb ca cb d1 d2 _ W (cell_later hb (G1.read 0)) (cell_later hb (G2.read 0)) (HA.on hb) (HB.on hb) (.inr (.inl rfl)) (.inr (.inr rfl)) (fun a ha hn => .inl (la' a ha hn)) (fun a ha hn => .inl (lb' a ha hn)) (fun k hk => by rcases hk with h | h | h <;> omega) (by have := oa.len; omega) (by have := ob.len; omega))
    (Ic45 w w.heap.size w.heap.size b6 b7 b8 b9 (V.heap.size + 5)) (Ix45 w w.heap.size b6 b7)
    (Ic45.abd (by omega) (by omega) (by omega) (by omega) (by omega) (by omega) (Nat.le_refl _)) (Ix45.abd (by omega) (by omega) (by omega) (Nat.le_refl _))
    ⟨H5, H6, H7, ⟨_, H8, OwnS.nil _ _⟩, H9, B3, fun s hs => (by cases hs)⟩ ?round (fun k hk => by rcases hk with h | h | h <;> omega) ?done ?stop
  case round =>
    clear H5 H6 H7 H8 H9 G1 G2 HA HB B3
    rintro l pre ⟨f, p, q⟩ rest W hxs C hsz
    have hv := tog_val oa.asc ob.asc (f, p, q) (by rw [hxs]; simp)
    have hpa : ara p = true := by rw [show p = va la f from hv.1]; exact va_ara oa.ar f
    have hqa : ara q = true := by rw [show q = va lb f from hv.2]; exact va_ara ob.ar f
    have hlen : Hid ((sht (opl o45 pre)).length ≤ 400) := Lib.hid (by
      have h1 := (shF_sub (l := opl o45 pre) (v := 0)).length_le
      have h2 : (opl o45 pre).length = pre.length := by simp [opl]
      have h3 := tg_len (la.length + lb.length) 0 0 la lb
      have h4 := congrArg List.length hxs
      have h5 := oa.len
      have h6 := ob.len
      simp [tog] at h4
      unfold sht; omega)
    have hc45 := fun W => add1_any p q W hpa hqa
    obtain ⟨z, hz⟩ : ∃ z, z = o45 p q := ⟨_, rfl⟩
    simp only [← show z = _ from hz] at hc45
    have hst : Hid (st45 (f, p, q) = (f, z)) := Lib.hid (by rw [hz]; rfl)
    clear hv hpa hqa hz
    simp only [encs]
    gi_wp2
    refine ⟨Kps.alloc _ _, fun w3 hc hz3 => ?_⟩
    have C1 := Ic45.abd (lo := V.heap.size) (by omega) (by omega) (by omega) (by omega) (by omega) (by omega) (Nat.le_refl _) _ _ _ C ((Chg.alloc W (.cells #[.int .i64 p, .int .i64 q] 72)).trans (hc.wide (by omega) (by omega)))
    have HV := (Has.new_ W 72 #[.int .i64 p, .int .i64 q]).chg hc (.inr (by omega))
    rw [World.size_alloc] at hz3
    have HZ3 := Lib.hid hz3
    clear hz3
    clear hc C
    have HV0 : w3.cell? ⟨W.heap.size, 0, none⟩ = some (.int .i64 p) := HV.read 0
    have HV1 : w3.cell? ⟨W.heap.size, 1, none⟩ = some (.int .i64 q) := HV.read 1
    have R5 : w3.cell? ⟨w.heap.size, 0, none⟩ = some (.func (.func 45) #[] #[]) := C1.h5.read 0
    have R6 : w3.cell? ⟨b6, 0, none⟩ = some (.slice none 0 0) := C1.h6.read 0
    have R7 : w3.cell? ⟨b7, 0, none⟩ = some (.int .i64 0) := C1.h7.read 0
    have R9 : w3.cell? ⟨b9, 0, none⟩ = some (.int .i64 (lastv 0 (opl o45 pre))) := C1.h9.read 0
    obtain ⟨v8, c8, o8⟩ := C1.h8
    have R8 : w3.cell? ⟨b8, 0, none⟩ = some v8 := c8.read 0
    have R76 : ∀ u, (w3.setCell ⟨b6, 0, none⟩ u).cell? ⟨b7, 0, none⟩ = some (.int .i64 0) := fun u => (C1.h7.apart_ (by show b7 ≠ b6; omega) u).read 0
    have f6 := C1.h6.open_ 0
    have f7 := C1.h7.open_ 0
    have f8 := c8.open_ 0
    have f9 := C1.h9.open_ 0
    have hns : ∀ b, w.heap.size < b → b < d1 → ¬ ((fun k => (k < w.heap.size ∨ k = d1 ∨ k = d2) ∨ V.heap.size ≤ k ∧ k < V.heap.size + 5) b) := fun b h1 h2 h => by
      rcases h with (h | h | h) | h <;> omega
    have har := fun W => area_any z W
    obtain ⟨Z, hZ⟩ : ∃ Z, Z = ara z := ⟨_, rfl⟩
    rw [← hZ] at har
    have HZ := Lib.hid hZ
    clear hZ
    have HC := Lib.hid C1
    have HC8 := Lib.hid c8
    have HO8 := Lib.hid o8
    have HH9 := C1.h9
    obtain ⟨v, hv⟩ : ∃ v, v = lastv 0 (opl o45 pre) := ⟨_, rfl⟩
    rw [← hv] at R9 HH9
    have HVv := Lib.hid hv
    have HNS := Lib.hid hns
    have HHV := Lib.hid HH9
    clear C1 c8 o8 hv hns HH9 HV hxs
    cases Z
    · gi_wp2_with (first
        | ((first | refine ⟨trivial, fun h => (by cases h), ?_⟩ | refine ⟨trivial, ?_⟩); gi_at_call 45; refine (CallsIn.inRound l (callsIn_wide.2 (hc45 _))).mono ?_; rintro e wx ⟨rfl, rfl⟩)
        | ((first | refine ⟨trivial, fun h => (by cases h), ?_⟩ | refine ⟨trivial, ?_⟩); gi_at_call 43; refine (CallsIn.inRound l (callsIn_wide.2 (har _))).mono ?_; rintro e wx ⟨rfl, rfl⟩))
      exact ⟨(Kps.put _ ⟨b6, 0, none⟩ _ (HNS.out b6 (by omega) (by omega))).trans (Kps.put _ ⟨b7, 0, none⟩ _ (HNS.out b7 (by omega) (by omega))),
        ⟨(HC.out.h6.put_ 0 _).apart_ (by show b6 ≠ b7; omega) _, (HC.out.h7.apart_ (by show b7 ≠ b6; omega) _).put_ 0 _,
          (HC.out.hb.setCell (p := ⟨b6, 0, none⟩) (by show w.heap.size ≤ b6; omega) _).setCell (p := ⟨b7, 0, none⟩) (by show w.heap.size ≤ b7; omega) _, ⟨(f, z), by rw [opl_snoc45, hst.out]; simp, HZ.out.symm⟩⟩⟩
    · by_cases hzv : z = v
      · have t1 : (z != v) = false := by simp [hzv]
        have HE := Lib.hid hzv
        clear hzv
        gi_wp2_with (first
          | ((first | refine ⟨trivial, fun h => (by cases h), ?_⟩ | refine ⟨trivial, ?_⟩); gi_at_call 45; refine (CallsIn.inRound l (callsIn_wide.2 (hc45 _))).mono ?_; rintro e wx ⟨rfl, rfl⟩)
          | ((first | refine ⟨trivial, fun h => (by cases h), ?_⟩ | refine ⟨trivial, ?_⟩); gi_at_call 43; refine (CallsIn.inRound l (callsIn_wide.2 (har _))).mono ?_; rintro e wx ⟨rfl, rfl⟩))
        refine ⟨Kps.refl _ _, ⟨HC.out.h5, HC.out.h6, HC.out.h7, ⟨v8, HC8.out, ?_⟩, ?_, HC.out.hb, ?_⟩⟩
        · rw [opl_snoc45, hst.out, sht, shF_snoc, if_pos (by rw [← HVv.out]; exact HE.out), List.append_nil]; exact HO8.out
        · rw [opl_snoc45, hst.out, lastv_snoc]; show Has _ _ _ #[Value.int IntKind.i64 z]; rw [HE.out]; exact HHV.out
        · rw [opl_snoc45, hst.out]
          intro s hs
          rcases List.mem_append.1 hs with hs | hs
          · exact HC.out.ha s hs
          · rw [List.mem_singleton.1 hs]; exact HZ.out.symm
      · have t1 : (z != v) = true := by simp [hzv]
        have HE := Lib.hid hzv
        clear hzv
        obtain ⟨i0, hi, hz0, hz1, hz2⟩ := info_parts info34
        have HN := Has.new_ w3 34 #[.int .i64 f, .int .i64 z]
        have ho := HO8.out.on (al1 w3 (.cells #[.int .i64 f, .int .i64 z] 34))
        have hcl : ∀ (j : Nat) (u : Value), [Value.int .i64 f, Value.int .i64 z][j]? = some u → (w3.alloc (.cells #[.int .i64 f, .int .i64 z] 34)).cell? ((⟨w3.heap.size, 0, none⟩ : Addr).add j) = some u := fun j u h => by
          rw [Addr.add_lit, Nat.zero_add, HN.read j]
          simpa using h
        have hR9 : (w3.alloc (.cells #[.int .i64 f, .int .i64 z] 34)).cell? ⟨b9, 0, none⟩ = some (.int .i64 v) := cell_later (al1 w3 _) R9
        have hR8 : (w3.alloc (.cells #[.int .i64 f, .int .i64 z] 34)).cell? ⟨b8, 0, none⟩ = some v8 := cell_later (al1 w3 _) R8
        have H8a := HC8.out.on (al1 w3 (.cells #[.int .i64 f, .int .i64 z] 34))
        have H5a := HC.out.h5.on (al1 w3 (.cells #[.int .i64 f, .int .i64 z] 34))
        have H6a := HC.out.h6.on (al1 w3 (.cells #[.int .i64 f, .int .i64 z] 34))
        have H7a := HC.out.h7.on (al1 w3 (.cells #[.int .i64 f, .int .i64 z] 34))
        have H9a := HHV.out.on (al1 w3 (.cells #[.int .i64 f, .int .i64 z] 34))
        have KN := Kps.alloc (S := fun k => (k < w.heap.size ∨ k = d1 ∨ k = d2) ∨ V.heap.size ≤ k ∧ k < V.heap.size + 5) w3 (.cells #[.int .i64 f, .int .i64 z] 34)
        have BN := HC.out.hb.alloc (Nat.le_trans HC.out.hb.size (Nat.le_refl _)) (.cells #[.int .i64 f, .int .i64 z] 34)
        have hbk := World.ownsRow.lt HO8.out
        have HHs := Lib.hid (And.intro H5a (And.intro H6a (And.intro H7a (And.intro H8a (And.intro H9a (And.intro KN (And.intro BN hbk)))))))
        clear H5a H6a H7a H8a H9a KN BN hbk HN
        gi_wp2_with (first
          | ((first | refine ⟨trivial, fun h => (by cases h), ?_⟩ | refine ⟨trivial, ?_⟩); gi_at_call 45; refine (CallsIn.inRound l (callsIn_wide.2 (hc45 _))).mono ?_; rintro e wx ⟨rfl, rfl⟩)
          | ((first | refine ⟨trivial, fun h => (by cases h), ?_⟩ | refine ⟨trivial, ?_⟩); gi_at_call 43; refine (CallsIn.inRound l (callsIn_wide.2 (har _))).mono ?_; rintro e wx ⟨rfl, rfl⟩)
          | (gi_at_builtin; refine Stop45.out ?_))
        refine Stop45.mk ?_
        refine wpListIn_append_own _ rfl _ _ 22 rfl (V.heap.size + 5) 34 i0 _ 2 16 Try.underlying22 hi hz0 hz1 hz2 rfl (by decide) _ _ _ rfl ho _ 1 1 [.int .i64 f, .int .i64 z] rfl rfl hcl (by simp [Value.oneCell']) ?hb1 ?hb2 ?hb3 ?_
        case hb1 => have := hlen.out; unfold maxLen; omega
        case hb2 => have := hlen.out; omega
        case hb3 => have := HZ3.out; simp; omega
        intro v' w5 hown' hgrow hnil
        obtain ⟨g', cap', rfl⟩ := ownsRow_succ hown'
        obtain ⟨H5a, H6a, H7a, H8a, H9a, KN, BN, hbk⟩ := HHs.out
        have hne : ∀ b, b < V.heap.size + 5 → some b ≠ v8.ownBlock := fun b hb e => by have := hbk _ e.symm; omega
        have D5 := H5a.grown_ hgrow (hne _ (by omega))
        have D6 := H6a.grown_ hgrow (hne _ (by omega))
        have D7 := H7a.grown_ hgrow (hne _ (by omega))
        have D8 := H8a.grown_ hgrow (hne _ (by omega))
        have D9 := H9a.grown_ hgrow (hne _ (by omega))
        have BG := BN.grown hgrow BN.size (fun k e => (by have := hbk _ e; omega))
        have KG := KN.trans (Kps.grown hgrow (fun k e => (by have := hbk _ e; intro h; rcases h with (h | h | h) | h <;> omega)))
        have hg' := (World.ownsRow.lt hown' g' rfl)
        have r8 : w5.cell? ⟨b8, 0, none⟩ = some v8 := D8.read 0
        have r9 : ∀ u, (w5.setCell ⟨b8, 0, none⟩ u).cell? ⟨b9, 0, none⟩ = some (.int .i64 v) := fun u => (D9.apart_ (by show b9 ≠ b8; omega) u).read 0
        have g8 := D8.open_ 0
        have g9 := D9.open_ 0
        have HD := Lib.hid (And.intro D5 (And.intro D6 (And.intro D7 (And.intro D8 (And.intro D9 (And.intro BG (And.intro KG (And.intro hown' hg'))))))))
        clear D5 D6 D7 D8 D9 BG KG hown' hg' H5a H6a H7a H8a H9a KN BN hbk hne hgrow hnil ho hcl hR8 hR9 HHs hc45 har
        gi_wp2
        obtain ⟨D5, D6, D7, D8, D9, BG, KG, hown', hg'⟩ := HD.out
        have hE : sht (opl o45 (pre ++ [(f, p, q)])) = sht (opl o45 pre) ++ [(f, z)] := by
          rw [opl_snoc45, hst.out, sht, shF_snoc, if_neg (by rw [← HVv.out]; exact HE.out)]; rfl
        refine ⟨(KG.trans (Kps.put _ ⟨b8, 0, none⟩ _ (HNS.out b8 (by omega) (by omega)))).trans (Kps.put _ ⟨b9, 0, none⟩ _ (HNS.out b9 (by omega) (by omega))),
          ⟨(D5.apart_ (by show w.heap.size ≠ b8; omega) _).apart_ (by show w.heap.size ≠ b9; omega) _, (D6.apart_ (by show b6 ≠ b8; omega) _).apart_ (by show b6 ≠ b9; omega) _,
            (D7.apart_ (by show b7 ≠ b8; omega) _).apart_ (by show b7 ≠ b9; omega) _, ⟨_, (D8.put_ 0 _).apart_ (by show b8 ≠ b9; omega) _, ?_⟩, ?_,
            (BG.setCell (p := ⟨b8, 0, none⟩) (by show w.heap.size ≤ b8; omega) _).setCell (p := ⟨b9, 0, none⟩) (by show w.heap.size ≤ b9; omega) _, ?_⟩⟩
        · rw [hE]
          have ho5 : OwnS (V.heap.size + 5) w5 (.slice (some ⟨g', 0, none⟩) ((sht (opl o45 pre)).length + 1) cap') (sht (opl o45 pre) ++ [(f, z)]) := by
            unfold OwnS; rw [List.length_append, cells_app]; exact hown'
          refine ho5.kept fun k hk hB => ?_
          rw [Below.heap_setCell _ _ _ _ (show k ≠ b9 by omega), Below.heap_setCell _ _ _ _ (show k ≠ b8 by omega)]
        · rw [opl_snoc45, hst.out, lastv_snoc]
          exact (D9.apart_ (by show b9 ≠ b8; omega) _).put_ 0 _
        · rw [opl_snoc45, hst.out]
          intro s hs
          rcases List.mem_append.1 hs with hs | hs
          · exact HC.out.ha s hs
          · rw [List.mem_singleton.1 hs]; exact HZ.out.symm

  case done =>
    rintro W C hK
    obtain ⟨v8, c8, o8⟩ := C.h8
    obtain ⟨p8, k8, rfl⟩ := o8.form
    have R8 : W.cell? ⟨b8, 0, none⟩ = some (.slice p8 (sht (opl o45 (tog la lb))).length k8) := c8.read 0
    have R6 : W.cell? ⟨b6, 0, none⟩ = some (.slice none 0 0) := C.h6.read 0
    have R76 : ∀ u, (W.setCell ⟨b6, 0, none⟩ u).cell? ⟨b7, 0, none⟩ = some (.int .i64 0) := fun u => (C.h7.apart_ (by show b7 ≠ b6; omega) u).read 0
    have f6 := C.h6.open_ 0
    have f7 := C.h7.open_ 0
    have HC := Lib.hid C
    have HO8 := Lib.hid o8
    clear C c8 o8
    obtain ⟨m, hm⟩ : ∃ m, m = (sht (opl o45 (tog la lb))).length := ⟨_, rfl⟩
    rw [← hm] at R8
    have HM := Lib.hid hm
    clear hm
    have hall : Hid ((opl o45 (tog la lb)).all (fun s => ara s.2) = true) := Lib.hid (List.all_eq_true.2 HC.out.ha)
    by_cases h2 : 200 < m
    · have h4 : (200 : Int) < (m : Int) := by omega
      have hres : Hid (cmb o45 la lb = ([], 4)) := Lib.hid (by
        have h3 : ¬ (sht (opl o45 (tog la lb))).length ≤ 200 := by rw [← HM.out]; omega
        simp only [cmb, hall.out, if_true, if_neg h3])
      have HK : Hid (((W.setCell ⟨b6, 0, none⟩ (.slice none 0 0)).setCell ⟨b7, 0, none⟩ (.int .i64 4)).heap[V.heap.size]? = some (.deferred (some []))) := Lib.hid (by
        rw [Below.heap_setCell _ _ _ _ (show V.heap.size ≠ b7 by omega), Below.heap_setCell _ _ _ _ (show V.heap.size ≠ b6 by omega)]; exact hK)
      gi_wp2
      refine ⟨by simp, .inl ⟨_, _, rfl, run_takeDeferred HK.out, ?_⟩⟩
      have X6 := ((HC.out.h6.put_ 0 (.slice none 0 0)).apart_ (p := ⟨b7, 0, none⟩) (by show b6 ≠ b7; omega) (.int .i64 4)).obj (.deferred none) (l := V.heap.size) (by omega)
      have X7 := ((HC.out.h7.apart_ (p := ⟨b6, 0, none⟩) (by show b7 ≠ b6; omega) (.slice none 0 0)).put_ 0 (.int .i64 4)).obj (.deferred none) (l := V.heap.size) (by omega)
      have x6 : (((W.setCell ⟨b6, 0, none⟩ (.slice none 0 0)).setCell ⟨b7, 0, none⟩ (.int .i64 4)).putObj V.heap.size (.deferred none)).cell? ⟨b6, 0, none⟩ = some (.slice none 0 0) := X6.read 0
      have x7 : (((W.setCell ⟨b6, 0, none⟩ (.slice none 0 0)).setCell ⟨b7, 0, none⟩ (.int .i64 4)).putObj V.heap.size (.deferred none)).cell? ⟨b7, 0, none⟩ = some (.int .i64 4) := X7.read 0
      refine ⟨.tuple #[.slice none 0 0, .int .i64 4], by simp [results, Try.results44, go_sem, x6, x7], .slice none 0 0, ?_, ?_, ?_⟩
      · rw [hres.out]
      · rw [hres.out]; exact OwnS.nil _ _
      · exact below_obj ((HC.out.hb.setCell (p := ⟨b6, 0, none⟩) (by show w.heap.size ≤ b6; omega) _).setCell (p := ⟨b7, 0, none⟩) (by show w.heap.size ≤ b7; omega) _) _ (by omega)
    · have h4 : ¬ (200 : Int) < (m : Int) := by omega
      have hres : Hid (cmb o45 la lb = (sht (opl o45 (tog la lb)), 0)) := Lib.hid (by
        have h3 : (sht (opl o45 (tog la lb))).length ≤ 200 := by rw [← HM.out]; omega
        simp only [cmb, hall.out, if_true, if_pos h3])
      have HK : Hid (((W.setCell ⟨b6, 0, none⟩ (.slice p8 m k8)).setCell ⟨b7, 0, none⟩ (.int .i64 0)).heap[V.heap.size]? = some (.deferred (some []))) := Lib.hid (by
        rw [Below.heap_setCell _ _ _ _ (show V.heap.size ≠ b7 by omega), Below.heap_setCell _ _ _ _ (show V.heap.size ≠ b6 by omega)]; exact hK)
      gi_wp2
      refine ⟨by simp, .inl ⟨_, _, rfl, run_takeDeferred HK.out, ?_⟩⟩
      have X6 := ((HC.out.h6.put_ 0 (.slice p8 m k8)).apart_ (p := ⟨b7, 0, none⟩) (by show b6 ≠ b7; omega) (.int .i64 0)).obj (.deferred none) (l := V.heap.size) (by omega)
      have X7 := ((HC.out.h7.apart_ (p := ⟨b6, 0, none⟩) (by show b7 ≠ b6; omega) (.slice p8 m k8)).put_ 0 (.int .i64 0)).obj (.deferred none) (l := V.heap.size) (by omega)
      have x6 : (((W.setCell ⟨b6, 0, none⟩ (.slice p8 m k8)).setCell ⟨b7, 0, none⟩ (.int .i64 0)).putObj V.heap.size (.deferred none)).cell? ⟨b6, 0, none⟩ = some (.slice p8 m k8) := X6.read 0
      have x7 : (((W.setCell ⟨b6, 0, none⟩ (.slice p8 m k8)).setCell ⟨b7, 0, none⟩ (.int .i64 0)).putObj V.heap.size (.deferred none)).cell? ⟨b7, 0, none⟩ = some (.int .i64 0) := X7.read 0
      refine ⟨.tuple #[.slice p8 m k8, .int .i64 0], by simp [results, Try.results44, go_sem, x6, x7], .slice p8 m k8, ?_, ?_, ?_⟩
      · rw [hres.out]
      · rw [hres.out]; rw [HM.out]; exact (((HO8.out.put ⟨b6, 0, none⟩ _ (by show b6 < _; omega)).put ⟨b7, 0, none⟩ _ (by show b7 < _; omega)).obj _ (by omega)).mono (by omega)
      · exact below_obj ((HC.out.hb.setCell (p := ⟨b6, 0, none⟩) (by show w.heap.size ≤ b6; omega) _).setCell (p := ⟨b7, 0, none⟩) (by show w.heap.size ≤ b7; omega) _) _ (by omega)

  case stop =>
    rintro pre rest W hxs X hK
    have HX := Lib.hid X
    gi_wp2
    refine ⟨by simp, .inl ⟨_, _, rfl, run_takeDeferred hK, ?_⟩⟩
    have hres : cmb o45 la lb = ([], 5) := by
      obtain ⟨s, hs, he⟩ := HX.out.hx
      have h3 : (opl o45 (tog la lb)).all (fun s => ara s.2) = false := List.all_eq_false.2 ⟨s, by rw [hxs]; unfold opl at hs ⊢; rw [List.map_append]; exact List.mem_append_left _ hs, by simp [he]⟩
      simp only [cmb, h3, Bool.false_eq_true, if_false]
    have X6 := HX.out.h6.obj (.deferred none) (l := V.heap.size) (by omega)
    have X7 := HX.out.h7.obj (.deferred none) (l := V.heap.size) (by omega)
    have x6 : (W.putObj V.heap.size (.deferred none)).cell? ⟨b6, 0, none⟩ = some (.slice none 0 0) := X6.read 0
    have x7 : (W.putObj V.heap.size (.deferred none)).cell? ⟨b7, 0, none⟩ = some (.int .i64 5) := X7.read 0
    refine ⟨.tuple #[.slice none 0 0, .int .i64 5], by simp [results, Try.results44, go_sem, x6, x7], .slice none 0 0, ?_, ?_, ?_⟩
    · rw [hres]
    · rw [hres]; exact OwnS.nil _ _
    · exact below_obj HX.out.hb _ (by omega)

end Go.Proofs.Ytbohcedclnbcdaa
