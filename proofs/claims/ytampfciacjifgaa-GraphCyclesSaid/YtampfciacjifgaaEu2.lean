/- GraphEuler: the walk. -/
import Derived.Test.YtampfciacjifgaaEu1
import Derived.Test.YtampfciacjifgaaGp
namespace Go.Proofs.Ytampfciacjifgaa
open Go.ChangeShapes Go.WideShapes Go.ChangeAt Go.RowKit
set_option linter.unusedVariables false
set_option linter.unusedSimpArgs false

/-- The cells of pairs. -/
def pc (xs : List (Nat × Nat)) : List Value := xs.flatMap fun x => [.int .i64 (x.1 : Int), .int .i64 (x.2 : Int)]
theorem pc_len : ∀ xs : List (Nat × Nat), (pc xs).length = xs.length * 2
  | [] => rfl
  | x :: xs => by simp only [pc, List.flatMap_cons, List.length_append, List.length_cons, List.length_nil]; have := pc_len xs; unfold pc at this; omega
theorem pc_app (xs ys : List (Nat × Nat)) : pc (xs ++ ys) = pc xs ++ pc ys := by simp [pc]
theorem pc_at : ∀ (xs : List (Nat × Nat)) (i : Nat) (h : i < xs.length), (pc xs)[i * 2]? = some (.int .i64 (xs[i].1 : Int)) ∧ (pc xs)[i * 2 + 1]? = some (.int .i64 (xs[i].2 : Int))
  | x :: xs, 0, _ => ⟨rfl, rfl⟩
  | x :: xs, i + 1, h => by
    have := pc_at xs i (by simpa using h)
    rw [show (i + 1) * 2 = i * 2 + 2 by omega]
    simpa [pc] using this
theorem info46 : (Try.prog.info? 46).map (fun i => (i.zero, i.size, i.bytes)) = some (some (.agg #[.int .i64 0, .int .i64 0]), 2, 16) := by kernel_rfl
/-- Pairs in memory of the call's own are a graph. -/
theorem own_gr {B n : Nat} {w : World} {v : Value} {xs : List (Nat × Nat)} (h : w.ownsRow B 46 2 v xs.length (pc xs)) (hx : xs.length ≤ 4000) (hn : n ≤ 1000) (hl : ∀ x ∈ xs, x.1 < n ∧ x.2 < n ∧ x.1 ≠ x.2) : ∃ p c, v = .slice p xs.length c ∧ Gr w p n xs := by
  have hI : ∀ x ∈ cast2 xs, I64 x.1 ∧ I64 x.2 := fun x hx => by
    obtain ⟨y, hy, rfl⟩ := List.mem_map.1 hx
    have := hl y hy
    unfold I64; simp only []; omega
  have k := h
  rcases k.2 with ⟨rfl, h0⟩ | ⟨g, c, cur, rfl, -, -, -, -, -, -⟩
  · have e : xs = [] := List.eq_nil_of_length_eq_zero h0
    subst e
    have S : Sl w none (cast2 []) := ⟨fun _ => rfl, (fun a h => by cases h), Nat.zero_le _, hI⟩
    exact ⟨none, 0, rfl, S, hx, hn, hl⟩
  · have S : Sl w (some ⟨g, 0, none⟩) (cast2 xs) := by
      refine ⟨(fun e => by cases e), ?_, by rw [cast2_len]; unfold maxLen; omega, hI⟩
      intro a ha i hi
      cases ha
      rw [cast2_len] at hi
      obtain ⟨c0, c1⟩ := pc_at xs i hi
      have e0 := World.ownsRow.cellAt h (i * 2) (by omega)
      have e1 := World.ownsRow.cellAt h (i * 2 + 1) (by omega)
      refine ⟨?_, ?_⟩
      · rw [Addr.add_lit, Nat.zero_add, e0, c0]; simp [cast2]
      · rw [Addr.add_lit, Nat.zero_add]
        show w.cell? ⟨g, i * 2 + 1, none⟩ = _
        rw [e1, c1]; simp [cast2]
    exact ⟨_, c, rfl, S, hx, hn, hl⟩
/-- What a cycle is: one edge beside the forest, the others in it. -/
structure Gc (l : List (Nat × Nat)) (F xs : List Nat) : Prop where
  b : cyB l xs = true
  s : ∃ i t, xs = i :: t ∧ i ∉ F ∧ ∀ j ∈ t, j ∈ F
  r : ∀ j ∈ xs, j < l.length
  n : xs.length ≤ 5000
theorem gcycles (p : Option Addr) (n : Nat) (l : List (Nat × Nat)) (cap : Nat) (w : World) (hG : Gr w p n l) :
    Calls Try.prog 19 #[.int .i64 n, .slice p l.length cap] w fun e w' => ∃ v C, e = .returned (.tuple #[v, .int .i64 0]) ∧ Nest w.heap.size w' v C ∧ C.length = (outF l l.length).length ∧ (∀ xs ∈ C, Gc l (inF l l.length) xs) ∧ Below w.heap.size w w' := by
  refine (cycles_ok p n l cap w hG).mono ?_
  rintro e w' ⟨v, f, ro, he, hF, hN, hb⟩
  have hl : ∀ x ∈ l, x.1 < n ∧ x.2 < n ∧ x.1 ≠ x.2 := hG.2.2.2
  have hn := hG.2.2.1
  refine ⟨v, _, he, hN, by simp, fun xs hxs => ?_, hb⟩
  obtain ⟨i, hi, rfl⟩ := List.mem_map.1 hxs
  obtain ⟨h1, t, h2, h3, h4⟩ := cyc_cyB hl hF hi
  have hi2 := outF_mem.1 hi
  refine ⟨h1, ⟨i, t, h2, fun k => ?_, h3⟩, fun j hj => ?_, by rw [h2, List.length_cons]; omega⟩
  · have := (inF_mem.1 k).2
    rw [hi2.2] at this; cases this
  · rw [h2] at hj
    rcases List.mem_cons.1 hj with rfl | hj
    · exact hi2.1
    · exact (inF_mem.1 (h3 j hj)).1
set_option maxRecDepth 100000 in
set_option maxHeartbeats 8000000 in
theorem geuler_walk (p : Option Addr) (l : List (Int × Int)) (cap : Nat) (n : Int) (w : World) (hS : Sl w p l) :
    Calls Try.prog 6 #[.int .i64 n, .slice p l.length cap] w fun e w' => e = .returned (.bool true) ∧ Below w.heap.size w w' := by
  have hR := fun W h => rgt_any p l cap n W h
  cases hr : rg n l.length (vG n l)
  · rw [hr] at hR
    go_enter Try.func6, Try.ntmps6
    go_wp2_with (first
      | (go_at_call 9; (with_reducible refine (awake_any _).mono ?_); rintro e w1 ⟨rfl, b1⟩; have S1 := hS.on b1)
      | (go_at_call 29; (with_reducible refine (hR _ S1).mono ?_); rintro e w2 ⟨rfl, b2⟩))
    go_ret
    exact ⟨rfl, belows b1 b2⟩
  rw [hr] at hR
  unfold rg at hr
  rw [Bool.and_eq_true] at hr
  obtain ⟨m, k, rfl, rfl, hlen, hG⟩ := gr_of_valid hS hr.2
  rw [hlen] at hR ⊢
  clear hr hlen
  have hl : ∀ x ∈ k, x.1 < m ∧ x.2 < m ∧ x.1 ≠ x.2 := hG.2.2.2
  have hm := hG.2.2.1
  have hk := hG.2.1
  have pb := parts_bounds (R := pre k k.length) hm
  have hfl : ∀ i ∈ inF k k.length, i < k.length := fun i hi => (inF_mem.1 hi).1
  have hFk := inF_len k k.length
  have sum1 := in_roots hl k.length (Nat.le_refl _)
  rw [← partsL_len] at sum1
  have sum2 := in_out k k.length
  have hff := ff_pre k k.length (Nat.le_refl _)
  have hfo := ff_out k (Nat.le_refl k.length)
  have hfn := ff_len k k.length
  have hfx : ∀ x ∈ ff k k.length, x.1 < m ∧ x.2 < m ∧ x.1 ≠ x.2 := fun x hx => by
    obtain ⟨i, hi, rfl⟩ := List.mem_map.1 hx
    have := hfl i hi
    rw [List.getD_eq_getElem?_getD, List.getElem?_eq_getElem this]
    exact hl _ (List.getElem_mem this)
  have hfd : ∀ j (h : j < (inF k k.length).length) (h2 : j < (ff k k.length).length), k[(inF k k.length)[j]]? = some (ff k k.length)[j] := fun j h h2 => by
    have := hfl _ (List.getElem_mem h)
    simp [ff, this]
  have f11 := fun W h => parts_ok p m k cap W h
  have f12 := fun W h => forest_ok p m k cap W h
  have f19 := fun W h => gcycles p m k cap W h
  have f20 := fun W h => count_ok p m k cap W h
  have g11 := fun W q cc h => parts_ok q m (ff k k.length) cc W h
  have g20 := fun W q cc h => count_ok q m (ff k k.length) cc W h
  rw [hff.1] at g11
  rw [hfo] at g20
  clear hff hfo
  have hG0 := hG.on (Below.refl _ _)
  generalize partsL (pre k k.length) m = P at *
  generalize inF k k.length = F at *
  generalize ff k k.length = fl at *
  generalize (outF k k.length).length = O at *
  have F1 : IntKind.i64.wrap ((F.length : Int) + (P.length : Int)) = (m : Int) := by rw [IntWalk.i64_in _ (by omega)]; omega
  have t1 : ((m : Int) != (m : Int)) = false := by simp
  have F2 : IntKind.i64.wrap ((F.length : Int) + (O : Int)) = (k.length : Int) := by rw [IntWalk.i64_in _ (by omega)]; omega
  have t2 : ((k.length : Int) != (k.length : Int)) = false := by simp
  have t3 : ((O : Int) != (O : Int)) = false := by simp
  have HH := Lib.hid (And.intro hl (And.intro hfx hfd))
  have HN := Lib.hid (And.intro hfn (And.intro sum1 sum2))
  clear hl hfx hfd hfn sum1 sum2 hG
  go_enter Try.func6, Try.ntmps6
  go_wp2_with (first
    | (go_at_call 9; (with_reducible refine (awake_any _).mono ?_); rintro e w1 ⟨rfl, b1⟩; have G1 := hG0.on b1)
    | (go_at_call 29; (with_reducible refine (hR _ (gr_sl G1)).mono ?_); rintro e w2 ⟨rfl, b2⟩; have G2 := G1.on b2)
    | (go_at_call 11; (with_reducible refine (f11 w2 G2).mono ?_); rintro e w3 ⟨v3, rfl, o3, b3⟩; have G3 := G2.on b3; have r3 := o3.rd; obtain ⟨q3, c3, rfl, k3⟩ := (show Rdn w3 v3 P from r3))
    | (go_at_call 12; (with_reducible refine (f12 w3 G3).mono ?_); rintro e w4 ⟨v4, rfl, o4, b4⟩; have G4 := G3.on b4; have r34 := Rdn.on r3 b4; have r4 := Own.rd o4; obtain ⟨q4, c4, rfl, k4⟩ := (show Rdl w4 v4 F from r4))
    | (go_at_call 19; (with_reducible refine (f19 w4 G4).mono ?_); rintro e w5 ⟨v5, C, rfl, o5, hC, hGc, b5⟩; have G5 := G4.on b5; have r35 := Rdn.on r34 b5; have r45 := r4.on b5; have r5 := o5.rd; obtain ⟨q5, c5, rfl, k5⟩ := (show Rdn w5 v5 C from r5); have t4 : IntKind.i64.wrap ((F.length : Int) + (C.length : Int)) = (k.length : Int) := (by rw [hC]; exact F2); have t5 : ((O : Int) != (C.length : Int)) = false := (by rw [hC]; exact t3); have HCl := Lib.hid hC; clear hC)
    | (go_at_call 20; (with_reducible refine (f20 w5 G5).mono ?_); rintro e w6 ⟨rfl, b6⟩; have G6 := G5.on b6; have r36 := Rdn.on r35 b6; have r46 := r45.on b6; have r56 := Rdn.on r5 b6))
  have hb6 := belows (belows (belows (belows (belows b1 b2) b3) b4) b5) b6
  obtain ⟨q, c, e46, k46⟩ := (show Rdl w6 (.slice q4 F.length c4) F from r46)
  simp only [Value.slice.injEq, true_and] at e46
  obtain ⟨rfl, rfl⟩ := e46
  have K4 := Lib.hid k46
  have R4 := Lib.hid r46
  have R3 := Lib.hid r36
  have R5 := Lib.hid r56
  clear k3 k4 k5 k46 r3 r34 r35 r36 r4 r45 r46 r5 r56 o3 o4 o5 G1 G2 G3 G4 G5 b1 b2 b3 b4 b5 b6 f11 f12 f19 f20 hR F1 F2 t1 t2 t3 t4 t5 hG0
  obtain ⟨i0, hi, hz0, hz1, hz2⟩ := info_parts info46
  go_loopw [13, 98] (fun v13 v98 wr => ∃ j : Nat, v98 = .int .i64 j ∧ j ≤ F.length ∧ Hid (wr.ownsRow w6.heap.size 46 2 v13 j (pc (fl.take j))) ∧ Below w6.heap.size w6 wr) (fun _ v _ => F.length - (intOf v).toNat)
  case atStart => exact ⟨0, rfl, Nat.zero_le _, Lib.hid (World.ownsRow_nil _ _ _ _), Below.refl _ _⟩
  case round =>
    obtain ⟨j, rfl, hj, hO, hB⟩ := hrel
    by_cases hlt : j < F.length
    · have g1 : decide ((j : Int) < (F.length : Int)) = true := by simp [hlt]
      have W1 : IntKind.i64.wrap ((j : Int) + 1) = ((j + 1 : Nat) : Int) := by rw [IntWalk.i64_in _ (by omega)]; omega
      obtain ⟨g, rfl, cj⟩ := K4.out j hlt
      have cj := cell_later hB cj
      have hlf : j < fl.length := by have := HN.out.1; omega
      have hxe := HH.out.2.2 j hlt hlf
      have htk : fl.take (j + 1) = fl.take j ++ [fl[j]] := List.take_succ_eq_append_getElem hlf
      obtain ⟨i, hie⟩ : ∃ i, i = F[j] := ⟨_, rfl⟩
      rw [← hie] at cj hxe
      obtain ⟨x, hxx⟩ : ∃ x, x = fl[j] := ⟨_, rfl⟩
      rw [← hxx] at hxe htk
      have hik : i < k.length := (List.getElem?_eq_some_iff.1 hxe).1
      have hxk := (List.getElem?_eq_some_iff.1 hxe).2
      obtain ⟨a, rfl, d0, d1, -⟩ := (G6.on hB).at hik
      rw [hxk] at d0 d1
      obtain ⟨x1, x2⟩ := x
      simp only [] at d0 d1
      have q1 : (0 : Int) ≤ (i : Int) := by omega
      have q2 : (i : Int) < (k.length : Int) := by omega
      have q3 : ¬ (i : Int) < 0 := by omega
      have q4 : ¬ (k.length : Int) ≤ (i : Int) := by omega
      have q5 : (0 : Int) ≤ (j : Int) := by omega
      have q6 : (j : Int) < (F.length : Int) := by omega
      have HT := Lib.hid htk
      have zb : (a.add (i * 2)).block < wr.heap.size := lt_of_cell d0
      clear htk hxe hie hxx hxk
      go_wp2_with (at_builtin; refine wpList_append_own_at _ rfl _ _ 22 rfl w6.heap.size 46 i0 _ 2 16 Try.underlying22 hi hz0 hz1 hz2 rfl (by decide) _ j (pc (fl.take j)) rfl (own_on hO.out (al1 wr (.cells #[.int .i64 (x1 : Int), .int .i64 (x2 : Int)] 46))) ⟨_, 0, none⟩ 1 1 [.int .i64 (x1 : Int), .int .i64 (x2 : Int)] rfl rfl (World.news_of_block (cs := #[.int .i64 (x1 : Int), .int .i64 (x2 : Int)]) (t := 46) (fr := (0, 0)) (heap_alloc_new wr _)) (by simp [Value.oneCell']) (by unfold maxLen; omega) (by omega) (Nat.le_trans hB.size (al1 wr _).size) ?_)
      intro v' w2 o1 o2 o3 o4
      have O2 : w2.ownsRow w6.heap.size 46 2 v' (j + 1) (pc (fl.take (j + 1))) := by
        rw [HT.out, pc_app]; exact o1
      have B2 : Below w6.heap.size w6 w2 := (hB.alloc hB.size _).grown o2 (Nat.le_trans hB.size (al1 wr _).size) (fun j hj => (World.ownsRow.lt hO.out _ hj).1)
      clear o1 o2 o3 o4
      go_wp2
      exact ⟨⟨j + 1, rfl, hlt, Lib.hid O2, B2⟩, by simp [intOf]; omega⟩
    · have g1 : decide ((j : Int) < (F.length : Int)) = false := by simp; omega
      have hfe : j = fl.length := by have := HN.out.1; omega
      have hO1 := hO.out
      rw [List.take_of_length_le (by omega), hfe] at hO1
      obtain ⟨pz, cz, ez, GZ⟩ := own_gr hO1 (by have := HN.out.1; omega) hm HH.out.2.1
      subst ez
      have G7 := G6.on hB
      have r37 := Rdn.on R3.out hB
      have r47 := R4.out.on hB
      have r57 := Rdn.on R5.out hB
      clear hO hO1 hfe g1 hi hz0 hz1 hz2
      go_wp2_with (first
        | (go_at_call 11; (with_reducible refine (g11 _ pz cz GZ).mono ?_); rintro e w8 ⟨v8, rfl, o8, b8⟩; have Z8 := GZ.on b8; have G8 := G7.on b8; have r8 := o8.rd; have r38 := Rdn.on r37 b8; have r48 := r47.on b8; have r58 := Rdn.on r57 b8)
        | (go_at_call 20; (with_reducible refine (g20 w8 pz cz Z8).mono ?_); rintro e w9 ⟨rfl, b9⟩; have G9 := G8.on b9; have r89 := Rdn.on r8 b9; have r39 := Rdn.on r38 b9; have r49 := r48.on b9; have r59 := Rdn.on r58 b9)
        | (go_at_call 15; (with_reducible refine (same_any v8 _ P P w9 r89 r39 pb.1 pb.2).mono ?_); rintro e wa ⟨rfl, ba⟩; have ta : decide (P = P) = true := decide_eq_true rfl; have BA := drewN_below ba; have Ga := G9.on BA; have r4a := r49.on BA; have r5a := Rdn.on r59 BA))
      have bwa := belows (belows (belows (belows hb6 hB) b8) b9) BA
      have hCl : C.length ≤ 4000 := by have := HCl.out; have := HN.out.2.2; omega
      obtain ⟨q, c, e5a, k5a⟩ := (show Rdn wa (.slice q5 C.length c5) C from r5a)
      simp only [Value.slice.injEq, true_and] at e5a
      obtain ⟨rfl, rfl⟩ := e5a
      have K5 := Lib.hid k5a
      have HGc := Lib.hid hGc
      clear k5a hGc r37 r47 r57 r8 r38 r48 r58 r89 r39 r49 r59 r5a o8 b8 b9 ba BA G6 G7 G8 G9 Z8 GZ K4 R3 R4 R5 hb6 hB g11 g20 ta
      go_loopw [148] (fun v148 wr => ∃ j : Nat, v148 = .int .i64 j ∧ j ≤ C.length ∧ Below wa.heap.size wa wr) (fun v _ => C.length - (intOf v).toNat)
      case atStart => exact ⟨0, rfl, Nat.zero_le _, Below.refl _ _⟩
      case round =>
        obtain ⟨j, rfl, hj, hB⟩ := hrel
        by_cases hlt : j < C.length
        · have g1 : decide ((j : Int) < (C.length : Int)) = true := by simp [hlt]
          have W1 : IntKind.i64.wrap ((j : Int) + 1) = ((j + 1 : Nat) : Int) := by rw [IntWalk.i64_in _ (by omega)]; omega
          obtain ⟨g, u, rfl, cj, hu⟩ := K5.out j hlt
          have cj := cell_later hB cj
          have hu := hu.on hB
          have GC := HGc.out _ (List.getElem_mem hlt)
          obtain ⟨xs, hxs⟩ : ∃ xs, xs = C[j] := ⟨_, rfl⟩
          rw [← hxs] at hu GC
          have q5 : (0 : Int) ≤ (j : Int) := by omega
          have q6 : (j : Int) < (C.length : Int) := by omega
          have Gr1 := Ga.on hB
          have r4r := r4a.on hB
          have hxn := GC.n
          have cy := fun W g h => cycle_yes p m k cap u xs W g h GC.r (by omega)
          rw [GC.b] at cy
          have hu2 := Rdl.y hu
          obtain ⟨qx, cx, rfl, -⟩ := (show Rdl wr u xs from hu)
          have HGC := Lib.hid GC.s
          clear hxs GC
          go_wp2_with (go_at_call 21; (with_reducible refine (cy wr Gr1 hu2).mono ?_); rintro e w3 ⟨rfl, b3⟩; have r43 := r4r.on b3; have u3 := hu.on b3)
          have hB3 := belows hB b3
          obtain ⟨qx, cx, ex, kx⟩ := (show Rdl w3 (.slice qx xs.length cx) xs from u3)
          simp only [Value.slice.injEq, true_and] at ex
          obtain ⟨rfl, rfl⟩ := ex
          have KX := Lib.hid kx
          have HLT := Lib.hid hlt
          clear kx cy hu2 hB b3 r4r cj g1 u3 q5 q6
          go_loopw [24, 167] (fun v24 v167 wr => ∃ y : Nat, v167 = .int .i64 y ∧ y ≤ xs.length ∧ Hid (v24 = .int .i64 (if y = 0 then 0 else 1 : Nat)) ∧ w3 = wr) (fun _ v _ => xs.length - (intOf v).toNat)
          case atStart => exact ⟨0, rfl, Nat.zero_le _, Lib.hid rfl, rfl⟩
          case round =>
            obtain ⟨y, rfl, hy, h24, rfl⟩ := hrel
            by_cases hlt : y < xs.length
            · have g1 : decide ((y : Int) < (xs.length : Int)) = true := by simp [hlt]
              have W2 : IntKind.i64.wrap ((y : Int) + 1) = ((y + 1 : Nat) : Int) := by rw [IntWalk.i64_in _ (by omega)]; omega
              obtain ⟨g2, rfl, cy⟩ := KX.out y hlt
              have q5 : (0 : Int) ≤ (y : Int) := by omega
              have q6 : (y : Int) < (xs.length : Int) := by omega
              have hcon := contains_any (.slice q4 F.length c4) F xs[y] w3 r43 (by omega)
              have hfc : F.contains xs[y] = decide (y ≠ 0) := by
                obtain ⟨i, t, e, h1, h2⟩ := HGC.out
                subst e
                rcases y with _ | y
                · simpa using h1
                · have := h2 _ (List.getElem_mem (show y < t.length by simpa using hlt))
                  simpa using this
              rw [hfc] at hcon
              have h24 := h24.out
              obtain ⟨x, hx⟩ : ∃ x, x = xs[y] := ⟨_, rfl⟩
              rw [← hx] at cy hcon
              clear hx hfc
              by_cases hy0 : y = 0
              · subst hy0
                rw [if_pos rfl] at h24
                subst h24
                rw [decide_eq_false (by simp)] at hcon
                have W3 : IntKind.i64.wrap (0 + 1) = 1 := by decide
                go_wp2_with (go_at_call 30; (with_reducible refine hcon.mono ?_); rintro e w4 ⟨rfl, rfl⟩)
                exact ⟨⟨1, rfl, hlt, Lib.hid rfl, trivial⟩, by simp [intOf]; omega⟩
              · rw [if_neg hy0] at h24
                subst h24
                rw [decide_eq_true hy0] at hcon
                have HY := Lib.hid hy0
                clear hy0
                go_wp2_with (go_at_call 30; (with_reducible refine hcon.mono ?_); rintro e w4 ⟨rfl, rfl⟩)
                exact ⟨⟨y + 1, rfl, hlt, Lib.hid (by rw [if_neg (by omega)]; rfl), trivial⟩, by simp [intOf]; omega⟩
            · have g1 : decide ((y : Int) < (xs.length : Int)) = false := by simp; omega
              have hy0 : y ≠ 0 := by
                obtain ⟨i, t, e, -⟩ := HGC.out
                rw [e] at hlt; simp at hlt; omega
              have h24 := h24.out
              rw [if_neg hy0] at h24
              subst h24
              clear hy0
              go_wp2
              exact ⟨⟨j + 1, rfl, HLT.out, hB3⟩, by simp [intOf]; have := HLT.out; omega⟩
        · have g1 : decide ((j : Int) < (C.length : Int)) = false := by simp; omega
          go_wp2
          go_ret
          exact ⟨rfl, belows bwa hB⟩
end Go.Proofs.Ytampfciacjifgaa
