/- GraphPaths: the law's walk. -/
import Derived.Test.YtampfciacjifgaaGpa
namespace Go.Proofs.Ytampfciacjifgaa
open Go.ChangeShapes Go.WideShapes Go.ChangeAt Go.RowKit
set_option linter.unusedVariables false
set_option linter.unusedSimpArgs false

/-- The two boxes of the law. -/
structure Bx2 (w W : World) (a b : Int) : Prop where
  A : W.cell? ⟨w.heap.size, 0, none⟩ = some (.int .i64 a)
  B : W.cell? ⟨w.heap.size + 1, 0, none⟩ = some (.int .i64 b)
  b : Below w.heap.size w W
theorem Bx2.on {w W W1 : World} {a b : Int} (h : Bx2 w W a b) (hb : Below W.heap.size W W1) : Bx2 w W1 a b :=
  ⟨cell_later hb h.A, cell_later hb h.B, belows h.b hb⟩
theorem Bx2.start (w : World) (a b : Int) : Bx2 w ((w.alloc (.cells #[.int .i64 a] 3)).alloc (.cells #[.int .i64 b] 3)) a b := by
  have H1 := Has.new_ w 3 #[.int .i64 a]
  have b2 := al1 (w.alloc (.cells #[.int .i64 a] 3)) (.cells #[.int .i64 b] 3)
  have H2 := Has.new_ (w.alloc (.cells #[.int .i64 a] 3)) 3 #[.int .i64 b]
  have e : (w.alloc (.cells #[.int .i64 a] 3)).heap.size = w.heap.size + 1 := by simp
  rw [e] at H2
  exact ⟨(Has.on H1 b2).read 0, H2.read 0, al (al1 w _) _⟩
theorem sum_small {a b c : Nat} (ha : a ≤ 1000) (hb : b ≤ 1000) (hc : c ≤ a + b) : IntKind.i64.wrap ((a : Int) + (b : Int)) = (a : Int) + (b : Int) ∧ decide ((c : Int) ≤ (a : Int) + (b : Int)) = true :=
  ⟨IntWalk.i64_in _ (by omega), decide_eq_true (by omega)⟩
set_option maxRecDepth 100000 in
set_option maxHeartbeats 8000000 in
theorem gpaths_walk (p : Option Addr) (l : List (Int × Int)) (cap : Nat) (n a b c : Int) (w : World) (hS : Sl w p l) :
    Calls Try.prog 8 #[.int .i64 n, .slice p l.length cap, .int .i64 a, .int .i64 b, .int .i64 c] w fun e w' => e = .returned (.bool true) ∧ Below w.heap.size w w' := by
  have X0 := Bx2.start w a b
  have S0 := hS.on X0.b
  have hR := fun W h => rgt_any p l cap n W h
  cases hr : rg n l.length (vG n l)
  · rw [hr] at hR
    go_enter Try.func8, Try.ntmps8
    go_upto_region 1 with fail
    show Code.wp _ _ _ _ ((w.alloc (.cells #[.int .i64 a] 3)).alloc (.cells #[.int .i64 b] 3))
    generalize ((w.alloc (.cells #[.int .i64 a] 3)).alloc (.cells #[.int .i64 b] 3)) = W at *
    go_wp2_with (first
      | (go_at_call 9; (with_reducible refine (awake_any _).mono ?_); rintro e w1 ⟨rfl, b1⟩; have S1 := S0.on b1; have X1 := X0.on b1)
      | (go_at_call 29; (with_reducible refine (hR _ S1).mono ?_); rintro e w2 ⟨rfl, b2⟩; have X2 := X1.on b2))
    go_ret
    exact ⟨rfl, X2.b⟩
  rw [hr] at hR
  unfold rg at hr
  rw [Bool.and_eq_true] at hr
  have hs := of_decide_eq_true hr.1
  obtain ⟨m, k, rfl, rfl, hlen, hG⟩ := gr_of_valid S0 hr.2
  rw [hlen] at hR ⊢
  by_cases hin : 0 ≤ a ∧ a < m ∧ 0 ≤ b ∧ b < m ∧ 0 ≤ c ∧ c < m
  rotate_left
  · have : a < 0 ∨ (¬ a < 0 ∧ (m : Int) ≤ a) ∨ ((¬ a < 0 ∧ ¬ (m : Int) ≤ a) ∧ b < 0) ∨ ((¬ a < 0 ∧ ¬ (m : Int) ≤ a) ∧ (¬ b < 0) ∧ (m : Int) ≤ b) ∨ ((¬ a < 0 ∧ ¬ (m : Int) ≤ a) ∧ (¬ b < 0 ∧ ¬ (m : Int) ≤ b) ∧ c < 0) ∨ ((¬ a < 0 ∧ ¬ (m : Int) ≤ a) ∧ (¬ b < 0 ∧ ¬ (m : Int) ≤ b) ∧ ¬ c < 0 ∧ (m : Int) ≤ c) := by omega
    clear hin
    rcases this with h1 | ⟨h0, h1⟩ | ⟨⟨h0, h1⟩, h2⟩ | ⟨⟨h0, h1⟩, h2, h3⟩ | ⟨⟨h0, h1⟩, ⟨h2, h3⟩, h4⟩ | ⟨⟨h0, h1⟩, ⟨h2, h3⟩, h4, h5⟩
    all_goals (
      go_enter Try.func8, Try.ntmps8
      go_upto_region 1 with fail
      show Code.wp _ _ _ _ ((w.alloc (.cells #[.int .i64 a] 3)).alloc (.cells #[.int .i64 b] 3))
      generalize ((w.alloc (.cells #[.int .i64 a] 3)).alloc (.cells #[.int .i64 b] 3)) = W at *
      go_wp2_with (first
        | (go_at_call 9; (with_reducible refine (awake_any _).mono ?_); rintro e w1 ⟨rfl, b1⟩; have S1 := S0.on b1; have X1 := X0.on b1)
        | (go_at_call 29; (with_reducible refine (hR _ S1).mono ?_); rintro e w2 ⟨rfl, b2⟩; have X2 := X1.on b2; have cA := X2.A; have cB := X2.B))
      go_ret
      exact ⟨rfl, X2.b⟩)
  obtain ⟨a, rfl⟩ : ∃ x : Nat, a = (x : Int) := ⟨a.toNat, by omega⟩
  obtain ⟨b, rfl⟩ : ∃ x : Nat, b = (x : Int) := ⟨b.toNat, by omega⟩
  obtain ⟨c, rfl⟩ : ∃ x : Nat, c = (x : Int) := ⟨c.toNat, by omega⟩
  have la : a < m := by omega
  have lb : b < m := by omega
  have lc : c < m := by omega
  have i1 : ¬ (m : Int) ≤ (a : Int) := by omega
  have i2 : ¬ (m : Int) ≤ (b : Int) := by omega
  have i3 : ¬ (m : Int) ≤ (c : Int) := by omega
  have i4 : ¬ (a : Int) < 0 := by omega
  have i5 : ¬ (b : Int) < 0 := by omega
  have i6 : ¬ (c : Int) < 0 := by omega
  have hl : ∀ x ∈ k, x.1 < m ∧ x.2 < m ∧ x.1 ≠ x.2 := hG.2.2.2
  have L := pre_lab k k.length (Nat.le_refl _)
  have hm := hG.2.2.1
  have hk := hG.2.1
  have pb := parts_bounds (R := pre k k.length) hm
  have hbp := both_parts L.l (fun j => (L.const (L.c j)).symm) la lb
  clear hin hs hr hlen
  by_cases jab : pre k k.length a = pre k k.length b
  rotate_left
  · have Pab := fun W h => path_not p m k cap a b W h la lb jab
    have Pba := fun W h => path_not p m k cap b a W h lb la (Ne.symm jab)
    rw [decide_eq_false jab] at hbp
    go_enter Try.func8, Try.ntmps8
    go_upto_region 1 with fail
    show Code.wp _ _ _ _ ((w.alloc (.cells #[.int .i64 a] 3)).alloc (.cells #[.int .i64 b] 3))
    generalize ((w.alloc (.cells #[.int .i64 a] 3)).alloc (.cells #[.int .i64 b] 3)) = W at *
    go_wp2_with (first
      | (go_at_call 9; (with_reducible refine (awake_any _).mono ?_); rintro e w1 ⟨rfl, b1⟩; have G1 := hG.on b1; have X1 := X0.on b1)
      | (go_at_call 29; (with_reducible refine (hR _ (gr_sl G1)).mono ?_); rintro e w2 ⟨rfl, b2⟩; have X2 := X1.on b2; have cA2 := X2.A; have cB2 := X2.B; have G2 := G1.on b2)
      | (go_at_call 26; first
        | ((with_reducible refine (Pab w2 G2).mono ?_); rintro e w3 ⟨rfl, b3⟩; have X3 := X2.on b3; have cA3 := X3.A; have cB3 := X3.B; have G3 := G2.on b3)
        | ((with_reducible refine (Pba w3 G3).mono ?_); rintro e w4 ⟨rfl, b4⟩; have X4 := X3.on b4; have cA4 := X4.A; have cB4 := X4.B; have G4 := G3.on b4))
      | (go_at_call 11; (with_reducible refine (parts_ok p m k cap w4 G4).mono ?_); rintro e w5 ⟨v5, rfl, o5, b5⟩; have r5 := o5.rd; have X5 := X4.on b5; have cA5 := X5.A; have cB5 := X5.B)
      | (go_at_call 32; (with_reducible refine (anyb_any v5 _ a b _ _ w5 r5 pb.1 pb.2 cA5 cB5).mono ?_); rw [hbp]; rintro e w6 ⟨rfl, b6⟩; have X6 := X5.on b6))
    go_ret
    exact ⟨rfl, X6.b⟩
  have Pab := fun W h => path_yes p m k cap a b W h la lb jab
  have Pba := fun W h => path_yes p m k cap b a W h lb la jab.symm
  rw [decide_eq_true jab] at hbp
  have HJ := Lib.hid jab
  clear jab
  by_cases jac : pre k k.length a = pre k k.length c
  · have Pac := fun W h => path_yes p m k cap a c W h la lc jac
    have Pcb := fun W h => path_yes p m k cap c b W h lc lb (jac.symm.trans HJ.out)
    clear jac
    go_enter Try.func8, Try.ntmps8
    go_upto_region 1 with fail
    show Code.wp _ _ _ _ ((w.alloc (.cells #[.int .i64 (a : Int)] 3)).alloc (.cells #[.int .i64 (b : Int)] 3))
    generalize ((w.alloc (.cells #[.int .i64 (a : Int)] 3)).alloc (.cells #[.int .i64 (b : Int)] 3)) = W at *
    go_wp2_with (first
      | (go_at_call 9; (with_reducible refine (awake_any _).mono ?_); rintro e w1 ⟨rfl, b1⟩; have G1 := hG.on b1; have X1 := X0.on b1)
      | (go_at_call 29; (with_reducible refine (hR _ (gr_sl G1)).mono ?_); rintro e w2 ⟨rfl, b2⟩; have X2 := X1.on b2; have cA2 := X2.A; have cB2 := X2.B; have G2 := G1.on b2)
      | (go_at_call 26; first
        | ((with_reducible refine (Pab w2 G2).mono ?_); rintro e w3 ⟨q3, c3, xs, rfl, o3, s3, z3, b3⟩; have X3 := X2.on b3; have cA3 := X3.A; have cB3 := X3.B; have G3 := G2.on b3)
        | ((with_reducible refine (Pba w3 G3).mono ?_); rintro e w4 ⟨q4, c4, ys, rfl, o4, s4, z4, b4⟩; have X4 := X3.on b4; have cA4 := X4.A; have cB4 := X4.B; have G4 := G3.on b4; have o34 := (Own.rd o3).on b4; have e34 := spt_symm hl s3 s4; have t34 : ((xs.length : Int) != (ys.length : Int)) = false := (by simp; omega); have E34 := Lib.hid e34; clear e34))
      | (go_at_call 11; (with_reducible refine (parts_ok p m k cap w4 G4).mono ?_); rintro e w5 ⟨v5, rfl, o5, b5⟩; have r5 := o5.rd; have X5 := X4.on b5; have cA5 := X5.A; have cB5 := X5.B; have o35 := o34.on b5; have G5 := G4.on b5)
      | (go_at_call 32; (with_reducible refine (anyb_any v5 _ a b _ _ w5 r5 pb.1 pb.2 cA5 cB5).mono ?_); rw [hbp]; rintro e w6 ⟨rfl, b6⟩; have X6 := X5.on b6; have cA6 := X6.A; have cB6 := X6.B; have o36 := o35.on b6; have G6 := G5.on b6))
    obtain ⟨q, cc, e36, k36⟩ := o36
    simp only [Value.slice.injEq, true_and] at e36
    obtain ⟨rfl, rfl⟩ := e36
    have K3 := Lib.hid k36
    have HS := Lib.hid hl
    have S3 := Lib.hid s3
    clear k36 s3 s4 o3 o34 o35 o4 o5 r5 X1 X2 X3 X4 X5 cA2 cB2 cA3 cB3 cA4 cB4 cA5 cB5 G1 G2 G3 G4 G5 b1 b2 b3 b4 b5 b6 Pab Pba hbp pb hR L hl X0 hS S0 t34
    go_loopw [18, 113] (fun v18 v113 wr => ∃ (j v : Nat), v113 = .int .i64 j ∧ v18 = .int .i64 v ∧ j ≤ xs.length ∧ v < m ∧ Hid (leads k b v (xs.drop j)) ∧ ∃ nd, wr = w6.drewN nd) (fun _ v _ => xs.length - (intOf v).toNat)
    case atStart => exact ⟨0, a, rfl, rfl, Nat.zero_le _, la, Lib.hid (by rw [List.drop_zero]; exact S3.out.le), 0, rfl⟩
    case round =>
      obtain ⟨j, v, rfl, rfl, hj, hv, hL, nd, rfl⟩ := hrel
      by_cases hlt : j < xs.length
      · have g1 : decide ((j : Int) < (xs.length : Int)) = true := by simp [hlt]
        have W1 : IntKind.i64.wrap ((j : Int) + 1) = ((j + 1 : Nat) : Int) := by rw [IntWalk.i64_in _ (by omega)]; omega
        have q1 : (0 : Int) ≤ (j : Int) := by omega
        have q2 : (j : Int) < (xs.length : Int) := by omega
        obtain ⟨G, rfl, cj⟩ := K3.out j hlt
        have hLo := hL.out
        rw [List.drop_eq_getElem_cons hlt] at hLo
        obtain ⟨x, hx, hxv, hLn⟩ := hLo
        obtain ⟨i, hi⟩ : ∃ i, i = xs[j] := ⟨_, rfl⟩
        rw [← hi] at cj hx
        have hik : i < k.length := (List.getElem?_eq_some_iff.1 hx).1
        have hxe := (List.getElem?_eq_some_iff.1 hx).2
        have hxm := HS.out _ (List.mem_of_getElem? hx)
        obtain ⟨aa, rfl, d0, d1, -⟩ := G6.at hik
        rw [hxe] at d0 d1
        have hu : oth x v < m := by unfold oth; split <;> omega
        have HLn := Lib.hid hLn
        obtain ⟨x1, x2⟩ := x
        have hoe : ((oth (x1, x2) v : Nat) : Int) = (x1 : Int) + (x2 : Int) - (v : Int) := by
          unfold oth
          rcases hxv with h | h
          · have h : x1 = v := h
            rw [if_pos h]; simp only []; omega
          · have h : x2 = v := h
            split
            · rename_i h2
              have h2 : x1 = v := h2
              simp only []; omega
            · simp only []; omega
        have W2 : IntKind.i64.wrap ((x1 : Int) + (x2 : Int)) = (x1 : Int) + (x2 : Int) := by rw [IntWalk.i64_in _ (by have := hxm.1; have := hxm.2.1; simp only [] at *; omega)]
        have W3 : IntKind.i64.wrap ((x1 : Int) + (x2 : Int) - (v : Int)) = ((oth (x1, x2) v : Nat) : Int) := by rw [hoe, IntWalk.i64_in _ (by have := hxm.1; have := hxm.2.1; simp only [] at *; omega)]
        obtain ⟨u, hue⟩ : ∃ u, u = oth (x1, x2) v := ⟨_, rfl⟩
        rw [← hue] at W3 hu HLn
        have r1 : ¬ (i : Int) < 0 := by omega
        have r2 : ¬ (k.length : Int) ≤ (i : Int) := by omega
        have r3 : (0 : Int) ≤ (i : Int) := by omega
        have r4 : (i : Int) < (k.length : Int) := by omega
        simp only [] at d0 d1
        clear hx hxe hi hue hoe hLn hxm hL
        by_cases h1 : x1 = v
        · have t1 : ((x1 : Int) != (v : Int)) = false := by simp [h1]
          have H1 := Lib.hid h1
          clear h1 hxv
          go_wp2_with fail
          go_quiet (fail)
          go_wp2
          exact ⟨⟨j + 1, u, rfl, rfl, hlt, hu, HLn, _, rfl⟩, by simp [intOf]; omega⟩
        · have t1 : ((x1 : Int) != (v : Int)) = true := by simp; omega
          have t2 : ((x2 : Int) != (v : Int)) = false := by
            have : x2 = v := hxv.resolve_left h1
            simp [this]
          clear h1 hxv
          go_wp2_with fail
          go_quiet (fail)
          go_wp2
          exact ⟨⟨j + 1, u, rfl, rfl, hlt, hu, HLn, _, rfl⟩, by simp [intOf]; omega⟩
      · have g1 : decide ((j : Int) < (xs.length : Int)) = false := by simp; omega
        have hLo := hL.out
        rw [List.drop_of_length_le (by omega)] at hLo
        have hvb : v = b := hLo
        subst hvb
        have XE := X6.on (below_drewN (Below.refl _ _) nd)
        have GE := G6.on (below_drewN (Below.refl _ _) nd)
        have cAE := XE.A
        have cBE := XE.B
        have tvb : ((v : Int) != (v : Int)) = false := by simp
        go_wp2_with (go_at_call 26; first
            | ((with_reducible refine (Pac _ GE).mono ?_); rintro e w7 ⟨q7, c7, zs, rfl, o7, s7, z7, b7⟩; have X7 := XE.on b7; have cA7 := X7.A; have cB7 := X7.B; have G7 := GE.on b7)
            | ((with_reducible refine (Pcb w7 G7).mono ?_); rintro e w8 ⟨q8, c8, us, rfl, o8, s8, z8, b8⟩; have X8 := X7.on b8; have hov := spt_over S3.out s7 s8; obtain ⟨W9, W8⟩ := sum_small z7 z8 hov))
        go_ret
        exact ⟨rfl, X8.b⟩
  · have Pac := fun W h => path_not p m k cap a c W h la lc jac
    have Pcb := fun W h => path_not p m k cap c b W h lc lb (fun e => jac (HJ.out.trans e.symm))
    clear jac
    go_enter Try.func8, Try.ntmps8
    go_upto_region 1 with fail
    show Code.wp _ _ _ _ ((w.alloc (.cells #[.int .i64 (a : Int)] 3)).alloc (.cells #[.int .i64 (b : Int)] 3))
    generalize ((w.alloc (.cells #[.int .i64 (a : Int)] 3)).alloc (.cells #[.int .i64 (b : Int)] 3)) = W at *
    go_wp2_with (first
      | (go_at_call 9; (with_reducible refine (awake_any _).mono ?_); rintro e w1 ⟨rfl, b1⟩; have G1 := hG.on b1; have X1 := X0.on b1)
      | (go_at_call 29; (with_reducible refine (hR _ (gr_sl G1)).mono ?_); rintro e w2 ⟨rfl, b2⟩; have X2 := X1.on b2; have cA2 := X2.A; have cB2 := X2.B; have G2 := G1.on b2)
      | (go_at_call 26; first
        | ((with_reducible refine (Pab w2 G2).mono ?_); rintro e w3 ⟨q3, c3, xs, rfl, o3, s3, z3, b3⟩; have X3 := X2.on b3; have cA3 := X3.A; have cB3 := X3.B; have G3 := G2.on b3)
        | ((with_reducible refine (Pba w3 G3).mono ?_); rintro e w4 ⟨q4, c4, ys, rfl, o4, s4, z4, b4⟩; have X4 := X3.on b4; have cA4 := X4.A; have cB4 := X4.B; have G4 := G3.on b4; have o34 := (Own.rd o3).on b4; have e34 := spt_symm hl s3 s4; have t34 : ((xs.length : Int) != (ys.length : Int)) = false := (by simp; omega); have E34 := Lib.hid e34; clear e34))
      | (go_at_call 11; (with_reducible refine (parts_ok p m k cap w4 G4).mono ?_); rintro e w5 ⟨v5, rfl, o5, b5⟩; have r5 := o5.rd; have X5 := X4.on b5; have cA5 := X5.A; have cB5 := X5.B; have o35 := o34.on b5; have G5 := G4.on b5)
      | (go_at_call 32; (with_reducible refine (anyb_any v5 _ a b _ _ w5 r5 pb.1 pb.2 cA5 cB5).mono ?_); rw [hbp]; rintro e w6 ⟨rfl, b6⟩; have X6 := X5.on b6; have cA6 := X6.A; have cB6 := X6.B; have o36 := o35.on b6; have G6 := G5.on b6))
    obtain ⟨q, cc, e36, k36⟩ := o36
    simp only [Value.slice.injEq, true_and] at e36
    obtain ⟨rfl, rfl⟩ := e36
    have K3 := Lib.hid k36
    have HS := Lib.hid hl
    have S3 := Lib.hid s3
    clear k36 s3 s4 o3 o34 o35 o4 o5 r5 X1 X2 X3 X4 X5 cA2 cB2 cA3 cB3 cA4 cB4 cA5 cB5 G1 G2 G3 G4 G5 b1 b2 b3 b4 b5 b6 Pab Pba hbp pb hR L hl X0 hS S0 t34
    go_loopw [18, 113] (fun v18 v113 wr => ∃ (j v : Nat), v113 = .int .i64 j ∧ v18 = .int .i64 v ∧ j ≤ xs.length ∧ v < m ∧ Hid (leads k b v (xs.drop j)) ∧ ∃ nd, wr = w6.drewN nd) (fun _ v _ => xs.length - (intOf v).toNat)
    case atStart => exact ⟨0, a, rfl, rfl, Nat.zero_le _, la, Lib.hid (by rw [List.drop_zero]; exact S3.out.le), 0, rfl⟩
    case round =>
      obtain ⟨j, v, rfl, rfl, hj, hv, hL, nd, rfl⟩ := hrel
      by_cases hlt : j < xs.length
      · have g1 : decide ((j : Int) < (xs.length : Int)) = true := by simp [hlt]
        have W1 : IntKind.i64.wrap ((j : Int) + 1) = ((j + 1 : Nat) : Int) := by rw [IntWalk.i64_in _ (by omega)]; omega
        have q1 : (0 : Int) ≤ (j : Int) := by omega
        have q2 : (j : Int) < (xs.length : Int) := by omega
        obtain ⟨G, rfl, cj⟩ := K3.out j hlt
        have hLo := hL.out
        rw [List.drop_eq_getElem_cons hlt] at hLo
        obtain ⟨x, hx, hxv, hLn⟩ := hLo
        obtain ⟨i, hi⟩ : ∃ i, i = xs[j] := ⟨_, rfl⟩
        rw [← hi] at cj hx
        have hik : i < k.length := (List.getElem?_eq_some_iff.1 hx).1
        have hxe := (List.getElem?_eq_some_iff.1 hx).2
        have hxm := HS.out _ (List.mem_of_getElem? hx)
        obtain ⟨aa, rfl, d0, d1, -⟩ := G6.at hik
        rw [hxe] at d0 d1
        have hu : oth x v < m := by unfold oth; split <;> omega
        have HLn := Lib.hid hLn
        obtain ⟨x1, x2⟩ := x
        have hoe : ((oth (x1, x2) v : Nat) : Int) = (x1 : Int) + (x2 : Int) - (v : Int) := by
          unfold oth
          rcases hxv with h | h
          · have h : x1 = v := h
            rw [if_pos h]; simp only []; omega
          · have h : x2 = v := h
            split
            · rename_i h2
              have h2 : x1 = v := h2
              simp only []; omega
            · simp only []; omega
        have W2 : IntKind.i64.wrap ((x1 : Int) + (x2 : Int)) = (x1 : Int) + (x2 : Int) := by rw [IntWalk.i64_in _ (by have := hxm.1; have := hxm.2.1; simp only [] at *; omega)]
        have W3 : IntKind.i64.wrap ((x1 : Int) + (x2 : Int) - (v : Int)) = ((oth (x1, x2) v : Nat) : Int) := by rw [hoe, IntWalk.i64_in _ (by have := hxm.1; have := hxm.2.1; simp only [] at *; omega)]
        obtain ⟨u, hue⟩ : ∃ u, u = oth (x1, x2) v := ⟨_, rfl⟩
        rw [← hue] at W3 hu HLn
        have r1 : ¬ (i : Int) < 0 := by omega
        have r2 : ¬ (k.length : Int) ≤ (i : Int) := by omega
        have r3 : (0 : Int) ≤ (i : Int) := by omega
        have r4 : (i : Int) < (k.length : Int) := by omega
        simp only [] at d0 d1
        clear hx hxe hi hue hoe hLn hxm hL
        by_cases h1 : x1 = v
        · have t1 : ((x1 : Int) != (v : Int)) = false := by simp [h1]
          have H1 := Lib.hid h1
          clear h1 hxv
          go_wp2_with fail
          go_quiet (fail)
          go_wp2
          exact ⟨⟨j + 1, u, rfl, rfl, hlt, hu, HLn, _, rfl⟩, by simp [intOf]; omega⟩
        · have t1 : ((x1 : Int) != (v : Int)) = true := by simp; omega
          have t2 : ((x2 : Int) != (v : Int)) = false := by
            have : x2 = v := hxv.resolve_left h1
            simp [this]
          clear h1 hxv
          go_wp2_with fail
          go_quiet (fail)
          go_wp2
          exact ⟨⟨j + 1, u, rfl, rfl, hlt, hu, HLn, _, rfl⟩, by simp [intOf]; omega⟩
      · have g1 : decide ((j : Int) < (xs.length : Int)) = false := by simp; omega
        have hLo := hL.out
        rw [List.drop_of_length_le (by omega)] at hLo
        have hvb : v = b := hLo
        subst hvb
        have XE := X6.on (below_drewN (Below.refl _ _) nd)
        have GE := G6.on (below_drewN (Below.refl _ _) nd)
        have cAE := XE.A
        have cBE := XE.B
        have tvb : ((v : Int) != (v : Int)) = false := by simp
        go_wp2_with (go_at_call 26; first
            | ((with_reducible refine (Pac _ GE).mono ?_); rintro e w7 ⟨rfl, b7⟩; have X7 := XE.on b7; have cA7 := X7.A; have cB7 := X7.B; have G7 := GE.on b7)
            | ((with_reducible refine (Pcb w7 G7).mono ?_); rintro e w8 ⟨rfl, b8⟩; have X8 := X7.on b8))
        go_ret
        exact ⟨rfl, X8.b⟩
end Go.Proofs.Ytampfciacjifgaa
