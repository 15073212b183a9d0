/- DigraphOrders: the walk. -/
import Derived.Test.YteofbbakegcohaaAx
namespace Go.Proofs.Yteofbbakegcohaa
open Go.ChangeShapes Go.WideShapes Go.ChangeAt Go.RowKit
set_option linter.unusedVariables false
set_option linter.unusedSimpArgs false


theorem rdl_nil (w : World) : Rdl w (.slice none 0 0) [] := ⟨none, 0, rfl, fun j hj => absurd hj (Nat.not_lt_zero j)⟩
theorem eq_same (v v' : Value) (xs : List Nat) (w : World) (h1 : Rdl w v xs) (h2 : Rdl w v' xs) (hx : xs.length ≤ 100000) :
    Calls Try.prog 17 #[v, v'] w fun e w' => e = .returned (.bool true) ∧ Below w.heap.size w w' :=
  (equal_any v v' xs xs w h1 h2 hx).mono fun e w' k => by
    obtain ⟨h, n, rfl⟩ := k
    rw [decide_eq_true rfl] at h
    exact ⟨h, below_drewN (Below.refl _ _) _⟩
theorem rorder_some {p : Option Addr} {n : Nat} {l : List (Nat × Nat)} (cap : Nat) {w : World} (hG : Gr w p n l) {E : List Nat} (h : ordr (adj l) n n [] = some E) :
    Calls Try.prog 16 #[.int .i64 n, .slice p l.length cap] w fun e w' => ∃ v, e = .returned (.tuple #[v, .bool true]) ∧ Own w.heap.size w' v E ∧ Below w.heap.size w w' :=
  (rorder_any p n l cap w hG).mono fun e w' k => by
    obtain ⟨v, h1, h2⟩ := k.1 E h
    exact ⟨v, h1, h2, k.2.2⟩
theorem rorder_none {p : Option Addr} {n : Nat} {l : List (Nat × Nat)} (cap : Nat) {w : World} (hG : Gr w p n l) (h : ordr (adj l) n n [] = none) :
    Calls Try.prog 16 #[.int .i64 n, .slice p l.length cap] w fun e w' => e = .returned (.tuple #[.slice none 0 0, .bool false]) ∧ Below w.heap.size w w' :=
  (rorder_any p n l cap w hG).mono fun e w' k => ⟨k.2.1 h, k.2.2⟩
theorem rvalid_ok {p : Option Addr} {n : Nat} {l : List (Nat × Nat)} {w : World} (cap : Nat) (h : Gr w p n l) :
    Calls Try.prog 14 #[.int .i64 n, .slice p l.length cap] w fun e w' => e = .returned (.bool true) ∧ w = w' := by
  have k := rvalid_any p (cast2 l) cap n w h.1
  rw [valid_gr h, cast2_len] at k
  exact k
set_option maxRecDepth 100000 in
set_option maxHeartbeats 8000000 in
theorem orders_walk (p : Option Addr) (l : List (Int × Int)) (cap : Nat) (n : Int) (o : Value) (os : List Int) (w : World) (hS : Sl w p l) (hO : Rdz w o os) :
    Calls Try.prog 3 #[.int .i64 n, .slice p l.length cap, o] w fun e w' => e = .returned (.bool true) ∧ Below w.heap.size w w' := by
  have hm := hS.2.2.1
  have hA := awake_any w
  have hLg := fun W => large_any p l cap n W hm
  have HO := Lib.hid hO
  obtain ⟨oq, oc, rfl, -⟩ := hO
  cases hb : lrg n l.length
  · rw [hb] at hLg
    by_cases h100 : 100 < os.length
    · have t1 : decide ((100 : Int) < (os.length : Int)) = true := decide_eq_true (by omega)
      go_enter Try.func3, Try.ntmps3
      go_wp2_with (first
        | (go_at_call 10; (with_reducible refine hA.mono ?_); rintro e w1 ⟨rfl, b1⟩)
        | (go_at_call 11; (with_reducible refine (hLg _).mono ?_); rintro e w2 ⟨rfl, rfl⟩))
      go_ret
      exact ⟨rfl, b1⟩
    · have t1 : decide ((100 : Int) < (os.length : Int)) = false := decide_eq_false (by omega)
      have hol : os.length ≤ 100000 := by omega
      cases hv : vG n l
      · have hN := fun W (h : Sl W p l) => order_no p n l cap W h hv
        have hK := fun W (h : Sl W p l) => check_no p n l cap W (.slice oq os.length oc) h hv
        have hR := fun W (h : Sl W p l) => rvalid_any p l cap n W h
        have hV := fun W (h : Sl W p l) => valid_any p l cap n W h
        rw [hv] at hR hV
        clear hb hv h100
        go_enter Try.func3, Try.ntmps3
        go_wp2_with (first
          | (go_at_call 10; (with_reducible refine hA.mono ?_); rintro e w1 ⟨rfl, b1⟩; have S1 := hS.on b1)
          | (go_at_call 11; (with_reducible refine (hLg _).mono ?_); rintro e w2 ⟨rfl, rfl⟩)
          | (go_at_call 12; (with_reducible refine (hN _ S1).mono ?_); rintro e w3 ⟨rfl, b3⟩; have S3 := S1.on b3)
          | (go_at_call 13; (with_reducible refine (hK _ S3).mono ?_); rintro e w4 ⟨rfl, b4⟩; have S4 := S3.on b4)
          | (go_at_call 14; (with_reducible refine (hR _ S4).mono ?_); rintro e w5 ⟨rfl, rfl⟩)
          | (go_at_call 15; (with_reducible refine (hV _ S4).mono ?_); rintro e w6 ⟨rfl, b6⟩))
        go_ret
        exact ⟨rfl, belows (belows (belows b1 b3) b4) b6⟩
      · obtain ⟨m, k, rfl, rfl, hk, hG⟩ := gr_of_valid hS hv
        rw [cast2_len] at hLg ⊢
        have hV := fun W (h : Gr W p m k) => valid_ok cap h
        have hR := fun W (h : Gr W p m k) => rvalid_ok cap h
        have hmm := hG.2.2.1
        have hK := fun W (h : Gr W p m k) (h2 : Rdz W (.slice oq os.length oc) os) => check_ok p m k cap W (.slice oq os.length oc) os h h2 hol
        have hKr := fun W (h2 : Rdz W (.slice oq os.length oc) os) => rnodes_any m W (.slice oq os.length oc) os (by omega) h2 hol
        have hCr := fun W (h : Gr W p m k) (h2 : Rdz W (.slice oq os.length oc) os) h0 => rcheck_any p m k cap W (.slice oq os.length oc) os h h2 h0
        obtain ⟨Z, hZ⟩ : ∃ Z, Z = codeN m os := ⟨_, rfl⟩
        rw [← hZ] at hK hKr hCr
        obtain ⟨C, hC⟩ : ∃ C, C = chB (cast2 k) os := ⟨_, rfl⟩
        rw [← hC] at hK hCr
        have HG := Lib.hid hG
        clear hb hv hk h100 hm hS hG hZ hC
        by_cases hz : Z = 0
        · subst hz
          rw [show (decide ((0 : Int) = 0) && C) = C by simp] at hK
          have hCs := fun W h h2 => hCr W h h2 rfl
          clear hCr
          have t3 : ((0 : Int) != 0) = false := by decide
          cases hE : ordr (adj k) m m [] with
          | some E =>
            have hN := fun W (h : Gr W p m k) => order_yes p m k cap W h E hE
            have hNr := fun W (h : Gr W p m k) => rorder_some cap h hE
            have hEl : E.length ≤ 100000 := by have := ordr_len hE; simp at this; omega
            clear hE
            go_enter Try.func3, Try.ntmps3
            go_wp2_with (first
              | (go_at_call 10; (with_reducible refine hA.mono ?_); rintro e w1 ⟨rfl, b1⟩; have G1 := HG.out.on b1; have O1 := HO.out.on b1)
              | (go_at_call 11; (with_reducible refine (hLg _).mono ?_); rintro e w2 ⟨rfl, rfl⟩)
              | (go_at_call 12; (with_reducible refine (hN _ G1).mono ?_); rintro e w3 ⟨v3, rfl, r3, b3⟩; have G3 := G1.on b3; have O3 := O1.on b3; have r3 := r3.rd)
              | (go_at_call 13; (with_reducible refine (hK _ G3 O3).mono ?_); rintro e w4 ⟨rfl, b4⟩; have G4 := G3.on b4; have O4 := O3.on b4; have r4 := r3.on b4)
              | (go_at_call 14; (with_reducible refine (hR _ G4).mono ?_); rintro e w5 ⟨rfl, rfl⟩)
              | (go_at_call 16; (with_reducible refine (hNr _ G4).mono ?_); rintro e w6 ⟨v6, rfl, r6, b6⟩; have G6 := G4.on b6; have O6 := O4.on b6; have r6 := r6.rd; have x6 := r4.on b6)
              | (go_at_call 15; (with_reducible refine (hV _ G6).mono ?_); rintro e w7 ⟨rfl, b7⟩; have G7 := G6.on b7; have O7 := O6.on b7; have y7 := r6.on b7; have x7 := x6.on b7)
              | (go_at_call 17; (with_reducible refine (eq_same v3 v6 E _ x7 y7 hEl).mono ?_); rintro e w8 ⟨rfl, b8⟩; have G8 := G7.on b8; have O8 := O7.on b8)
              | (go_at_call 18; (with_reducible refine (hKr _ O8).mono ?_); rintro e w9 ⟨rfl, b9⟩; have G9 := G8.on b9; have O9 := O8.on b9)
              | (go_at_call 19; (with_reducible refine (hCs _ G9 O9).mono ?_); rintro e w10 ⟨rfl, b10⟩))
            go_ret
            exact ⟨by simp, belows (belows (belows (belows (belows (belows (belows b1 b3) b4) b6) b7) b8) b9) b10⟩
          | none =>
            have hN := fun W (h : Gr W p m k) => order_loop p m k cap W h hE
            have hNr := fun W (h : Gr W p m k) => rorder_none cap h hE
            clear hE
            go_enter Try.func3, Try.ntmps3
            go_wp2_with (first
              | (go_at_call 10; (with_reducible refine hA.mono ?_); rintro e w1 ⟨rfl, b1⟩; have G1 := HG.out.on b1; have O1 := HO.out.on b1)
              | (go_at_call 11; (with_reducible refine (hLg _).mono ?_); rintro e w2 ⟨rfl, rfl⟩)
              | (go_at_call 12; (with_reducible refine (hN _ G1).mono ?_); rintro e w3 ⟨rfl, b3⟩; have G3 := G1.on b3; have O3 := O1.on b3)
              | (go_at_call 13; (with_reducible refine (hK _ G3 O3).mono ?_); rintro e w4 ⟨rfl, b4⟩; have G4 := G3.on b4; have O4 := O3.on b4)
              | (go_at_call 14; (with_reducible refine (hR _ G4).mono ?_); rintro e w5 ⟨rfl, rfl⟩)
              | (go_at_call 16; (with_reducible refine (hNr _ G4).mono ?_); rintro e w6 ⟨rfl, b6⟩; have G6 := G4.on b6; have O6 := O4.on b6)
              | (go_at_call 15; (with_reducible refine (hV _ G6).mono ?_); rintro e w7 ⟨rfl, b7⟩; have G7 := G6.on b7; have O7 := O6.on b7)
              | (go_at_call 17; (with_reducible refine (eq_same _ _ [] _ (rdl_nil _) (rdl_nil _) (by decide)).mono ?_); rintro e w8 ⟨rfl, b8⟩; have G8 := G7.on b8; have O8 := O7.on b8)
              | (go_at_call 18; (with_reducible refine (hKr _ O8).mono ?_); rintro e w9 ⟨rfl, b9⟩; have G9 := G8.on b9; have O9 := O8.on b9)
              | (go_at_call 19; (with_reducible refine (hCs _ G9 O9).mono ?_); rintro e w10 ⟨rfl, b10⟩))
            go_ret
            exact ⟨by simp, belows (belows (belows (belows (belows (belows (belows b1 b3) b4) b6) b7) b8) b9) b10⟩
        · rw [show (decide (Z = 0) && C) = false by simp [hz]] at hK
          have t3 : (Z != 0) = true := by simpa using hz
          cases hE : ordr (adj k) m m [] with
          | some E =>
            have hN := fun W (h : Gr W p m k) => order_yes p m k cap W h E hE
            have hNr := fun W (h : Gr W p m k) => rorder_some cap h hE
            have hEl : E.length ≤ 100000 := by have := ordr_len hE; simp at this; omega
            clear hE hCr hz
            go_enter Try.func3, Try.ntmps3
            go_wp2_with (first
              | (go_at_call 10; (with_reducible refine hA.mono ?_); rintro e w1 ⟨rfl, b1⟩; have G1 := HG.out.on b1; have O1 := HO.out.on b1)
              | (go_at_call 11; (with_reducible refine (hLg _).mono ?_); rintro e w2 ⟨rfl, rfl⟩)
              | (go_at_call 12; (with_reducible refine (hN _ G1).mono ?_); rintro e w3 ⟨v3, rfl, r3, b3⟩; have G3 := G1.on b3; have O3 := O1.on b3; have r3 := r3.rd)
              | (go_at_call 13; (with_reducible refine (hK _ G3 O3).mono ?_); rintro e w4 ⟨rfl, b4⟩; have G4 := G3.on b4; have O4 := O3.on b4; have r4 := r3.on b4)
              | (go_at_call 14; (with_reducible refine (hR _ G4).mono ?_); rintro e w5 ⟨rfl, rfl⟩)
              | (go_at_call 16; (with_reducible refine (hNr _ G4).mono ?_); rintro e w6 ⟨v6, rfl, r6, b6⟩; have G6 := G4.on b6; have O6 := O4.on b6; have r6 := r6.rd; have x6 := r4.on b6)
              | (go_at_call 15; (with_reducible refine (hV _ G6).mono ?_); rintro e w7 ⟨rfl, b7⟩; have G7 := G6.on b7; have O7 := O6.on b7; have y7 := r6.on b7; have x7 := x6.on b7)
              | (go_at_call 17; (with_reducible refine (eq_same v3 v6 E _ x7 y7 hEl).mono ?_); rintro e w8 ⟨rfl, b8⟩; have G8 := G7.on b8; have O8 := O7.on b8)
              | (go_at_call 18; (with_reducible refine (hKr _ O8).mono ?_); rintro e w9 ⟨rfl, b9⟩))
            go_ret
            exact ⟨by simp, belows (belows (belows (belows (belows (belows b1 b3) b4) b6) b7) b8) b9⟩
          | none =>
            have hN := fun W (h : Gr W p m k) => order_loop p m k cap W h hE
            have hNr := fun W (h : Gr W p m k) => rorder_none cap h hE
            clear hE hCr hz
            go_enter Try.func3, Try.ntmps3
            go_wp2_with (first
              | (go_at_call 10; (with_reducible refine hA.mono ?_); rintro e w1 ⟨rfl, b1⟩; have G1 := HG.out.on b1; have O1 := HO.out.on b1)
              | (go_at_call 11; (with_reducible refine (hLg _).mono ?_); rintro e w2 ⟨rfl, rfl⟩)
              | (go_at_call 12; (with_reducible refine (hN _ G1).mono ?_); rintro e w3 ⟨rfl, b3⟩; have G3 := G1.on b3; have O3 := O1.on b3)
              | (go_at_call 13; (with_reducible refine (hK _ G3 O3).mono ?_); rintro e w4 ⟨rfl, b4⟩; have G4 := G3.on b4; have O4 := O3.on b4)
              | (go_at_call 14; (with_reducible refine (hR _ G4).mono ?_); rintro e w5 ⟨rfl, rfl⟩)
              | (go_at_call 16; (with_reducible refine (hNr _ G4).mono ?_); rintro e w6 ⟨rfl, b6⟩; have G6 := G4.on b6; have O6 := O4.on b6)
              | (go_at_call 15; (with_reducible refine (hV _ G6).mono ?_); rintro e w7 ⟨rfl, b7⟩; have G7 := G6.on b7; have O7 := O6.on b7)
              | (go_at_call 17; (with_reducible refine (eq_same _ _ [] _ (rdl_nil _) (rdl_nil _) (by decide)).mono ?_); rintro e w8 ⟨rfl, b8⟩; have G8 := G7.on b8; have O8 := O7.on b8)
              | (go_at_call 18; (with_reducible refine (hKr _ O8).mono ?_); rintro e w9 ⟨rfl, b9⟩))
            go_ret
            exact ⟨by simp, belows (belows (belows (belows (belows (belows b1 b3) b4) b6) b7) b8) b9⟩
  · rw [hb] at hLg
    go_enter Try.func3, Try.ntmps3
    go_wp2_with (first
      | (go_at_call 10; (with_reducible refine hA.mono ?_); rintro e w1 ⟨rfl, b1⟩)
      | (go_at_call 11; (with_reducible refine (hLg _).mono ?_); rintro e w2 ⟨rfl, rfl⟩))
    go_ret
    exact ⟨rfl, b1⟩
end Go.Proofs.Yteofbbakegcohaa
