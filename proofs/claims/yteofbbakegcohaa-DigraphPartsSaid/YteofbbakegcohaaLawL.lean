/- DigraphLongest: the walk. -/
import Derived.Test.YteofbbakegcohaaRg
namespace Go.Proofs.Yteofbbakegcohaa
open Go.ChangeShapes Go.WideShapes Go.ChangeAt Go.RowKit
set_option linter.unusedVariables false
set_option linter.unusedSimpArgs false


theorem lgA_1 (l : List (Nat × Nat)) (n : Nat) (ws : List Int) : (lgA l n ws).1 = if n = 0 then 0 else lgS (adj l) (wtf ws) n (amx (lgS (adj l) (wtf ws) n) n) := by
  unfold lgA; split <;> rfl
theorem lgA_2 (l : List (Nat × Nat)) (n : Nat) (ws : List Int) : (lgA l n ws).2 = if n = 0 then [] else chn (lgN (adj l) (wtf ws) n) (n + 1) (amx (lgS (adj l) (wtf ws) n) n) := by
  unfold lgA; split <;> rfl
theorem lgE_parts {l : List (Nat × Nat)} {n : Nat} {ws : List Int} (h : lgE l n ws = 0) : ws.length = n ∧ ws.any (outN 1073741825) = false ∧ ∃ E, ordr (adj l) n n [] = some E := by
  unfold lgE at h
  by_cases h1 : ws.length ≠ n
  · rw [if_pos h1] at h; omega
  · rw [if_neg h1] at h
    by_cases h2 : ws.any (outN 1073741825) = true
    · rw [if_pos h2] at h; omega
    · rw [if_neg h2] at h
      cases h3 : ordr (adj l) n n [] with
      | none => rw [if_pos h3] at h; omega
      | some E => exact ⟨by omega, by simpa using h2, E, rfl⟩
theorem chn_le (Nx : Nat → Option Nat) (k v : Nat) : (chn Nx k v).length ≤ k := chn_len Nx k v
theorem rlon_ok (p : Option Addr) (n : Nat) (l : List (Nat × Nat)) (cap : Nat) (w : World) (q : Option Addr) (c : Nat) (ws : List Int) (hG : Gr w p n l) (hO : Rdz w (.slice q ws.length c) ws) (he : lgE l n ws = 0) :
    Calls Try.prog 22 #[.int .i64 n, .slice p l.length cap, .slice q ws.length c] w fun e w' => ∃ v, e = .returned (.tuple #[.int .i64 (lgA l n ws).1, v]) ∧ Own w.heap.size w' v (lgA l n ws).2 ∧ Below w.heap.size w w' := by
  obtain ⟨h1, h2, E, h3⟩ := lgE_parts he
  have k := rlongest_any p n l cap q c (wtf ws) w E hG h3 (fun v hv => rdz_wt hO rfl v (by rw [h1]; exact hv)) (wt_bd h2)
  rw [← lgA_1, ← lgA_2] at k
  rw [show (Value.slice q n c) = .slice q ws.length c by rw [h1]] at k
  exact k
set_option maxRecDepth 100000 in
set_option maxHeartbeats 8000000 in
theorem longest_walk (p : Option Addr) (l : List (Int × Int)) (cap : Nat) (n : Int) (o : Value) (os : List Int) (w : World) (hS : Sl w p l) (hO : Rdz w o os) :
    Calls Try.prog 4 #[.int .i64 n, .slice p l.length cap, o] w fun e w' => e = .returned (.bool true) ∧ Below w.heap.size w w' := by
  have hm := hS.2.2.1
  have hA := awake_any w
  have hLg := fun W => large_any p l cap n W hm
  have HO := Lib.hid hO
  obtain ⟨oq, oc, rfl, -⟩ := hO
  cases hb : lrg n l.length
  · rw [hb] at hLg
    by_cases h100 : 100 < os.length
    · have t1 : decide ((100 : Int) < (os.length : Int)) = true := decide_eq_true (by omega)
      go_enter Try.func4, Try.ntmps4
      go_wp2_with (first
        | (go_at_call 10; (with_reducible refine hA.mono ?_); rintro e w1 ⟨rfl, b1⟩)
        | (go_at_call 11; (with_reducible refine (hLg _).mono ?_); rintro e w2 ⟨rfl, rfl⟩))
      go_ret
      exact ⟨rfl, b1⟩
    · have t1 : decide ((100 : Int) < (os.length : Int)) = false := decide_eq_false (by omega)
      have hol : os.length ≤ 100000 := by omega
      cases hv : vG n l
      · have hN := fun W (h : Sl W p l) => lon_no p n l cap W (.slice oq os.length oc) h hv
        have hR := fun W (h : Sl W p l) => rvalid_any p l cap n W h
        rw [hv] at hR
        clear hb hv h100
        go_enter Try.func4, Try.ntmps4
        go_wp2_with (first
          | (go_at_call 10; (with_reducible refine hA.mono ?_); rintro e w1 ⟨rfl, b1⟩; have S1 := hS.on b1)
          | (go_at_call 11; (with_reducible refine (hLg _).mono ?_); rintro e w2 ⟨rfl, rfl⟩)
          | (go_at_call 20; (with_reducible refine (hN _ S1).mono ?_); rintro e w3 ⟨rfl, b3⟩; have S3 := S1.on b3)
          | (go_at_call 14; (with_reducible refine (hR _ S3).mono ?_); rintro e w5 ⟨rfl, rfl⟩))
        go_ret
        exact ⟨rfl, belows b1 b3⟩
      · obtain ⟨m, k, rfl, rfl, hk, hG⟩ := gr_of_valid hS hv
        rw [cast2_len] at hLg ⊢
        have hR := fun W (h : Gr W p m k) => rvalid_ok cap h
        have hmm := hG.2.2.1
        have hWr := fun W (h2 : Rdz W (.slice oq os.length oc) os) => rweights_any m W (.slice oq os.length oc) os h2 hol
        have HG := Lib.hid hG
        clear hb hv hk h100 hm hS hG
        by_cases hz : lgE k m os = 0
        · obtain ⟨e1, e2, E, e3⟩ := lgE_parts hz
          have hw0 : wE m os = 0 := by unfold wE; rw [if_neg (by simpa using congrArg (fun x : Nat => (x : Int)) e1), if_neg (by rw [e2]; simp)]
          rw [hw0] at hWr
          have hN := fun W (h : Gr W p m k) (h2 : Rdz W (.slice oq os.length oc) os) => lon_ok p m k cap W (.slice oq os.length oc) os h h2 hol hz
          have hNr := fun W (h : Gr W p m k) => rorder_some cap h e3
          have hLr := fun W (h : Gr W p m k) (h2 : Rdz W (.slice oq os.length oc) os) => rlon_ok p m k cap W oq oc os h h2 hz
          have hcl : (lgA k m os).2.length ≤ 100000 := by
            rw [lgA_2]
            split
            · simp
            · have := chn_len (lgN (adj k) (wtf os) m) (m + 1) (amx (lgS (adj k) (wtf os) m) m); omega
          obtain ⟨X, hX⟩ : ∃ X, X = (lgA k m os).1 := ⟨_, rfl⟩
          obtain ⟨P, hP⟩ : ∃ P, P = (lgA k m os).2 := ⟨_, rfl⟩
          rw [← hX, ← hP] at hN hLr
          rw [← hP] at hcl
          clear e1 e2 e3 hz hw0 hX hP
          go_enter Try.func4, Try.ntmps4
          go_wp2_with (first
            | (go_at_call 10; (with_reducible refine hA.mono ?_); rintro e w1 ⟨rfl, b1⟩; have G1 := HG.out.on b1; have O1 := HO.out.on b1)
            | (go_at_call 11; (with_reducible refine (hLg _).mono ?_); rintro e w2 ⟨rfl, rfl⟩)
            | (go_at_call 20; (with_reducible refine (hN _ G1 O1).mono ?_); rintro e w3 ⟨v3, rfl, r3, b3⟩; have G3 := G1.on b3; have O3 := O1.on b3; have r3 := r3.rd)
            | (go_at_call 14; (with_reducible refine (hR _ G3).mono ?_); rintro e w5 ⟨rfl, rfl⟩)
            | (go_at_call 21; (with_reducible refine (hWr _ O3).mono ?_); rintro e w6 ⟨rfl, rfl⟩)
            | (go_at_call 16; (with_reducible refine (hNr _ G3).mono ?_); rintro e w6 ⟨v6, rfl, r6, b6⟩; have G6 := G3.on b6; have O6 := O3.on b6; have x6 := r3.on b6)
            | (go_at_call 22; (with_reducible refine (hLr _ G6 O6).mono ?_); rintro e w7 ⟨v7, rfl, r7, b7⟩; have y7 := r7.rd; have x7 := x6.on b7)
            | (go_at_call 17; (with_reducible refine (eq_same v3 v7 P _ x7 y7 hcl).mono ?_); rintro e w8 ⟨rfl, b8⟩))
          go_ret
          exact ⟨by simp, belows (belows (belows (belows b1 b3) b6) b7) b8⟩
        · have hN := fun W (h : Gr W p m k) (h2 : Rdz W (.slice oq os.length oc) os) => lon_err p m k cap W (.slice oq os.length oc) os h h2 hol hz
          by_cases hw0 : wE m os = 0
          · rw [hw0] at hWr
            have hE : ordr (adj k) m m [] = none ∧ lgE k m os = 23 := by
              unfold wE at hw0
              by_cases h1 : (os.length : Int) ≠ (m : Int)
              · rw [if_pos h1] at hw0; omega
              · rw [if_neg h1] at hw0
                by_cases h2 : os.any (outN 1073741825) = true
                · rw [if_pos h2] at hw0; omega
                · have h1' : ¬ os.length ≠ m := by omega
                  unfold lgE at hz ⊢
                  rw [if_neg h1', if_neg h2] at hz ⊢
                  by_cases h3 : ordr (adj k) m m [] = none
                  · exact ⟨h3, by rw [if_pos h3]⟩
                  · rw [if_neg h3] at hz; exact absurd rfl hz
            obtain ⟨h3, hz3⟩ := hE
            rw [hz3] at hN
            have hNr := fun W (h : Gr W p m k) => rorder_none cap h h3
            clear h3 hz3 hw0 hz
            go_enter Try.func4, Try.ntmps4
            go_wp2_with (first
              | (go_at_call 10; (with_reducible refine hA.mono ?_); rintro e w1 ⟨rfl, b1⟩; have G1 := HG.out.on b1; have O1 := HO.out.on b1)
              | (go_at_call 11; (with_reducible refine (hLg _).mono ?_); rintro e w2 ⟨rfl, rfl⟩)
              | (go_at_call 20; (with_reducible refine (hN _ G1 O1).mono ?_); rintro e w3 ⟨rfl, b3⟩; have G3 := G1.on b3; have O3 := O1.on b3)
              | (go_at_call 14; (with_reducible refine (hR _ G3).mono ?_); rintro e w5 ⟨rfl, rfl⟩)
              | (go_at_call 21; (with_reducible refine (hWr _ O3).mono ?_); rintro e w6 ⟨rfl, rfl⟩)
              | (go_at_call 16; (with_reducible refine (hNr _ G3).mono ?_); rintro e w6 ⟨rfl, b6⟩))
            go_ret
            exact ⟨by simp, belows (belows b1 b3) b6⟩
          · have hze : lgE k m os = wE m os := by
              unfold wE at hw0 ⊢
              unfold lgE
              by_cases h1 : (os.length : Int) ≠ (m : Int)
              · rw [if_pos h1, if_pos (by omega)]
              · rw [if_neg h1] at hw0 ⊢
                rw [if_neg (by omega)]
                by_cases h2 : os.any (outN 1073741825) = true
                · rw [if_pos h2, if_pos h2]
                · rw [if_neg h2] at hw0; exact absurd rfl hw0
            rw [hze] at hN
            obtain ⟨Z, hZ⟩ : ∃ Z, Z = wE m os := ⟨_, rfl⟩
            rw [← hZ] at hN hWr hw0
            have t3 : (Z != 0) = true := by simpa using hw0
            clear hze hZ hz hw0
            go_enter Try.func4, Try.ntmps4
            go_wp2_with (first
              | (go_at_call 10; (with_reducible refine hA.mono ?_); rintro e w1 ⟨rfl, b1⟩; have G1 := HG.out.on b1; have O1 := HO.out.on b1)
              | (go_at_call 11; (with_reducible refine (hLg _).mono ?_); rintro e w2 ⟨rfl, rfl⟩)
              | (go_at_call 20; (with_reducible refine (hN _ G1 O1).mono ?_); rintro e w3 ⟨rfl, b3⟩; have G3 := G1.on b3; have O3 := O1.on b3)
              | (go_at_call 14; (with_reducible refine (hR _ G3).mono ?_); rintro e w5 ⟨rfl, rfl⟩)
              | (go_at_call 21; (with_reducible refine (hWr _ O3).mono ?_); rintro e w6 ⟨rfl, rfl⟩))
            go_ret
            exact ⟨by simp, belows b1 b3⟩
  · rw [hb] at hLg
    go_enter Try.func4, Try.ntmps4
    go_wp2_with (first
      | (go_at_call 10; (with_reducible refine hA.mono ?_); rintro e w1 ⟨rfl, b1⟩)
      | (go_at_call 11; (with_reducible refine (hLg _).mono ?_); rintro e w2 ⟨rfl, rfl⟩))
    go_ret
    exact ⟨rfl, b1⟩
end Go.Proofs.Yteofbbakegcohaa
