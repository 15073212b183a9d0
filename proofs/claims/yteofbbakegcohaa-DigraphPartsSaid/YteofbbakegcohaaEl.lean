/- DigraphEither: the walk, invalid graphs and orders. -/
import Derived.Test.YteofbbakegcohaaEk
namespace Go.Proofs.Yteofbbakegcohaa
open Go.ChangeShapes Go.WideShapes Go.ChangeAt Go.RowKit
set_option linter.unusedVariables false
set_option linter.unusedSimpArgs false


set_option maxRecDepth 100000 in
set_option maxHeartbeats 8000000 in
theorem either_no (p : Option Addr) (l : List (Int × Int)) (cap : Nat) (n : Int) (w : World) (hS : Sl w p l) (hv : vG n l = false) (hb : lrg n l.length = false) :
    Calls Try.prog 6 #[.int .i64 n, .slice p l.length cap] w fun e w' => e = .returned (.bool true) ∧ Below w.heap.size w w' := by
  have hm := hS.2.2.1
  have hA := awake_any w
  have hLg := fun W => large_any p l cap n W hm
  rw [hb] at hLg
  have hN := fun W (h : Sl W p l) => order_no p n l cap W h hv
  have hL := fun W (h : Sl W p l) => loop_no p n l cap W h hv
  have hV := fun W (h : Sl W p l) => valid_any p l cap n W h
  rw [hv] at hV
  clear hb hv
  go_enter Try.func6, Try.ntmps6
  go_wp2_with (first
    | (go_at_call 10; (with_reducible refine hA.mono ?_); rintro e w1 ⟨rfl, b1⟩; have S1 := hS.on b1)
    | (go_at_call 11; (with_reducible refine (hLg _).mono ?_); rintro e w2 ⟨rfl, rfl⟩)
    | (go_at_call 12; (with_reducible refine (hN _ S1).mono ?_); rintro e w3 ⟨rfl, b3⟩; have S3 := S1.on b3)
    | (go_at_call 27; (with_reducible refine (hL _ S3).mono ?_); rintro e w4 ⟨rfl, b4⟩; have A4 := al1 w4 (.cells #[.slice none 0 0] 23); have S4 := (S3.on b4).on A4)
    | (go_at_call 15; (with_reducible refine (hV _ S4).mono ?_); rintro e w6 ⟨rfl, b6⟩))
  go_ret
  exact ⟨rfl, belows (belows (belows (belows b1 b3) b4) A4) b6⟩
set_option maxRecDepth 100000 in
set_option maxHeartbeats 8000000 in
theorem either_ord (p : Option Addr) (m : Nat) (k : List (Nat × Nat)) (cap : Nat) (w : World) (hG : Gr w p m k) (hb : lrg m k.length = false) (E : List Nat) (hE : ordr (adj k) m m [] = some E) :
    Calls Try.prog 6 #[.int .i64 m, .slice p k.length cap] w fun e w' => e = .returned (.bool true) ∧ Below w.heap.size w w' := by
  have hm : (cast2 k).length ≤ maxLen := hG.1.2.2.1
  have hA := awake_any w
  have hLg := fun W => large_any p (cast2 k) cap m W hm
  rw [cast2_len, hb] at hLg
  have hN := fun W (h : Gr W p m k) => order_yes p m k cap W h E hE
  have hL := fun W (h : Gr W p m k) => loop_none cap h hE
  have hEl := (ordr_nodup hE).2.1
  obtain ⟨hc1, hc2⟩ := order_code hG.2.2.2 hE
  have hmm := hG.2.2.1
  have hK : ∀ W o, Gr W p m k → Rdl W o E → Calls Try.prog 13 #[.int .i64 m, .slice p k.length cap, o] W fun e w' => e = .returned (.tuple #[.bool true, .int .i64 0]) ∧ Below W.heap.size W w' := fun W o h h2 => by
    have := check_ok p m k cap W o (toZ E) h h2.z (by rw [toZ_len]; omega)
    rw [hc1, hc2] at this
    exact this
  have t1 : decide ((E.length : Int) = (m : Int)) = true := decide_eq_true (by omega)
  have HG := Lib.hid hG
  clear hb hE hm hc1 hc2 hEl hG
  go_enter Try.func6, Try.ntmps6
  go_wp2_with (first
    | (go_at_call 10; (with_reducible refine hA.mono ?_); rintro e w1 ⟨rfl, b1⟩; have G1 := HG.out.on b1)
    | (go_at_call 11; (with_reducible refine (hLg _).mono ?_); rintro e w2 ⟨rfl, rfl⟩)
    | (go_at_call 12; (with_reducible refine (hN _ G1).mono ?_); rintro e w3 ⟨v3, rfl, r3, b3⟩; have G3 := G1.on b3; have r3 := r3.rd)
    | (go_at_call 27; (with_reducible refine (hL _ G3).mono ?_); rintro e w4 ⟨rfl, b4⟩; have A4 := al1 w4 (.cells #[.slice none 0 0] 23); have C4 := Has.new_ w4 23 #[.slice none 0 0]; have r4 := (r3.on b4).on A4; have G4 := (G3.on b4).on A4; clear r3; obtain ⟨q4, cc4, rfl, kr4⟩ := r4; have r4 : Rdl (w4.alloc (.cells #[.slice none 0 0] 23)) (.slice q4 E.length cc4) E := ⟨q4, cc4, rfl, kr4⟩; clear kr4)
    | (go_at_call 13; (with_reducible refine (hK _ _ G4 r4).mono ?_); rintro e w6 ⟨rfl, b6⟩; have c6 := (Has.on C4 b6).read 0))
  all_goals first
    | (exfalso; exact absurd (of_decide_eq_true t1) (by assumption))
    | (go_ret
       exact ⟨by first | rfl | simp, belows (belows (belows (belows b1 b3) b4) A4) b6⟩)
end Go.Proofs.Yteofbbakegcohaa
