/- DigraphReaches: the walk, all inputs. -/
import Derived.Test.YteofbbakegcohaaLawR
namespace Go.Proofs.Yteofbbakegcohaa
open Go.ChangeShapes Go.WideShapes Go.ChangeAt Go.RowKit
set_option linter.unusedVariables false
set_option linter.unusedSimpArgs false


set_option maxRecDepth 100000 in
theorem reaches_walk (p : Option Addr) (l : List (Int × Int)) (cap : Nat) (n : Int) (w : World) (hS : Sl w p l) :
    Calls Try.prog 8 #[.int .i64 n, .slice p l.length cap] w fun e w' => e = .returned (.bool true) ∧ Below w.heap.size w w' := by
  have hm := hS.2.2.1
  have hA := awake_any w
  have hLg := fun W => large_any p l cap n W hm
  cases hb : lrg n l.length
  · cases hv : vG n l
    · have hV := fun W (h : Sl W p l) => valid_any p l cap n W h
      rw [hv] at hV
      rw [hb] at hLg
      clear hb hv
      go_enter Try.func8, Try.ntmps8
      go_wp2_with (first
        | (go_at_call 10; (with_reducible refine hA.mono ?_); rintro e w1 ⟨rfl, b1⟩; have S1 := hS.on b1)
        | (go_at_call 11; (with_reducible refine (hLg _).mono ?_); rintro e w2 ⟨rfl, rfl⟩)
        | (go_at_call 15; (with_reducible refine (hV _ S1).mono ?_); rintro e w6 ⟨rfl, b6⟩))
      go_ret
      exact ⟨rfl, belows b1 b6⟩
    · obtain ⟨m, k, rfl, rfl, hk, hG⟩ := gr_of_valid hS hv
      rw [cast2_len] at hb ⊢
      exact reaches_ok p m k cap w hG hb
  · rw [hb] at hLg
    clear hb
    go_enter Try.func8, Try.ntmps8
    go_wp2_with (first
      | (go_at_call 10; (with_reducible refine hA.mono ?_); rintro e w1 ⟨rfl, b1⟩)
      | (go_at_call 11; (with_reducible refine (hLg _).mono ?_); rintro e w2 ⟨rfl, rfl⟩))
    go_ret
    exact ⟨rfl, b1⟩
end Go.Proofs.Yteofbbakegcohaa
