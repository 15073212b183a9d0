/- DigraphEither: the walk. -/
import Derived.Test.YteofbbakegcohaaEm
namespace Go.Proofs.Yteofbbakegcohaa
open Go.ChangeShapes Go.WideShapes Go.ChangeAt Go.RowKit
set_option linter.unusedVariables false
set_option linter.unusedSimpArgs false


set_option maxRecDepth 100000 in
theorem either_walk (p : Option Addr) (l : List (Int × Int)) (cap : Nat) (n : Int) (w : World) (hS : Sl w p l) :
    Calls Try.prog 6 #[.int .i64 n, .slice p l.length cap] w fun e w' => e = .returned (.bool true) ∧ Below w.heap.size w w' := by
  cases hb : lrg n l.length
  · cases hv : vG n l
    · exact either_no p l cap n w hS hv hb
    · obtain ⟨m, k, rfl, rfl, hk, hG⟩ := gr_of_valid hS hv
      rw [cast2_len] at hb ⊢
      cases hE : ordr (adj k) m m [] with
      | some E => exact either_ord p m k cap w hG hb E hE
      | none => exact either_lop p m k cap w hG hb hE
  · have hm := hS.2.2.1
    have hA := awake_any w
    have hLg := fun W => large_any p l cap n W hm
    rw [hb] at hLg
    clear hb
    go_enter Try.func6, Try.ntmps6
    go_wp2_with (first
      | (go_at_call 10; (with_reducible refine hA.mono ?_); rintro e w1 ⟨rfl, b1⟩)
      | (go_at_call 11; (with_reducible refine (hLg _).mono ?_); rintro e w2 ⟨rfl, rfl⟩))
    go_ret
    exact ⟨rfl, b1⟩
end Go.Proofs.Yteofbbakegcohaa
