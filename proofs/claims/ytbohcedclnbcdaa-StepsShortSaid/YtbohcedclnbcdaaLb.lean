/- StepsShort: the walk, whole. -/
import Derived.Test.YtbohcedclnbcdaaL9
import Derived.Test.YtbohcedclnbcdaaLa
namespace Go.Proofs.Ytbohcedclnbcdaa
open Go.ChangeShapes Go.WideShapes Go.ChangeAt Go.RowKit

theorem short_walk (p : Option Addr) (l : List Stp) (cap : Nat) (x : Int) (w : World) (hS : Sl w p l) (_hx : I64 x) :
    Calls Try.prog 10 #[.slice p l.length cap, .int .i64 x] w fun e w' => e = .returned (.bool true) ∧ Below w.heap.size w w' := by
  by_cases h : 199 < l.length ∨ x < -1048576 ∨ 1048576 ≤ x
  · exact short_out p l cap x w hS h
  · have h0 : l.length ≤ 199 := by omega
    have h1 : -1048576 ≤ x := by omega
    have h2 : x < 1048576 := by omega
    cases hv : okS l
    · exact short_bad p l cap x w hS h0 h1 h2 hv
    · have hle := ix_le x l
      rcases Nat.lt_or_ge (ix x l) l.length with hk | hk
      · have ha := ix_at x l hk
        by_cases he : x < l[ix x l].1
        · refine short_b p l cap x w hS h0 h1 h2 hv hk fun s hs => ?_
          rw [List.getElem?_eq_getElem hk] at hs
          obtain rfl := Option.some.inj hs
          exact he
        · refine short_c p l cap x w hS h0 h1 h2 hv hk fun s hs => ?_
          rw [List.getElem?_eq_getElem hk] at hs
          obtain rfl := Option.some.inj hs
          omega
      · exact short_a p l cap x w hS h0 h1 h2 hv (by omega)
end Go.Proofs.Ytbohcedclnbcdaa
