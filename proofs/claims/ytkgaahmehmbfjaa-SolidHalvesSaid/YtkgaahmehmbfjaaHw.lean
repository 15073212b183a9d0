/- SolidHalves, the walk. -/
import Derived.Test.YtkgaahmehmbfjaaHva
import Derived.Test.YtkgaahmehmbfjaaHvb
import Derived.Test.YtkgaahmehmbfjaaHvd
namespace Go.Proofs.Ytkgaahmehmbfjaa
open Go.ChangeShapes Go.WideShapes Go.ChangeAt Go.RowKit Go.Maps Go.Shelf
set_option linter.unusedVariables false
set_option linter.unusedSimpArgs false

theorem halves_walk (p q : Option Addr) (l h : List Bx) (c d : Nat) (b : Bx) (ax pt x y : Int) (w : World) (hS : Sl w p l) (hT : Sl w q h)
    (hax : 0 ≤ ax ∧ ax ≤ 255) (hpt : 0 ≤ pt ∧ pt ≤ 65535) (hx : 0 ≤ x ∧ x ≤ 65535) (hy : 0 ≤ y ∧ y ≤ 65535) :
    Calls Try.prog 7 #[sv p q l h c d, b.val, .int .u8 ax, .int .u16 pt, .int .u16 x, .int .u16 y] w fun e w' => e = .returned (.bool true) ∧ Below w.heap.size w w' := by
  cases hr : rgtS l h
  · exact halves_no p q l h c d b ax pt x y w hS hT (.inl hr)
  cases hb : b.ok
  · exact halves_no p q l h c d b ax pt x y w hS hT (.inr hb)
  have hm : ax.tmod 3 = 0 ∨ ax.tmod 3 = 1 ∨ ax.tmod 3 = 2 := by
    rw [Int.tmod_eq_emod_of_nonneg hax.1]; omega
  rcases hm with hm | hm | hm
  · exact halves_0 p q l h c d b ax pt x y w hS hT hr hb hax hpt hx hy hm
  · exact halves_1 p q l h c d b ax pt x y w hS hT hr hb hax hpt hx hy hm
  · exact halves_2 p q l h c d b ax pt x y w hS hT hr hb hax hpt hx hy hm
end Go.Proofs.Ytkgaahmehmbfjaa
