/- The reference's Made at one word, its Make and its Valid. -/
import Derived.Test.YtplepbaafamjfaaRd
import Derived.Test.YtplepbaafamjfaaRgl
import Derived.Test.YtplepbaafamjfaaEn
namespace Go.Proofs.Ytplepbaafamjfaa
open Go.ChangeShapes Go.WideShapes Go.ChangeAt Go.RowKit
set_option linter.unusedVariables false
set_option linter.unusedSimpArgs false

theorem u_small {x : Int} (h : 0 ≤ x ∧ x ≤ 18446744073709551615) : uH x = 0 ∧ uL x = x := u_of h (by omega)
theorem UU_small {x : Int} (h : 0 ≤ x ∧ x ≤ 18446744073709551615) : UU x := by unfold UU; omega
theorem gcd_small (x y : Int) (w : World) (hx : 0 ≤ x ∧ x ≤ 18446744073709551615) (hy : 0 < y ∧ y ≤ 18446744073709551615) :
    Calls Try.prog 57 #[.agg #[.int .u64 0, .int .u64 x], .agg #[.int .u64 0, .int .u64 y]] w fun e w' => e = .returned (.agg #[.int .u64 0, .int .u64 (gd x y)]) ∧ Below w.heap.size w w' := by
  have sx := u_small hx
  have sy := u_small (x := y) ⟨by omega, hy.2⟩
  have g0 := gd_nn x y
  have g1 := gd_le (a := x) hy.1
  have sg := u_small (x := gd x y) ⟨g0, by omega⟩
  by_cases h : x = 0
  · subst h
    have e : gd 0 y = y := by unfold gd; simp; omega
    have k := gcd_zero_ y w (UU_small ⟨by omega, hy.2⟩)
    rw [sy.1, sy.2] at k
    rw [e]; exact k
  · have k := gcd_lo x y (gd x y) w (UU_small hx) (UU_small ⟨by omega, hy.2⟩) (by omega) hy.1 rfl sx.1 (by rw [sx.2]; exact h)
    rw [sx.2, sy.1, sy.2, sg.1, sg.2] at k
    exact k

end Go.Proofs.Ytplepbaafamjfaa
