/- The reference's Gcd, Div and Made at two words. -/
import Derived.Test.YtbbbmlnggehcdaaDoorRk
import Derived.Test.YtbbbmlnggehcdaaDoorRt
import Derived.Test.YtbbbmlnggehcdaaDoorRt2
namespace Go.Proofs.YtbbbmlnggehcdaaDoor
open Go.ChangeShapes Go.WideShapes Go.ChangeAt Go.RowKit
set_option linter.unusedVariables false
set_option linter.unusedSimpArgs false

theorem gcdU_any (x y : Int) (w : World) (hx : UU x) (hy : UU y) (py : 0 < y) :
    Calls Tryd.prog 45 #[.agg #[.int .u64 (uH x), .int .u64 (uL x)], .agg #[.int .u64 (uH y), .int .u64 (uL y)]] w fun e w' => e = .returned (.agg #[.int .u64 (uH (gd x y)), .int .u64 (uL (gd x y))]) ∧ Below w.heap.size w w' := by
  by_cases h : x = 0
  · subst h
    have e : gd 0 y = y := by unfold gd; simp; omega
    rw [e]
    exact gcd_zero_ y w hy
  · have p : 0 < x := by have := hx.1; omega
    by_cases c : uH x = 0
    · have k := gcd_lo x y (gd x y) w hx hy p py rfl c (by have := uHL x; rw [c] at this; omega)
      rw [c]; exact k
    · exact gcd_hi x y (gd x y) w hx hy p py rfl c

theorem divU_any (x y : Int) (w : World) (hx : UU x) (hy : 0 < y ∧ y < 170141183460469231731687303715884105728) :
    Calls Tryd.prog 63 #[.agg #[.int .u64 (uH x), .int .u64 (uL x)], .agg #[.int .u64 (uH y), .int .u64 (uL y)]] w fun e w' => e = .returned (.tuple #[.agg #[.int .u64 (uH (divq x y)), .int .u64 (uL (divq x y))], .agg #[.int .u64 (uH (divr x y)), .int .u64 (uL (divr x y))]]) ∧ Below w.heap.size w w' := by
  by_cases c : uH x = 0
  · by_cases d : uH y = 0
    · have ex : x = uL x := by have := uHL x; rw [c] at this; omega
      have ey : y = uL y := by have := uHL y; rw [d] at this; omega
      have b1 := uL_b x
      have b2 := uL_b y
      have k := div_small (uL x) (uL y) w b1 (by omega)
      have q1 := qI_b b1.1 (show 0 < uL y by omega)
      have r1 := rI_b (a := uL x) (show 0 < uL y by omega)
      have sq : uH (divq x y) = 0 ∧ uL (divq x y) = qI (uL x) (uL y) := by
        have e : divq x y = qI (uL x) (uL y) := by rw [← ex, ← ey]; rfl
        rw [e]; exact u_small (by omega)
      have sr : uH (divr x y) = 0 ∧ uL (divr x y) = rI (uL x) (uL y) := by
        have e : divr x y = rI (uL x) (uL y) := by rw [← ex, ← ey]; rfl
        rw [e]; exact u_small (by omega)
      rw [c, d, sq.1, sq.2, sr.1, sr.2]; exact k
    · rw [c]; exact div_slow2 x y w hx hy c (by simp [d])
  · exact div_slow x y w hx hy (by simp [c])

end Go.Proofs.YtbbbmlnggehcdaaDoor
