/- The reference's Made at two words; what it gives of a sum, a product, a quotient. -/
import Derived.Test.YtbbbmlnggehcdaaDoorRo
import Derived.Test.YtbbbmlnggehcdaaDoorRm
namespace Go.Proofs.YtbbbmlnggehcdaaDoor
open Go.ChangeShapes Go.WideShapes Go.ChangeAt Go.RowKit
set_option linter.unusedVariables false
set_option linter.unusedSimpArgs false

set_option maxHeartbeats 1000000 in
theorem madeU_any (x y : Int) (neg : Bool) (w : World) (hx : 0 ≤ x ∧ x < 170141183460469231731687303715884105728) (hy : 0 < y ∧ y < 170141183460469231731687303715884105728) {a b e0 : Int} (hr : fitQ neg (divq x (gd x y)) (divq y (gd x y)) = (a, b, e0)) :
    Calls Tryd.prog 43 #[.agg #[.int .u64 (uH x), .int .u64 (uL x)], .bool neg, .agg #[.int .u64 (uH y), .int .u64 (uL y)]] w fun e w' => e = .returned (.tuple #[.agg #[.int .i64 a, .int .i64 b], .int .i64 e0]) ∧ Below w.heap.size w w' := by
  have g1 := gd_pos (a := x) (b := y) (by omega)
  have g2 := gd_le (a := x) hy.1
  have ux : UU x := ⟨hx.1, by omega⟩
  have uy : UU y := ⟨by omega, by omega⟩
  have hG := fun w => gcdU_any x y w ux uy hy.1
  have hD1 := fun w => divU_any x (gd x y) w ux ⟨g1, by omega⟩
  have hD2 := fun w => divU_any y (gd x y) w uy ⟨g1, by omega⟩
  have yz : uH y = 0 → ¬ uL y = 0 := by
    have := uHL y
    intro c
    rw [c] at this; omega
  have n0 : 0 ≤ divq x (gd x y) ∧ UU (divq x (gd x y)) := by
    have h1 : 0 ≤ divq x (gd x y) := Int.ediv_nonneg hx.1 (by omega)
    have h2 : divq x (gd x y) ≤ x := Int.ediv_le_self _ hx.1
    exact ⟨h1, h1, by omega⟩
  have d0 : 0 ≤ divq y (gd x y) ∧ UU (divq y (gd x y)) := by
    have h1 : 0 ≤ divq y (gd x y) := Int.ediv_nonneg (by omega) (by omega)
    have h2 : divq y (gd x y) ≤ y := Int.ediv_le_self _ (by omega)
    exact ⟨h1, h1, by omega⟩
  have B1 := uH_b n0.2
  have B2 := uL_b (divq x (gd x y))
  have B3 := uH_b d0.2
  have B4 := uL_b (divq y (gd x y))
  have E1 := uHL (divq x (gd x y))
  have E2 := uHL (divq y (gd x y))
  clear n0 d0 ux uy hx hy g1 g2
  generalize divr x (gd x y) = rr at *
  generalize divr y (gd x y) = ss at *
  generalize divq x (gd x y) = n at *
  generalize divq y (gd x y) = d at *
  generalize gd x y = g at *
  generalize uH rr = rh at *
  generalize uL rr = rl at *
  generalize uH ss = sh' at *
  generalize uL ss = sl at *
  generalize uH n = nh at *
  generalize uL n = nl at *
  generalize uH d = dh at *
  generalize uL d = dl at *
  generalize uH g = gh at *
  generalize uL g = gl at *
  generalize uH x = xh at *
  generalize uL x = xl at *
  generalize uH y = yh at *
  generalize uL y = yl at *
  by_cases hz : yh = 0
  · have hz' := yz hz
    subst hz
    have hz := hz'
    by_cases c1 : 0 < nh
    · have e : (a, b, e0) = (0, 0, 5) := by rw [← hr]; unfold fitQ; rw [if_pos (by omega)]
      simp only [Prod.mk.injEq] at e; obtain ⟨rfl, rfl, rfl⟩ := e
      exact made_B_nh xh xl yl gh gl nl rh rl dl sh' sl nh dh neg w B2 B4 B1 B3 hz c1 hG hD1 hD2
    · have z1 : nh = 0 := by omega
      subst z1
      by_cases c2 : 1152921504606846976 < nl
      · have e : (a, b, e0) = (0, 0, 5) := by rw [← hr]; unfold fitQ; rw [if_pos (by omega)]
        simp only [Prod.mk.injEq] at e; obtain ⟨rfl, rfl, rfl⟩ := e
        exact made_B_nl xh xl yl gh gl nl rh rl dl sh' sl dh neg w B2 B4 B3 hz c2 hG hD1 hD2
      · by_cases c3 : 0 < dh
        · have e : (a, b, e0) = (0, 0, 5) := by rw [← hr]; unfold fitQ; rw [if_pos (by omega)]
          simp only [Prod.mk.injEq] at e; obtain ⟨rfl, rfl, rfl⟩ := e
          exact made_B_dh xh xl yl gh gl nl rh rl dl sh' sl dh neg w B2 B4 B3 hz c2 c3 hG hD1 hD2
        · have z2 : dh = 0 := by omega
          subst z2
          by_cases c4 : 1152921504606846976 < dl
          · have e : (a, b, e0) = (0, 0, 5) := by rw [← hr]; unfold fitQ; rw [if_pos (by omega)]
            simp only [Prod.mk.injEq] at e; obtain ⟨rfl, rfl, rfl⟩ := e
            exact made_B_dl xh xl yl gh gl nl rh rl dl sh' sl neg w B2 B4 hz c2 c4 hG hD1 hD2
          · have e : (a, b, e0) = (if neg then -nl else nl, dl, 0) := by rw [← hr]; unfold fitQ; rw [if_neg (by omega)]; rw [show n = nl by omega, show d = dl by omega]
            cases neg
            · simp only [Bool.false_eq_true, if_false, if_true, Prod.mk.injEq] at e; obtain ⟨ea, eb, ec⟩ := e; have ea := ea.symm; have eb := eb.symm; subst ea eb ec
              exact made_B_p xh xl yl gh gl nl rh rl dl sh' sl w B2 B4 hz c2 c4 hG hD1 hD2
            · simp only [Bool.false_eq_true, if_false, if_true, Prod.mk.injEq] at e; obtain ⟨ea, eb, ec⟩ := e; have ea := ea.symm; have eb := eb.symm; subst ea eb ec
              exact made_B_m xh xl yl gh gl nl rh rl dl sh' sl w B2 B4 hz c2 c4 hG hD1 hD2
  · clear yz
    by_cases c1 : 0 < nh
    · have e : (a, b, e0) = (0, 0, 5) := by rw [← hr]; unfold fitQ; rw [if_pos (by omega)]
      simp only [Prod.mk.injEq] at e; obtain ⟨rfl, rfl, rfl⟩ := e
      exact made_A_nh xh xl yl gh gl nl rh rl dl sh' sl yh nh dh neg w B2 B4 B1 B3 hz c1 hG hD1 hD2
    · have z1 : nh = 0 := by omega
      subst z1
      by_cases c2 : 1152921504606846976 < nl
      · have e : (a, b, e0) = (0, 0, 5) := by rw [← hr]; unfold fitQ; rw [if_pos (by omega)]
        simp only [Prod.mk.injEq] at e; obtain ⟨rfl, rfl, rfl⟩ := e
        exact made_A_nl xh xl yl gh gl nl rh rl dl sh' sl yh dh neg w B2 B4 B3 hz c2 hG hD1 hD2
      · by_cases c3 : 0 < dh
        · have e : (a, b, e0) = (0, 0, 5) := by rw [← hr]; unfold fitQ; rw [if_pos (by omega)]
          simp only [Prod.mk.injEq] at e; obtain ⟨rfl, rfl, rfl⟩ := e
          exact made_A_dh xh xl yl gh gl nl rh rl dl sh' sl yh dh neg w B2 B4 B3 hz c2 c3 hG hD1 hD2
        · have z2 : dh = 0 := by omega
          subst z2
          by_cases c4 : 1152921504606846976 < dl
          · have e : (a, b, e0) = (0, 0, 5) := by rw [← hr]; unfold fitQ; rw [if_pos (by omega)]
            simp only [Prod.mk.injEq] at e; obtain ⟨rfl, rfl, rfl⟩ := e
            exact made_A_dl xh xl yl gh gl nl rh rl dl sh' sl yh neg w B2 B4 hz c2 c4 hG hD1 hD2
          · have e : (a, b, e0) = (if neg then -nl else nl, dl, 0) := by rw [← hr]; unfold fitQ; rw [if_neg (by omega)]; rw [show n = nl by omega, show d = dl by omega]
            cases neg
            · simp only [Bool.false_eq_true, if_false, if_true, Prod.mk.injEq] at e; obtain ⟨ea, eb, ec⟩ := e; have ea := ea.symm; have eb := eb.symm; subst ea eb ec
              exact made_A_p xh xl yl gh gl nl rh rl dl sh' sl yh w B2 B4 hz c2 c4 hG hD1 hD2
            · simp only [Bool.false_eq_true, if_false, if_true, Prod.mk.injEq] at e; obtain ⟨ea, eb, ec⟩ := e; have ea := ea.symm; have eb := eb.symm; subst ea eb ec
              exact made_A_m xh xl yl gh gl nl rh rl dl sh' sl yh w B2 B4 hz c2 c4 hG hD1 hD2
end Go.Proofs.YtbbbmlnggehcdaaDoor
