/- The reference's magnitudes: Half, Less, Plus, Minus. -/
import Derived.Test.YtbbbmlnggehcdaaDoorBas
namespace Go.Proofs.YtbbbmlnggehcdaaDoor
open Go.ChangeShapes Go.WideShapes Go.ChangeAt Go.RowKit
set_option linter.unusedVariables false

/-- The parts of a magnitude. -/
def uH (x : Int) : Int := x / 18446744073709551616
def uL (x : Int) : Int := x % 18446744073709551616
def UU (x : Int) : Prop := 0 ≤ x ∧ x < 340282366920938463463374607431768211456
theorem uH_b {x : Int} (h : UU x) : 0 ≤ uH x ∧ uH x ≤ 18446744073709551615 := by unfold UU at h; unfold uH; omega
theorem uL_b (x : Int) : 0 ≤ uL x ∧ uL x ≤ 18446744073709551615 := by unfold uL; omega
theorem uHL (x : Int) : uH x * 18446744073709551616 + uL x = x := by unfold uH uL; omega
theorem u_of {x h l : Int} (hl : 0 ≤ l ∧ l ≤ 18446744073709551615) (e : h * 18446744073709551616 + l = x) : uH x = h ∧ uL x = l := by unfold uH uL; omega
def hf (x : Int) : Int := x / 2

theorem half_any (x : Int) (w : World) (hx : UU x) :
    Calls Tryd.prog 64 #[.agg #[.int .u64 (uH x), .int .u64 (uL x)]] w fun e w' => e = .returned (.agg #[.int .u64 (uH (hf x)), .int .u64 (uL (hf x))]) ∧ Below w.heap.size w w' := by
  have b1 := uH_b hx
  have b2 := uL_b x
  have k : uH (hf x) = uH x / 2 ∧ uL (hf x) = uL x / 2 + (uH x % 2) * 9223372036854775808 := by
    refine u_of (by omega) ?_
    have := uHL x
    unfold hf
    omega
  rw [k.1, k.2]
  have W1 : IntKind.u64.wrap (uH x * 9223372036854775808) = (uH x % 2) * 9223372036854775808 := by rw [IntKind.wrap_u64]; omega
  have W2 : IntKind.u64.wrap (uL x / 2 + (uH x % 2) * 9223372036854775808) = uL x / 2 + (uH x % 2) * 9223372036854775808 := by rw [IntKind.wrap_u64]; omega
  clear k
  generalize uH x = h at *
  generalize uL x = l at *
  go_enter Tryd.func64, Tryd.ntmps64
  go_wp2
  refine bodyPost_ret (v := .agg #[.int .u64 (h / 2), .int .u64 (l / 2 + h % 2 * 9223372036854775808)]) (by simp [results, Tryd.results64, go_sem]) rfl ⟨rfl, al2 _ _ _⟩

theorem less_any (x y : Int) (w : World) (hx : UU x) (hy : UU y) :
    Calls Tryd.prog 55 #[.agg #[.int .u64 (uH x), .int .u64 (uL x)], .agg #[.int .u64 (uH y), .int .u64 (uL y)]] w fun e w' => e = .returned (.bool (decide (x < y))) ∧ Below w.heap.size w w' := by
  have b2 := uL_b x
  have b4 := uL_b y
  have e1 := uHL x
  have e2 := uHL y
  have k : decide (x < y) = (decide (uH x < uH y) || (uH x == uH y && decide (uL x < uL y))) := by
    rw [Bool.eq_iff_iff]; simp only [decide_eq_true_eq, Bool.or_eq_true, Bool.and_eq_true, beq_iff_eq]; omega
  rw [k]
  clear k e1 e2
  generalize uH x = h at *
  generalize uL x = l at *
  generalize uH y = h' at *
  generalize uL y = l' at *
  go_enter Tryd.func55, Tryd.ntmps55
  go_wp2
  all_goals go_ret
  all_goals refine ⟨?_, al2 _ _ _⟩
  all_goals simp_all

def sU (x y : Int) : Int := x + y
def dU (x y : Int) : Int := x - y
theorem plusU_any (x y : Int) (w : World) (hx : UU x) (hy : UU y) (hs : UU (sU x y)) :
    Calls Tryd.prog 54 #[.agg #[.int .u64 (uH x), .int .u64 (uL x)], .agg #[.int .u64 (uH y), .int .u64 (uL y)]] w fun e w' => e = .returned (.agg #[.int .u64 (uH (sU x y)), .int .u64 (uL (sU x y))]) ∧ Below w.heap.size w w' := by
  have b1 := uH_b hx
  have b2 := uL_b x
  have b3 := uH_b hy
  have b4 := uL_b y
  have b5 := uH_b hs
  have b6 := uL_b (sU x y)
  have e1 := uHL x
  have e2 := uHL y
  have e3 := uHL (sU x y)
  have e4 : sU x y = x + y := rfl
  by_cases c : 18446744073709551616 ≤ uL x + uL y
  · have k1 : uL (sU x y) = uL x + uL y - 18446744073709551616 := by omega
    have k2 : uH (sU x y) = uH x + uH y + 1 := by omega
    have W1 : IntKind.u64.wrap (uL x + uL y) = uL x + uL y - 18446744073709551616 := by rw [IntKind.wrap_u64]; omega
    have W2 : IntKind.u64.wrap (uH x + uH y) = uH x + uH y := by rw [IntKind.wrap_u64]; omega
    have W3 : IntKind.u64.wrap (uH x + uH y + 1) = uH x + uH y + 1 := by rw [IntKind.wrap_u64]; omega
    rw [k1, k2]
    clear k1 k2 e1 e2 e3 e4 b5 b6
    generalize uH x = h at *
    generalize uL x = l at *
    generalize uH y = h' at *
    generalize uL y = l' at *
    go_enter Tryd.func54, Tryd.ntmps54
    go_wp2
    refine bodyPost_ret (v := .agg #[.int .u64 (h + h' + 1), .int .u64 (l + l' - 18446744073709551616)]) (by simp [results, Tryd.results54, go_sem]) rfl ⟨rfl, al (al2 _ _ _) _⟩
  · have k1 : uL (sU x y) = uL x + uL y := by omega
    have k2 : uH (sU x y) = uH x + uH y := by omega
    have W1 : IntKind.u64.wrap (uL x + uL y) = uL x + uL y := by rw [IntKind.wrap_u64]; omega
    have W2 : IntKind.u64.wrap (uH x + uH y) = uH x + uH y := by rw [IntKind.wrap_u64]; omega
    rw [k1, k2]
    clear k1 k2 e1 e2 e3 e4 b5 b6
    generalize uH x = h at *
    generalize uL x = l at *
    generalize uH y = h' at *
    generalize uL y = l' at *
    go_enter Tryd.func54, Tryd.ntmps54
    go_wp2
    refine bodyPost_ret (v := .agg #[.int .u64 (h + h'), .int .u64 (l + l')]) (by simp [results, Tryd.results54, go_sem]) rfl ⟨rfl, al (al2 _ _ _) _⟩

theorem minusU_any (x y : Int) (w : World) (hx : UU x) (hy : UU y) (hs : y ≤ x) :
    Calls Tryd.prog 56 #[.agg #[.int .u64 (uH x), .int .u64 (uL x)], .agg #[.int .u64 (uH y), .int .u64 (uL y)]] w fun e w' => e = .returned (.agg #[.int .u64 (uH (dU x y)), .int .u64 (uL (dU x y))]) ∧ Below w.heap.size w w' := by
  have b1 := uH_b hx
  have b2 := uL_b x
  have b3 := uH_b hy
  have b4 := uL_b y
  have e1 := uHL x
  have e2 := uHL y
  have e3 := uHL (dU x y)
  have b6 := uL_b (dU x y)
  have b5 : 0 ≤ uH (dU x y) := by unfold uH dU; omega
  have e4 : dU x y = x - y := rfl
  by_cases c : uL x < uL y
  · have k1 : uL (dU x y) = uL x - uL y + 18446744073709551616 := by omega
    have k2 : uH (dU x y) = uH x - uH y - 1 := by omega
    have k3 : 0 ≤ uH x - uH y - 1 := by omega
    have W1 : IntKind.u64.wrap (uL x - uL y) = uL x - uL y + 18446744073709551616 := by rw [IntKind.wrap_u64]; omega
    have W2 : IntKind.u64.wrap (uH x - uH y) = uH x - uH y := by rw [IntKind.wrap_u64]; omega
    have W3 : IntKind.u64.wrap (uH x - uH y - 1) = uH x - uH y - 1 := by rw [IntKind.wrap_u64]; omega
    rw [k1, k2]
    clear k1 k2 e1 e2 e3 e4 b5 b6
    generalize uH x = h at *
    generalize uL x = l at *
    generalize uH y = h' at *
    generalize uL y = l' at *
    go_enter Tryd.func56, Tryd.ntmps56
    go_wp2
    refine bodyPost_ret (v := .agg #[.int .u64 (h - h' - 1), .int .u64 (l - l' + 18446744073709551616)]) (by simp [results, Tryd.results56, go_sem]) rfl ⟨rfl, al (al2 _ _ _) _⟩
  · have k1 : uL (dU x y) = uL x - uL y := by omega
    have k2 : uH (dU x y) = uH x - uH y := by omega
    have k3 : 0 ≤ uH x - uH y := by omega
    have W1 : IntKind.u64.wrap (uL x - uL y) = uL x - uL y := by rw [IntKind.wrap_u64]; omega
    have W2 : IntKind.u64.wrap (uH x - uH y) = uH x - uH y := by rw [IntKind.wrap_u64]; omega
    rw [k1, k2]
    clear k1 k2 e1 e2 e3 e4 b5 b6
    generalize uH x = h at *
    generalize uL x = l at *
    generalize uH y = h' at *
    generalize uL y = l' at *
    go_enter Tryd.func56, Tryd.ntmps56
    go_wp2
    refine bodyPost_ret (v := .agg #[.int .u64 (h - h'), .int .u64 (l - l')]) (by simp [results, Tryd.results56, go_sem]) rfl ⟨rfl, al (al2 _ _ _) _⟩
end Go.Proofs.YtbbbmlnggehcdaaDoor
