/- The reference's Mul. -/
import Derived.Test.YtbbbmlnggehcdaaDoorRu
import Derived.Lib.Mul64
namespace Go.Proofs.YtbbbmlnggehcdaaDoor
open Go.ChangeShapes Go.WideShapes Go.ChangeAt Go.RowKit
set_option linter.unusedVariables false

/-- The product as a magnitude. -/
def pU (x y : Int) : Int := x * y
theorem pU_b {x y : Int} (hx : 0 ≤ x ∧ x ≤ 18446744073709551615) (hy : 0 ≤ y ∧ y ≤ 18446744073709551615) : UU (pU x y) := by
  have := Int.mul_le_mul hx.2 hy.2 hy.1 (by omega)
  exact ⟨Int.mul_nonneg hx.1 hy.1, by unfold pU; omega⟩

theorem mul_halves (x y : Int) (hx : 0 ≤ x ∧ x ≤ 18446744073709551615) (hy : 0 ≤ y ∧ y ≤ 18446744073709551615) :
    ∃ a b c d : Int, x / 4294967296 * (y / 4294967296) = a ∧ x / 4294967296 * (y % 4294967296) = b ∧ x % 4294967296 * (y / 4294967296) = c ∧ x % 4294967296 * (y % 4294967296) = d ∧
      (0 ≤ a ∧ a ≤ 18446744065119617025) ∧ (0 ≤ b ∧ b ≤ 18446744065119617025) ∧ (0 ≤ c ∧ c ≤ 18446744065119617025) ∧ (0 ≤ d ∧ d ≤ 18446744065119617025) ∧
      uH (pU x y) = a + (b + d / 4294967296) / 4294967296 + (c + (b + d / 4294967296) % 4294967296) / 4294967296 ∧
      uL (pU x y) = (c + (b + d / 4294967296) % 4294967296) % 4294967296 * 4294967296 + d % 4294967296 := by
  have pb : ∀ u v : Int, 0 ≤ u → u ≤ 4294967295 → 0 ≤ v → v ≤ 4294967295 → 0 ≤ u * v ∧ u * v ≤ 18446744065119617025 := fun u v h1 h2 h3 h4 =>
    ⟨Int.mul_nonneg h1 h3, by have := Int.mul_le_mul h2 h4 h3 (by omega); omega⟩
  have e : pU x y = x / 4294967296 * (y / 4294967296) * 18446744073709551616 + (x / 4294967296 * (y % 4294967296) + x % 4294967296 * (y / 4294967296)) * 4294967296 + x % 4294967296 * (y % 4294967296) := by
    have ex : x = x / 4294967296 * 4294967296 + x % 4294967296 := by omega
    have ey : y = y / 4294967296 * 4294967296 + y % 4294967296 := by omega
    unfold pU
    generalize x / 4294967296 = x1 at *
    generalize x % 4294967296 = x0 at *
    generalize y / 4294967296 = y1 at *
    generalize y % 4294967296 = y0 at *
    subst ex ey
    grind
  have A := pb (x / 4294967296) (y / 4294967296) (by omega) (by omega) (by omega) (by omega)
  have B := pb (x / 4294967296) (y % 4294967296) (by omega) (by omega) (by omega) (by omega)
  have C := pb (x % 4294967296) (y / 4294967296) (by omega) (by omega) (by omega) (by omega)
  have D := pb (x % 4294967296) (y % 4294967296) (by omega) (by omega) (by omega) (by omega)
  refine ⟨_, _, _, _, rfl, rfl, rfl, rfl, A, B, C, D, ?_⟩
  rw [e]
  generalize x / 4294967296 * (y / 4294967296) = a at *
  generalize x / 4294967296 * (y % 4294967296) = b at *
  generalize x % 4294967296 * (y / 4294967296) = c at *
  generalize x % 4294967296 * (y % 4294967296) = d at *
  exact u_of (by omega) (by omega)

theorem low32 (z : Int) (h0 : 0 ≤ z) (h1 : z < 18446744073709551616) : bits .and .u64 z 4294967295 = z % 4294967296 := by go_bits2

theorem mulU_any (x y : Int) (w : World) (hx : 0 ≤ x ∧ x ≤ 18446744073709551615) (hy : 0 ≤ y ∧ y ≤ 18446744073709551615) :
    Calls Tryd.prog 53 #[.int .u64 x, .int .u64 y] w fun e w' => e = .returned (.agg #[.int .u64 (uH (pU x y)), .int .u64 (uL (pU x y))]) ∧ Below w.heap.size w w' := by
  obtain ⟨a, b, c, d, ea, eb, ec, ed, ba, bb, bc, bd, k1, k2⟩ := mul_halves x y hx hy
  rw [k1, k2]
  have L1 := low32 x hx.1 (by omega)
  have L2 := low32 y hy.1 (by omega)
  have L3 := low32 d bd.1 (by omega)
  have L4 := low32 (b + d / 4294967296) (by omega) (by omega)
  have W1 : IntKind.u64.wrap a = a := by rw [IntKind.wrap_u64]; omega
  have W2 : IntKind.u64.wrap b = b := by rw [IntKind.wrap_u64]; omega
  have W3 : IntKind.u64.wrap c = c := by rw [IntKind.wrap_u64]; omega
  have W4 : IntKind.u64.wrap d = d := by rw [IntKind.wrap_u64]; omega
  have W5 : IntKind.u64.wrap (b + d / 4294967296) = b + d / 4294967296 := by rw [IntKind.wrap_u64]; omega
  have W6 : IntKind.u64.wrap (c + (b + d / 4294967296) % 4294967296) = c + (b + d / 4294967296) % 4294967296 := by rw [IntKind.wrap_u64]; omega
  obtain ⟨m, hm⟩ : ∃ m, (c + (b + d / 4294967296) % 4294967296) % 4294967296 * 4294967296 = m := ⟨_, rfl⟩
  have W7 : IntKind.u64.wrap ((c + (b + d / 4294967296) % 4294967296) * 4294967296) = m := by rw [← hm, IntKind.wrap_u64]; omega
  have W8 : IntKind.u64.wrap (m + d % 4294967296) = m + d % 4294967296 := by rw [IntKind.wrap_u64]; omega
  rw [hm]
  clear hm
  go_enter Tryd.func53, Tryd.ntmps53
  go_wp2
  refine bodyPost_ret (v := .agg #[.int .u64 (a + (b + d / 4294967296) / 4294967296 + (c + (b + d / 4294967296) % 4294967296) / 4294967296), .int .u64 (m + d % 4294967296)]) (by simp [results, Tryd.results53, go_sem]) rfl ⟨rfl, al1 _ _⟩

end Go.Proofs.YtbbbmlnggehcdaaDoor
