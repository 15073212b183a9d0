/- The sums of all subsets, as a list (pure). -/
import Derived.Test.YtepcokgpepcccaaDoorEqz
namespace Go.Proofs.YtepcokgpepcccaaDoor
set_option linter.unusedVariables false
set_option linter.unusedSimpArgs false

def smo (zs : List Int) : Nat → List Int
  | 0 => [0]
  | k + 1 => smo zs k ++ (smo zs k).map (· + zs.getD k 0)
theorem smo_len (zs : List Int) : ∀ k, (smo zs k).length = 2 ^ k
  | 0 => rfl
  | k + 1 => by rw [smo, List.length_append, List.length_map, smo_len zs k, Nat.pow_succ]; omega
theorem sm_bits (zs : List Int) (s t : Nat) : ∀ k, (∀ i, i < k → s.testBit i = t.testBit i) → sm zs s k = sm zs t k
  | 0, _ => rfl
  | k + 1, h => by rw [sm, sm, sm_bits zs s t k (fun i hi => h i (by omega)), h k (by omega)]
theorem smo_sm (zs : List Int) : ∀ k, smo zs k = (List.range (2 ^ k)).map fun s => sm zs s k
  | 0 => rfl
  | k + 1 => by
    rw [smo, smo_sm zs k, Nat.pow_succ, Nat.mul_two, List.range_add, List.map_append, List.map_map, List.map_map]
    congr 1
    · apply List.map_congr_left
      intro s hs
      have hs := List.mem_range.1 hs
      rw [sm, Nat.testBit_lt_two_pow hs]; simp
    · apply List.map_congr_left
      intro s hs
      have hs := List.mem_range.1 hs
      simp only [Function.comp]
      rw [sm, Nat.testBit_two_pow_add_eq, Nat.testBit_lt_two_pow hs]
      rw [sm_bits zs (2 ^ k + s) s k (fun i hi => Nat.testBit_two_pow_add_gt hi s)]
      simp
/-- The sums of all subsets, in the order of the subsets as numbers. -/
def sums (zs : List Int) : List Int := smo zs zs.length
theorem sums_len (zs : List Int) : (sums zs).length = 2 ^ zs.length := smo_len _ _
theorem sums_at (zs : List Int) (s : Nat) (h : s < (sums zs).length) : (sums zs)[s] = sm zs s zs.length := by
  simp only [sums, smo_sm]
  simp
end Go.Proofs.YtepcokgpepcccaaDoor
