/- Sums come in pairs; the numbers of a set and their sum (pure). -/
import Derived.Test.YtepcokgpepcccaaDoorPr0
namespace Go.Proofs.YtepcokgpepcccaaDoor
set_option linter.unusedVariables false
set_option linter.unusedSimpArgs false
theorem sub_all {n s : Nat} (h : s < 2 ^ n) : Sub s (2 ^ n - 1) := fun i hi => by
  rw [Nat.testBit_two_pow_sub_one]
  apply decide_eq_true
  apply Nat.lt_of_not_le
  intro k
  rw [Nat.testBit_lt_two_pow (Nat.lt_of_lt_of_le h (Nat.pow_le_pow_right (by omega) k))] at hi
  cases hi
theorem sums_co (zs : List Int) (x : Int) (h : x ∈ sums zs) : tot zs zs.length - x ∈ sums zs := by
  rw [sums_mem] at h ⊢
  obtain ⟨s, hs, rfl⟩ := h
  have a := (SF_adds zs).2 (allS zs) s (sub_all hs)
  refine ⟨allS zs - s, ?_, ?_⟩
  · unfold allS
    have := Nat.two_pow_pos zs.length
    omega
  · rw [tot_all]; omega
theorem smz_rev (zs : List Int) : smz zs = ((smz zs).map fun x => tot zs zs.length - x).reverse := by
  refine asc_eq (smz_asc zs).1 ?_ fun x => ?_
  · rw [Asc, List.pairwise_reverse, List.pairwise_map]
    exact (smz_asc zs).1.imp fun h => by omega
  · rw [List.mem_reverse, List.mem_map, (smz_asc zs).2]
    constructor
    · intro h
      exact ⟨_, ((smz_asc zs).2 _).2 (sums_co zs x h), by omega⟩
    · rintro ⟨y, hy, rfl⟩
      exact sums_co zs y (((smz_asc zs).2 y).1 hy)
theorem smz_pair (zs : List Int) (i : Nat) (h : i < (smz zs).length) (h2 : (smz zs).length - 1 - i < (smz zs).length) : (smz zs)[i] + (smz zs)[(smz zs).length - 1 - i] = tot zs zs.length := by
  have e := smz_rev zs
  have k : (smz zs)[i]? = (((smz zs).map fun x => tot zs zs.length - x).reverse)[i]? := by rw [← e]
  rw [List.getElem?_reverse (by simpa using h), List.getElem?_map, List.length_map, List.getElem?_eq_getElem h, List.getElem?_eq_getElem h2] at k
  simp at k
  omega
theorem zero_mem (zs : List Int) : 0 ∈ smz zs := by
  rw [smz_mem]
  exact ⟨0, Nat.two_pow_pos _, sm_zero zs _⟩
theorem asc_compact {xs : List Int} (h : Asc xs) : Lib.compact xs = xs := by
  apply Lib.compact_all
  intro j hj
  by_cases h0 : j = 0
  · simp [Lib.keeps, h0]
  · have := List.pairwise_iff_getElem.1 h (j - 1) j (by omega) hj (by omega)
    apply Lib.keeps_pos
    simp only [List.getElem!_toArray]
    rw [getElem!_pos xs j hj, getElem!_pos xs (j - 1) (by omega)]
    omega
theorem fst_none (p : Nat → Bool) : ∀ n, fst p n = none ↔ ∀ s, s < n → p s = false
  | 0 => by simp [fst]
  | n + 1 => by
    have ih := fst_none p n
    rw [fst]
    constructor
    · intro h s hs
      cases hp : p n
      · have e : fstep p (fst p n) n = fst p n := by unfold fstep; rw [hp]
        rw [e] at h
        by_cases k : s = n
        · rw [k]; exact hp
        · exact ih.1 h s (by omega)
      · exfalso
        revert h
        unfold fstep
        rw [hp]
        cases fst p n with
        | none => simp
        | some t => simp only; split <;> simp
    · intro h
      have e : fstep p (fst p n) n = fst p n := by unfold fstep; rw [h n (by omega)]
      rw [e]
      exact ih.2 fun s hs => h s (by omega)
theorem fst_has (p : Nat → Bool) : ∀ n b, fst p n = some b → p b = true
  | 0, b, h => by simp [fst] at h
  | n + 1, b, h => by
    have ih := fst_has p n
    rw [fst] at h
    unfold fstep at h
    split at h
    · exact ih b h
    · rename_i hp _
      cases h; exact hp
    · rename_i t hp ht
      have k := ih t ht
      split at h
      · cases h; exact hp
      · cases h; exact k
theorem bySum_some {zs : List Int} {sum : Int} {b : Nat} (h : fst (bySum zs sum) (2 ^ zs.length) = some b) : b < 2 ^ zs.length ∧ SF zs b = sum := by
  have l := fst_lt _ _ _ h
  have k := fst_has _ _ _ h
  rw [bySum, sums_getD zs b l] at k
  exact ⟨l, eq_of_beq k⟩
theorem bySum_is (zs : List Int) (sum : Int) : (fst (bySum zs sum) (2 ^ zs.length)).isSome = decide (sum ∈ smz zs) := by
  cases h : fst (bySum zs sum) (2 ^ zs.length) with
  | none =>
    have k := (fst_none _ _).1 h
    symm
    rw [Option.isSome_none, decide_eq_false_iff_not, smz_mem]
    rintro ⟨s, hs, e⟩
    have := k s hs
    rw [bySum, sums_getD zs s hs] at this
    have e' : sm zs s zs.length = sum := e
    rw [e'] at this
    simp at this
  | some b =>
    obtain ⟨l, e⟩ := bySum_some h
    symm
    rw [Option.isSome_some, decide_eq_true_iff, smz_mem]
    exact ⟨b, l, e⟩
/-- The sum of the numbers at some places. -/
def pick (zs : List Int) : List Int → Int
  | [] => 0
  | x :: xs => zs.getD x.toNat 0 + pick zs xs
theorem pick_app (zs : List Int) : ∀ a b, pick zs (a ++ b) = pick zs a + pick zs b
  | [], b => by simp [pick]
  | x :: a, b => by rw [List.cons_append, pick, pick, pick_app zs a b]; omega
theorem pick_ixs (zs : List Int) (s : Nat) : ∀ n, pick zs (toZ (ixs n s)) = sm zs s n
  | 0 => rfl
  | n + 1 => by
    rw [ixs_next, toZ_app, pick_app, pick_ixs zs s n, sm]
    cases s.testBit n <;> simp [toZ, pick]
theorem ixs_lt (n s x : Nat) (h : x ∈ ixs n s) : x < n := List.mem_range.1 (List.mem_filter.1 h).1
theorem ixs_asc (n s : Nat) : Asc (toZ (ixs n s)) := by
  unfold toZ Asc
  rw [List.pairwise_map]
  exact ((List.pairwise_lt_range).filter _).imp fun h => by omega
theorem toZ_at (xs : List Nat) (j : Nat) (h : j < (toZ xs).length) : ∃ n : Nat, (toZ xs)[j] = (n : Int) ∧ n ∈ xs := by
  have h' : j < xs.length := by rw [← toZ_len]; exact h
  exact ⟨xs[j], by simp [toZ], List.getElem_mem h'⟩
theorem pick_take (zs xs : List Int) (j : Nat) (h : j < xs.length) : pick zs (xs.take (j + 1)) = pick zs (xs.take j) + zs.getD (xs[j]).toNat 0 := by
  rw [List.take_succ_eq_append_getElem h, pick_app]
  simp [pick]
theorem pick_in {zs : List Int} (hz : allZ zs = true) : ∀ xs : List Int, -(1125899906842624 * (xs.length : Int)) ≤ pick zs xs ∧ pick zs xs ≤ 1125899906842624 * (xs.length : Int)
  | [] => by simp [pick]
  | x :: xs => by
    have a := pick_in hz xs
    have b := okz_of hz x.toNat
    rw [pick, List.length_cons]; omega
end Go.Proofs.YtepcokgpepcccaaDoor
