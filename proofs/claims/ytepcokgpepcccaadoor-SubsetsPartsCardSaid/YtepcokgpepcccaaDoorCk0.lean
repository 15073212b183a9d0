/- What Check checks (pure). -/
import Derived.Test.YtepcokgpepcccaaDoorOr0
namespace Go.Proofs.YtepcokgpepcccaaDoor
set_option linter.unusedVariables false
set_option linter.unusedSimpArgs false
/-- The indices ascend, and are those of n numbers. -/
def okL (n : Nat) (xs : List Int) : Prop := Asc xs ∧ ∀ x ∈ xs, 0 ≤ x ∧ x < (n : Int)
instance (n : Nat) (xs : List Int) : Decidable (okL n xs) := inferInstanceAs (Decidable (_ ∧ _))
/-- The set of the indices. -/
def mOf (n : Nat) (xs : List Int) : Nat := mkS (fun i => decide ((i : Int) ∈ xs)) n
theorem mOf_lt (n : Nat) (xs : List Int) : mOf n xs < 2 ^ n := mkS_lt _ _
theorem mOf_bit (n : Nat) (xs : List Int) (i : Nat) : (mOf n xs).testBit i = (decide (i < n) && decide ((i : Int) ∈ xs)) := mkS_bit _ _ _
theorem mOf_nil (n : Nat) : mOf n [] = 0 := by
  apply Nat.eq_of_testBit_eq
  intro i
  rw [mOf_bit]; simp
theorem mOf_snoc (n x : Nat) (xs : List Int) (h : x < n) : mOf n (xs ++ [(x : Int)]) = mOf n xs ||| 2 ^ x := by
  apply Nat.eq_of_testBit_eq
  intro i
  rw [Nat.testBit_or, mOf_bit, mOf_bit, Nat.testBit_two_pow, Bool.eq_iff_iff]
  simp only [Bool.and_eq_true, Bool.or_eq_true, decide_eq_true_eq, List.mem_append, List.mem_singleton]
  constructor
  · rintro ⟨h1, h2 | h2⟩
    · exact .inl ⟨h1, h2⟩
    · exact .inr (by omega)
  · rintro (⟨h1, h2⟩ | h2)
    · exact ⟨h1, .inl h2⟩
    · exact ⟨by omega, .inr (by omega)⟩
theorem ixs_mem (n s i : Nat) : i ∈ ixs n s ↔ i < n ∧ s.testBit i = true := by
  unfold ixs; rw [List.mem_filter, List.mem_range]
theorem toZ_mem (xs : List Nat) (x : Int) : x ∈ toZ xs ↔ ∃ n, n ∈ xs ∧ (n : Int) = x := by
  unfold toZ; rw [List.mem_map]
theorem okL_ixs {n : Nat} {xs : List Int} (h : okL n xs) : xs = toZ (ixs n (mOf n xs)) := by
  refine asc_eq h.1 (ixs_asc _ _) fun x => ?_
  rw [toZ_mem]
  constructor
  · intro hx
    obtain ⟨h1, h2⟩ := h.2 x hx
    refine ⟨x.toNat, (ixs_mem _ _ _).2 ⟨by omega, ?_⟩, by omega⟩
    rw [mOf_bit, decide_eq_true (by omega), Bool.true_and, decide_eq_true_iff, show ((x.toNat : Nat) : Int) = x by omega]
    exact hx
  · rintro ⟨i, hi, rfl⟩
    have := ((ixs_mem _ _ _).1 hi).2
    rw [mOf_bit, Bool.and_eq_true, decide_eq_true_iff, decide_eq_true_iff] at this
    exact this.2
theorem okL_pick {zs xs : List Int} (h : okL zs.length xs) : pick zs xs = SF zs (mOf zs.length xs) := by
  have e := pick_ixs zs (mOf zs.length xs) zs.length
  rw [← okL_ixs h] at e
  exact e
theorem okL_of (n s : Nat) : okL n (toZ (ixs n s)) := ⟨ixs_asc _ _, fun x hx => by
  obtain ⟨i, hi, rfl⟩ := (toZ_mem _ _).1 hx
  have := ((ixs_mem _ _ _).1 hi).1
  omega⟩
theorem mOf_of (n s : Nat) (h : s < 2 ^ n) : mOf n (toZ (ixs n s)) = s := by
  apply Nat.eq_of_testBit_eq
  intro i
  rw [mOf_bit]
  by_cases hi : i < n
  · rw [decide_eq_true hi, Bool.true_and, Bool.eq_iff_iff, decide_eq_true_iff, toZ_mem]
    constructor
    · rintro ⟨j, hj, e⟩
      have : j = i := by omega
      subst this
      exact ((ixs_mem _ _ _).1 hj).2
    · intro k
      exact ⟨i, (ixs_mem _ _ _).2 ⟨hi, k⟩, rfl⟩
  · rw [decide_eq_false hi, bit_hi h (by omega)]; rfl
theorem okL_len {n : Nat} {xs : List Int} (h : okL n xs) : xs.length ≤ n := by
  rw [okL_ixs h, toZ_len]
  exact ixs_len _ _
/-- What is left of a set when the parts are taken, one after the other. -/
inductive Chk (zs : List Int) : Nat → List (List Int) → Nat → Prop
  | nil (r : Nat) : Chk zs r [] r
  | cons {r r' : Nat} {xs : List Int} {ls : List (List Int)} : okL zs.length xs → Sub (mOf zs.length xs) r → mOf zs.length xs &&& low r ≠ 0 → pick zs xs = 0 → Chk zs (r - mOf zs.length xs) ls r' → Chk zs r (xs :: ls) r'
theorem Chk.pack {zs : List Int} {r r' : Nat} {ls : List (List Int)} (h : Chk zs r ls r') : Pack (SF zs) r ls.length := by
  induction h with
  | nil r => exact .zero r
  | cons a b c d e ih =>
    refine .succ b (fun k => c (by rw [k, Nat.zero_and])) ?_ ih
    rw [← okL_pick a]; exact d
theorem Chk.uniq {zs : List Int} {r a : Nat} {ls : List (List Int)} (h : Chk zs r ls a) : ∀ {b : Nat}, Chk zs r ls b → a = b := by
  induction h with
  | nil r => intro b k; cases k; rfl
  | cons _ _ _ _ _ ih => intro b k; cases k with | cons _ _ _ _ e => exact ih e
theorem pts_chk {zs : List Int} (hl : zs.length ≤ 10) {r : Nat} {ps : List Nat} (h : Pts (SF zs) (MF zs) r ps) : r < 2 ^ zs.length → SF zs r = 0 → Chk zs r (lists ps) 0 := by
  have h10 : 2 ^ zs.length ≤ 1024 := Nat.pow_le_pow_right (n := 2) (by omega) hl
  induction h with
  | nil => intro _ _; exact .nil 0
  | cons a b c d ih =>
    rename_i rest p ps
    intro hr hz
    have hp := part_step hl hr a hz c
    have hpl := hp.2.1.le
    rcases c.1 with k | k
    · exact absurd k b
    · have hx := ixs_more zs.length 10 p (by omega) hl
      have hm := mOf_of zs.length p (by omega)
      have lo := low_sub (s := rest) (by omega) a
      have := ih (by omega) hp.2.2
      show Chk zs rest (toZ (ixs 10 p) :: lists ps) 0
      rw [hx]
      refine .cons (okL_of _ _) (by rw [hm]; exact hp.2.1) ?_ ?_ (by rw [hm]; exact this)
      · rw [hm, Nat.and_comm, sub_and.1 k.2.1]; exact lo.2
      · rw [okL_pick (okL_of _ _), hm]; exact k.2.2.1
end Go.Proofs.YtepcokgpepcccaaDoor
