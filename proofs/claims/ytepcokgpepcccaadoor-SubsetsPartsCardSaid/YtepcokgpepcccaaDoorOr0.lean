/- Sets turned round, opposite numbers, a pair more (pure): sums and most parts. -/
import Derived.Test.YtepcokgpepcccaaDoorPr1
namespace Go.Proofs.YtepcokgpepcccaaDoor
set_option linter.unusedVariables false
set_option linter.unusedSimpArgs false
/-- The set below n of the indices with p. -/
def mkS (p : Nat → Bool) : Nat → Nat
  | 0 => 0
  | n + 1 => mkS p n + (if p n then 2 ^ n else 0)
theorem mkS_lt (p : Nat → Bool) : ∀ n, mkS p n < 2 ^ n
  | 0 => by simp [mkS]
  | n + 1 => by
    have := mkS_lt p n
    rw [mkS, Nat.pow_succ]
    split <;> omega
theorem mkS_bit (p : Nat → Bool) : ∀ n i, (mkS p n).testBit i = (decide (i < n) && p i)
  | 0, i => by simp [mkS]
  | n + 1, i => by
    have ih := mkS_bit p n
    have hl := mkS_lt p n
    rw [mkS]
    by_cases hp : p n = true
    · rw [if_pos hp, Nat.add_comm]
      rcases Nat.lt_trichotomy i n with h | h | h
      · rw [Nat.testBit_two_pow_add_gt h, ih i, decide_eq_true h, decide_eq_true (by omega : i < n + 1)]
      · subst h
        rw [Nat.testBit_two_pow_add_eq, ih i, hp]
        simp
      · have : 2 ^ n + mkS p n < 2 ^ i := by
          have := Nat.pow_le_pow_right (n := 2) (by omega) h
          rw [Nat.pow_succ] at this
          omega
        rw [Nat.testBit_lt_two_pow this, decide_eq_false (by omega)]
        rfl
    · rw [if_neg hp, Nat.add_zero, ih i]
      by_cases h : i = n
      · subst h; simp [hp]
      · have : decide (i < n + 1) = decide (i < n) := by rw [decide_eq_decide]; omega
        rw [this]
def sumTo (g : Nat → Int) : Nat → Int
  | 0 => 0
  | n + 1 => sumTo g n + g n
theorem sumTo_cong {f g : Nat → Int} : ∀ n, (∀ i, i < n → f i = g i) → sumTo f n = sumTo g n
  | 0, _ => rfl
  | n + 1, h => by rw [sumTo, sumTo, sumTo_cong n (fun i hi => h i (by omega)), h n (by omega)]
theorem sumTo_head (g : Nat → Int) : ∀ n, sumTo g (n + 1) = g 0 + sumTo (fun i => g (i + 1)) n
  | 0 => by simp [sumTo]
  | n + 1 => by rw [sumTo, sumTo_head g n, sumTo]; omega
theorem sumTo_rev : ∀ (n : Nat) (g : Nat → Int), sumTo (fun i => g (n - 1 - i)) n = sumTo g n
  | 0, _ => rfl
  | n + 1, g => by
    rw [sumTo_head, sumTo]
    have := sumTo_rev n g
    rw [show sumTo (fun i => g (n + 1 - 1 - (i + 1))) n = sumTo (fun i => g (n - 1 - i)) n from sumTo_cong n fun i hi => by congr 1; omega, this]
    simp
    omega
theorem sm_sumTo (zs : List Int) (s : Nat) : ∀ n, sm zs s n = sumTo (fun i => if s.testBit i then zs.getD i 0 else 0) n
  | 0 => rfl
  | n + 1 => by rw [sm, sumTo, sm_sumTo zs s n]
/-- The set turned round. -/
def rv (n s : Nat) : Nat := mkS (fun i => s.testBit (n - 1 - i)) n
theorem rv_lt (n s : Nat) : rv n s < 2 ^ n := mkS_lt _ _
theorem rv_bit (n s i : Nat) : (rv n s).testBit i = (decide (i < n) && s.testBit (n - 1 - i)) := mkS_bit _ _ _
theorem bit_hi {s n i : Nat} (h : s < 2 ^ n) (k : n ≤ i) : s.testBit i = false := Nat.testBit_lt_two_pow (Nat.lt_of_lt_of_le h (Nat.pow_le_pow_right (by omega) k))
theorem SF_rv (zs : List Int) (s : Nat) : SF zs.reverse (rv zs.length s) = SF zs s := by
  unfold SF
  rw [List.length_reverse, sm_sumTo, sm_sumTo, ← sumTo_rev zs.length fun i => if s.testBit i then zs.getD i 0 else 0]
  apply sumTo_cong
  intro i hi
  rw [rv_bit, decide_eq_true hi, Bool.true_and]
  congr 1
  simp only [List.getD_eq_getElem?_getD]
  rw [List.getElem?_reverse hi]
/-- Packs go over to other lists. -/
theorem Pack.map {F F' : Nat → Int} (φ : Nat → Nat) {N : Nat} (h1 : ∀ t s, s < N → Sub t s → Sub (φ t) (φ s)) (h2 : ∀ t, t < N → t ≠ 0 → φ t ≠ 0) (h3 : ∀ t, t < N → F t = 0 → F' (φ t) = 0) (h4 : ∀ t s, s < N → Sub t s → φ (s - t) = φ s - φ t)
    {s k : Nat} (h : Pack F s k) : s < N → Pack F' (φ s) k := by
  induction h with
  | zero s => intro _; exact .zero _
  | succ a b c d ih =>
    rename_i s t k
    intro hs
    have hl := a.le
    have := ih (by omega)
    rw [h4 t s hs a] at this
    exact .succ (h1 t s hs a) (h2 t (by omega) b) (h3 t (by omega) c) this
theorem rv_sub {n t s : Nat} (h : Sub t s) : Sub (rv n t) (rv n s) := fun i hi => by
  rw [rv_bit] at hi ⊢
  simp only [Bool.and_eq_true] at hi ⊢
  exact ⟨hi.1, h _ hi.2⟩
theorem rv_minus {n t s : Nat} (h : Sub t s) : rv n (s - t) = rv n s - rv n t := by
  apply Nat.eq_of_testBit_eq
  intro i
  rw [minus_bit (rv_sub h), rv_bit, rv_bit, rv_bit, minus_bit h]
  cases decide (i < n) <;> simp
theorem rv_ne {n t : Nat} (ht : t < 2 ^ n) (h : t ≠ 0) : rv n t ≠ 0 := fun e => by
  obtain ⟨i, hi⟩ := exists_bit h
  have hin : i < n := by
    apply Nat.lt_of_not_le
    intro k
    rw [bit_hi ht k] at hi; cases hi
  have := rv_bit n t (n - 1 - i)
  rw [e, Nat.zero_testBit, decide_eq_true (by omega), show n - 1 - (n - 1 - i) = i by omega, hi] at this
  cases this
theorem rv_all (n : Nat) : rv n (2 ^ n - 1) = 2 ^ n - 1 := by
  apply Nat.eq_of_testBit_eq
  intro i
  rw [rv_bit, Nat.testBit_two_pow_sub_one, Nat.testBit_two_pow_sub_one]
  by_cases h : i < n
  · rw [decide_eq_true h, decide_eq_true (by omega)]; rfl
  · rw [decide_eq_false h]; rfl
theorem pack_rev (zs : List Int) {k : Nat} (h : Pack (SF zs) (allS zs) k) : Pack (SF zs.reverse) (allS zs.reverse) k := by
  have := h.map (F' := SF zs.reverse) (rv zs.length) (N := 2 ^ zs.length) (fun t s _ k => rv_sub k) (fun t ht k => rv_ne ht k) (fun t _ k => by rw [SF_rv]; exact k) (fun t s _ k => rv_minus k) (by unfold allS; have := Nat.two_pow_pos zs.length; omega)
  rw [allS, rv_all] at this
  rw [allS, List.length_reverse]
  exact this
theorem SF_all_rev (zs : List Int) : SF zs.reverse (allS zs.reverse) = SF zs (allS zs) := by
  have := SF_rv zs (allS zs)
  rw [allS, rv_all] at this
  rw [allS, List.length_reverse]
  exact this
theorem sums_rev (zs : List Int) (x : Int) (h : x ∈ sums zs) : x ∈ sums zs.reverse := by
  rw [sums_mem] at h ⊢
  obtain ⟨s, hs, rfl⟩ := h
  exact ⟨rv zs.length s, by rw [List.length_reverse]; exact rv_lt _ _, SF_rv zs s⟩
theorem smz_reverse (zs : List Int) : smz zs.reverse = smz zs := by
  refine asc_eq (smz_asc _).1 (smz_asc _).1 fun x => ?_
  rw [(smz_asc _).2, (smz_asc _).2]
  refine ⟨fun h => ?_, sums_rev zs x⟩
  have := sums_rev _ x h
  rwa [List.reverse_reverse] at this
theorem pts_len {zs : List Int} (hl : zs.length ≤ 10) {r : Nat} {ps : List Nat} (h : Pts (SF zs) (MF zs) r ps) : r < 2 ^ zs.length → SF zs r = 0 → ps.length = MF zs r := by
  induction h with
  | nil =>
    intro hr _
    have := (MF_counts zs hl 0 hr).1.none
    rw [this]; rfl
  | cons a b c d ih =>
    rename_i rest p ps
    intro hr hz
    have hp := part_step hl hr a hz c
    have hle := hp.2.1.le
    have e := ih (by omega) hp.2.2
    rcases c.1 with k | k
    · exact absurd k b
    · have k4 := k.2.2.2
      rw [List.length_cons]; omega
theorem MF_rev (zs : List Int) (hl : zs.length ≤ 10) : MF zs.reverse (allS zs.reverse) = MF zs (allS zs) := by
  have a := MF_counts zs hl (allS zs) (by unfold allS; have := Nat.two_pow_pos zs.length; omega)
  have b := MF_counts zs.reverse (by rw [List.length_reverse]; exact hl) (allS zs.reverse) (by unfold allS; have := Nat.two_pow_pos zs.reverse.length; omega)
  have c := b.2 _ (pack_rev zs a.1)
  have d := pack_rev zs.reverse b.1
  rw [List.reverse_reverse] at d
  have := a.2 _ d
  omega
/-- Opposite numbers. -/
def ngl (zs : List Int) : List Int := zs.map fun x => -x
theorem ngl_len (zs : List Int) : (ngl zs).length = zs.length := by simp [ngl]
theorem sm_ngl (zs : List Int) (s : Nat) : ∀ n, sm (ngl zs) s n = - sm zs s n
  | 0 => rfl
  | n + 1 => by
    have e : (ngl zs).getD n 0 = - zs.getD n 0 := by
      simp only [ngl, List.getD_eq_getElem?_getD, List.getElem?_map]
      cases zs[n]? <;> simp
    rw [sm, sm, sm_ngl zs s n, e]
    split <;> omega
theorem SF_ngl (zs : List Int) (s : Nat) : SF (ngl zs) s = - SF zs s := by unfold SF; rw [ngl_len]; exact sm_ngl zs s _
theorem smz_ngl (zs : List Int) : smz zs = ((smz (ngl zs)).map fun x => -x).reverse := by
  refine asc_eq (smz_asc zs).1 ?_ fun x => ?_
  · rw [Asc, List.pairwise_reverse, List.pairwise_map]
    exact (smz_asc (ngl zs)).1.imp fun h => by omega
  · rw [List.mem_reverse, List.mem_map, smz_mem]
    constructor
    · rintro ⟨s, hs, rfl⟩
      exact ⟨- SF zs s, (smz_mem _ _).2 ⟨s, by rw [ngl_len]; exact hs, SF_ngl zs s⟩, by omega⟩
    · rintro ⟨y, hy, rfl⟩
      obtain ⟨s, hs, rfl⟩ := (smz_mem _ _).1 hy
      exact ⟨s, by rw [ngl_len] at hs; exact hs, by rw [SF_ngl]; omega⟩
theorem smz_ngl_len (zs : List Int) : (smz (ngl zs)).length = (smz zs).length := by
  have := congrArg List.length (smz_ngl zs)
  simpa using this.symm
theorem smz_ngl_at (zs : List Int) (i : Nat) (h : i < (smz zs).length) (h2 : (smz zs).length - 1 - i < (smz (ngl zs)).length) : (smz zs)[i] = - (smz (ngl zs))[(smz zs).length - 1 - i] := by
  have e := smz_ngl zs
  have hl := smz_ngl_len zs
  have k : (smz zs)[i]? = (((smz (ngl zs)).map fun x => -x).reverse)[i]? := by rw [← e]
  rw [List.getElem?_reverse (by rw [List.length_map, hl]; exact h), List.getElem?_map, List.length_map, hl, List.getElem?_eq_getElem h, List.getElem?_eq_getElem h2] at k
  simpa using k
theorem mtab_cong {S S' : List Int} : ∀ n, (∀ s, s < n → (S.getD s 0 == 0) = (S'.getD s 0 == 0)) → mtab S n = mtab S' n
  | 0, _ => rfl
  | n + 1, h => by rw [mtab, mtab, mtab_cong n (fun s hs => h s (by omega)), h n (by omega)]
theorem MF_ngl (zs : List Int) : MF (ngl zs) = MF zs := by
  unfold MF
  rw [ngl_len]
  apply mtab_cong
  intro s hs
  rw [sums_getD zs s hs, sums_getD (ngl zs) s (by rw [ngl_len]; exact hs), ngl_len, sm_ngl]
  rw [Bool.eq_iff_iff, beq_iff_eq, beq_iff_eq]
  omega
theorem pts_cong {F F' : Nat → Int} {M : Nat → Nat} (h : ∀ t, F t = 0 ↔ F' t = 0) {r : Nat} {ps : List Nat} (k : Pts F M r ps) : Pts F' M r ps := by
  induction k with
  | nil => exact .nil
  | cons a b c d ih =>
    refine .cons a b (first_cong (fun t => ?_) c) ih
    unfold cand
    rw [h t]
theorem pts_ngl {zs : List Int} {ps qs : List Nat} (h : Pts (SF zs) (MF zs) (allS zs) ps) (k : Pts (SF (ngl zs)) (MF (ngl zs)) (allS (ngl zs)) qs) (hl : zs.length ≤ 10) : ps = qs := by
  rw [MF_ngl, allS, ngl_len] at k
  have k2 := pts_cong (F' := SF zs) (fun t => by rw [SF_ngl]; omega) k
  refine h.uniq ?_ k2
  have : 2 ^ zs.length ≤ 1024 := Nat.pow_le_pow_right (n := 2) (by omega) hl
  unfold allS
  have := Nat.two_pow_pos zs.length
  omega
/-- A number more, and its opposite. -/
def plus2 (zs : List Int) (m : Int) : List Int := zs ++ [m, -m]
theorem sm_plus2 (zs : List Int) (m : Int) (s : Nat) : ∀ n, n ≤ zs.length → sm (plus2 zs m) s n = sm zs s n
  | 0, _ => rfl
  | n + 1, h => by
    have e : (plus2 zs m).getD n 0 = zs.getD n 0 := by
      simp only [plus2, List.getD_eq_getElem?_getD]
      rw [List.getElem?_append_left (by omega)]
    rw [sm, sm, sm_plus2 zs m s n (by omega), e]
theorem plus2_len (zs : List Int) (m : Int) : (plus2 zs m).length = zs.length + 2 := by simp [plus2]
theorem SF_plus2 (zs : List Int) (m : Int) (s : Nat) : SF (plus2 zs m) s = SF zs s + (if s.testBit zs.length then m else 0) + (if s.testBit (zs.length + 1) then -m else 0) := by
  unfold SF
  rw [plus2_len, sm, sm, sm_plus2 zs m s _ (Nat.le_refl _)]
  have e1 : (plus2 zs m).getD zs.length 0 = m := by simp [plus2, List.getD_eq_getElem?_getD]
  have e2 : (plus2 zs m).getD (zs.length + 1) 0 = -m := by
    simp only [plus2, List.getD_eq_getElem?_getD]
    rw [List.getElem?_append_right (by omega)]
    simp [show zs.length + 1 - zs.length = 1 by omega]
  rw [e1, e2]
theorem SF_plus2_low (zs : List Int) (m : Int) (s : Nat) (h : s < 2 ^ zs.length) : SF (plus2 zs m) s = SF zs s := by
  rw [SF_plus2, bit_hi h (Nat.le_refl _), bit_hi h (Nat.le_succ _)]
  simp
theorem SF_plus2_all (zs : List Int) (m : Int) : SF (plus2 zs m) (allS (plus2 zs m)) = SF zs (allS zs) := by
  rw [SF_plus2, allS, plus2_len, Nat.testBit_two_pow_sub_one, Nat.testBit_two_pow_sub_one, decide_eq_true (by omega), decide_eq_true (by omega)]
  have : SF zs (2 ^ (zs.length + 2) - 1) = SF zs (allS zs) := sm_bits zs _ _ _ fun i hi => by
    rw [allS, Nat.testBit_two_pow_sub_one, Nat.testBit_two_pow_sub_one, decide_eq_true hi, decide_eq_true (by omega)]
  rw [this]
  simp
  omega
theorem pack_plus2 (zs : List Int) (m : Int) {k : Nat} (h : Pack (SF zs) (allS zs) k) (hz : SF zs (allS zs) = 0) : Pack (SF (plus2 zs m)) (allS (plus2 zs m)) (k + 1) := by
  have hp := Nat.two_pow_pos zs.length
  have h1 := h.map (F' := SF (plus2 zs m)) id (N := 2 ^ zs.length) (fun t s _ k => k) (fun t _ k => k) (fun t ht k => by rw [id, SF_plus2_low zs m t ht]; exact k) (fun t s _ k => rfl) (by unfold allS; omega)
  have hsub : Sub (allS zs) (allS (plus2 zs m)) := fun i hi => by
    rw [allS, Nat.testBit_two_pow_sub_one] at hi
    rw [allS, plus2_len, Nat.testBit_two_pow_sub_one]
    have := of_decide_eq_true hi
    exact decide_eq_true (by omega)
  refine h1.more (SF_adds _) hsub ?_ (by rw [SF_plus2_all]; exact hz)
  show allS zs ≠ allS (plus2 zs m)
  unfold allS
  rw [plus2_len, Nat.pow_add]
  omega
end Go.Proofs.YtepcokgpepcccaaDoor
