/- Sets taken apart into sets with the sum 0 (pure): the table of most parts counts them. -/
import Derived.Test.YtepcokgpepcccaaDoorPk1
namespace Go.Proofs.YtepcokgpepcccaaDoor
set_option linter.unusedVariables false
set_option linter.unusedSimpArgs false

theorem sub_bit {s i : Nat} (h : s.testBit i = true) : Sub (2 ^ i) s := fun j hj => by
  rw [Nat.testBit_two_pow] at hj
  have : i = j := by simpa using hj
  subst this; exact h
theorem bit_of_sub {s i : Nat} (h : Sub (2 ^ i) s) : s.testBit i = true := h i (by rw [Nat.testBit_two_pow]; simp)
theorem exists_bit {s : Nat} (h : s ≠ 0) : ∃ i, s.testBit i = true := by
  apply Classical.byContradiction
  intro k
  apply h
  apply Nat.eq_of_testBit_eq
  intro i
  rw [Nat.zero_testBit]
  cases e : s.testBit i
  · rfl
  · exact absurd ⟨i, e⟩ k
theorem minus_sub {s t u : Nat} (h : Sub t s) (k : Sub s u) : Sub (s - t) (u - t) := fun i hi => by
  rw [minus_bit h] at hi
  rw [minus_bit (h.trans k)]
  simp only [Bool.and_eq_true] at hi ⊢
  exact ⟨k i hi.1, hi.2⟩
theorem sub_of_apart {a b s : Nat} (h : Sub a s) (hb : Sub b s) (k : ∀ i, a.testBit i = true → b.testBit i = false) : Sub a (s - b) := fun i hi => by
  rw [minus_bit hb, h i hi, k i hi]; rfl
theorem minus_apart {s t : Nat} (h : Sub t s) {i : Nat} (hi : (s - t).testBit i = true) : t.testBit i = false := by
  rw [minus_bit h] at hi
  simp only [Bool.and_eq_true, Bool.not_eq_true'] at hi
  exact hi.2
theorem minus_comm (s t u : Nat) : s - t - u = s - u - t := by omega
theorem apart_sym {a s b : Nat} (h : Sub a (s - b)) (hb : Sub b s) : Sub b (s - a) := by
  refine sub_of_apart hb (h.trans hb.minus) fun i hi => ?_
  cases e : a.testBit i
  · rfl
  · have := minus_apart hb (h i e)
    rw [hi] at this; cases this
/-- Sums of sets. -/
def Adds (F : Nat → Int) : Prop := F 0 = 0 ∧ ∀ s t, Sub t s → F s = F t + F (s - t)
theorem sm_zero (zs : List Int) : ∀ n, sm zs 0 n = 0
  | 0 => rfl
  | n + 1 => by rw [sm, sm_zero zs n, Nat.zero_testBit]; rfl
theorem sm_adds (zs : List Int) (n : Nat) : Adds fun s => sm zs s n := ⟨sm_zero zs n, fun s t h => sm_minus zs h n⟩
/-- k sets that are not empty, with the sum 0, and no index in common, are in s. -/
inductive Pack (F : Nat → Int) : Nat → Nat → Prop
  | zero (s : Nat) : Pack F s 0
  | succ {s t k : Nat} : Sub t s → t ≠ 0 → F t = 0 → Pack F (s - t) k → Pack F s (k + 1)
theorem Pack.mono {F : Nat → Int} {s k : Nat} (h : Pack F s k) : ∀ {u : Nat}, Sub s u → Pack F u k := by
  induction h with
  | zero s => intro u _; exact .zero u
  | succ a b c d ih => intro u hu; exact .succ (a.trans hu) b c (ih (minus_sub a hu))
theorem Pack.none {F : Nat → Int} {k : Nat} (h : Pack F 0 k) : k = 0 := by
  cases h with
  | zero => rfl
  | succ a b c d => exact absurd (Nat.le_zero.1 a.le) b
theorem Pack.more {F : Nat → Int} (hF : Adds F) {s k : Nat} (h : Pack F s k) : ∀ {u : Nat}, Sub s u → s ≠ u → F u = 0 → Pack F u (k + 1) := by
  induction h with
  | zero s =>
    intro u h1 h2 h3
    refine .succ (Sub.refl u) (fun e => h2 ?_) h3 (.zero _)
    subst e
    exact Nat.le_zero.1 h1.le
  | succ a b c d ih =>
    rename_i s t k
    intro u h1 h2 h3
    refine .succ (a.trans h1) b c (ih (minus_sub a h1) (fun e => h2 ?_) ?_)
    · have := a.le
      have := h1.le
      omega
    · have := hF.2 u t (a.trans h1)
      omega
theorem Pack.pick {F : Nat → Int} (hF : Adds F) : ∀ {k s i : Nat}, F s = 0 → Pack F s (k + 1) → s.testBit i = true → ∃ t, Sub t s ∧ t.testBit i = true ∧ F t = 0 ∧ Pack F (s - t) k := by
  intro k
  induction k with
  | zero => intro s i h1 h2 h3; exact ⟨s, Sub.refl s, h3, h1, .zero _⟩
  | succ k ih =>
    intro s i h1 h2 h3
    cases h2 with
    | succ a b c d =>
      rename_i t
      cases e : t.testBit i
      · have f0 : F (s - t) = 0 := by have := hF.2 s t a; omega
        obtain ⟨v, v1, v2, v3, v4⟩ := ih f0 d (by rw [minus_bit a, h3, e]; rfl)
        refine ⟨v, v1.trans a.minus, v2, v3, ?_⟩
        rw [minus_comm] at v4
        exact .succ (apart_sym v1 a) b c v4
      · exact ⟨t, a, e, c, d⟩
theorem Pack.drop {F : Nat → Int} (hF : Adds F) {n k : Nat} (h : Pack F n k) : n ≠ 0 → ∃ i, n.testBit i = true ∧ (Pack F (n - 2 ^ i) k ∨ (F n = 0 ∧ Pack F (n - 2 ^ i) (k - 1))) := by
  induction h with
  | zero s =>
    intro h0
    obtain ⟨i, hi⟩ := exists_bit h0
    exact ⟨i, hi, .inl (.zero _)⟩
  | succ a b c d ih =>
    rename_i s t k
    intro h0
    by_cases e : s - t = 0
    · have : t = s := by have := a.le; omega
      subst this
      rw [e] at d
      have := d.none
      subst this
      obtain ⟨i, hi⟩ := exists_bit h0
      exact ⟨i, hi, .inr ⟨c, .zero _⟩⟩
    · obtain ⟨i, hi, h⟩ := ih e
      have hs : s.testBit i = true := a.minus i hi
      have ht : Sub t (s - 2 ^ i) := apart_sym (sub_bit hi) a
      refine ⟨i, hs, ?_⟩
      rcases h with h | ⟨h1, h2⟩
      · left
        rw [minus_comm] at h
        exact .succ ht b c h
      · right
        refine ⟨by have := hF.2 s t a; omega, ?_⟩
        rw [minus_comm] at h2
        cases k with
        | zero => exact .zero _
        | succ k => exact .succ ht b c h2
theorem mx_ge (f : Nat → Nat) (s j : Nat) (hj : s.testBit j = true) : ∀ i, j < i → f (s - 2 ^ j) ≤ mx f s i
  | 0, h => by omega
  | i + 1, h => by
    rw [mx]
    by_cases e : j = i
    · subst e
      rw [if_pos hj]; exact Nat.le_max_right _ _
    · have := mx_ge f s j hj i (by omega)
      split
      · exact Nat.le_trans this (Nat.le_max_left _ _)
      · exact this
theorem mx_is (f : Nat → Nat) (s : Nat) : ∀ i, mx f s i = 0 ∨ ∃ j, s.testBit j = true ∧ mx f s i = f (s - 2 ^ j)
  | 0 => .inl rfl
  | i + 1 => by
    have ih := mx_is f s i
    rw [mx]
    split
    · rename_i h
      rcases Nat.le_total (mx f s i) (f (s - 2 ^ i)) with k | k
      · rw [Nat.max_eq_right k]; exact .inr ⟨i, h, rfl⟩
      · rw [Nat.max_eq_left k]; exact ih
    · exact ih
theorem bit_lt {s i : Nat} (hs : s < 1024) (h : s.testBit i = true) : i < 10 := by
  apply Nat.lt_of_not_le
  intro k
  rw [Nat.testBit_lt_two_pow (Nat.lt_of_lt_of_le hs (Nat.le_trans (by decide : 1024 ≤ 2 ^ 10) (Nat.pow_le_pow_right (by omega) k)))] at h
  cases h
theorem mtab_pack {F : Nat → Int} (hF : Adds F) (S : List Int) (N : Nat) (hN : N ≤ 1024) (hS : ∀ s, s < N → S.getD s 0 = F s) : ∀ n, n ≤ N → ∀ s, s < n → Pack F s (mtab S n s) ∧ ∀ k, Pack F s k → k ≤ mtab S n s
  | 0, _, s, h => by omega
  | n + 1, hn, s, h => by
    have ih := mtab_pack hF S N hN hS n (by omega)
    rw [mtab]
    by_cases e : s = n
    · subst e
      rw [upd_same, hS s (by omega)]
      by_cases h0 : s = 0
      · subst h0
        have e0 : mx (mtab S 0) 0 10 = 0 := mx_more _ 0 0 10 (by decide) (by decide)
        rw [e0]
        exact ⟨.zero _, fun k hk => by rw [hk.none]; exact Nat.zero_le _⟩
      · have hlt : ∀ i, s.testBit i = true → s - 2 ^ i < s := fun i hi => by
          have := (sub_bit hi).le
          have := Nat.two_pow_pos i
          omega
        constructor
        · by_cases c : F s = 0
          · rw [if_pos (by simp [h0, c])]
            rcases mx_is (mtab S s) s 10 with k | ⟨j, hj, k⟩
            · rw [k]
              exact (Pack.zero 0).more hF (Sub.zero s) (Ne.symm h0) c
            · rw [k]
              have l := hlt j hj
              exact (ih _ l).1.more hF (sub_bit hj).minus (by omega) c
          · rw [if_neg (by simp [c])]
            rcases mx_is (mtab S s) s 10 with k | ⟨j, hj, k⟩
            · rw [k]; exact .zero _
            · rw [k]; exact (ih _ (hlt j hj)).1.mono (sub_bit hj).minus
        · intro k hk
          obtain ⟨i, hi, h⟩ := hk.drop hF h0
          have hb := bit_lt (by omega) hi
          have g := mx_ge (mtab S s) s i hi 10 hb
          have u := (ih _ (hlt i hi)).2
          rcases h with h | ⟨c, h⟩
          · have := u _ h; omega
          · have := u _ h
            rw [if_pos (by simp [h0, c])]; omega
    · rw [upd_other e]
      exact ih s (by omega)
theorem bit_low {s : Nat} (hs : s < 1024) (h : s ≠ 0) : ∃ i, s.testBit i = true ∧ low s = 2 ^ i := by
  obtain ⟨i, l1, l2, l3⟩ := low_bit s hs h
  exact ⟨i, l2, l1⟩
/-- Whether a table counts the parts of the sets below N. -/
def Counts (F : Nat → Int) (M : Nat → Nat) (N : Nat) : Prop := ∀ s, s < N → Pack F s (M s) ∧ ∀ k, Pack F s k → k ≤ M s
theorem cand_ex {F : Nat → Int} {M : Nat → Nat} {N rest : Nat} (hF : Adds F) (hM : Counts F M N) (hN : N ≤ 1024) (hr : rest < N) (h0 : rest ≠ 0) (hz : F rest = 0) : ∃ t, cand F M rest t := by
  obtain ⟨i, hi, hl⟩ := bit_low (by omega) h0
  obtain ⟨a, b⟩ := hM rest hr
  have h1 : 1 ≤ M rest := b 1 ((Pack.zero 0).more hF (Sub.zero rest) (Ne.symm h0) hz)
  obtain ⟨m, hm⟩ : ∃ m, M rest = m + 1 := ⟨M rest - 1, by omega⟩
  rw [hm] at a
  obtain ⟨t, t1, t2, t3, t4⟩ := Pack.pick hF hz a hi
  have tl := t1.le
  obtain ⟨c, d⟩ := hM (rest - t) (by omega)
  have e1 := d _ t4
  have t0 : t ≠ 0 := fun e => by subst e; simp at t2
  have e2 := b _ (.succ t1 t0 t3 c)
  exact ⟨t, t1, by rw [hl]; exact sub_bit t2, t3, by omega⟩
theorem cand_zero {F : Nat → Int} {M : Nat → Nat} {rest : Nat} (hr : rest < 1024) (h0 : rest ≠ 0) : ¬ cand F M rest 0 := fun h => by
  obtain ⟨i, hi, hl⟩ := bit_low hr h0
  have := h.2.1
  rw [hl] at this
  have := bit_of_sub this
  simp at this
/-- The parts of a set, one after the other. -/
inductive Pts (F : Nat → Int) (M : Nat → Nat) : Nat → List Nat → Prop
  | nil : Pts F M 0 []
  | cons {rest p : Nat} {ps : List Nat} : rest ≠ 0 → p ≠ 0 → IsFirst (cand F M rest) p → Pts F M (rest - p) ps → Pts F M rest (p :: ps)
theorem Pts.uniq {F : Nat → Int} {M : Nat → Nat} {rest : Nat} {ps : List Nat} (h : Pts F M rest ps) : ∀ {qs : List Nat}, rest < 1024 → Pts F M rest qs → ps = qs := by
  induction h with
  | nil =>
    intro qs _ k
    cases k with
    | nil => rfl
    | cons a _ _ _ => exact absurd rfl a
  | cons a b c d ih =>
    intro qs hr k
    cases k with
    | nil => exact absurd rfl a
    | cons a' b' c' d' =>
      have := IsFirst.uniq (cand_zero hr a) c c'
      subst this
      rw [ih (by omega) d']
end Go.Proofs.YtepcokgpepcccaaDoor
