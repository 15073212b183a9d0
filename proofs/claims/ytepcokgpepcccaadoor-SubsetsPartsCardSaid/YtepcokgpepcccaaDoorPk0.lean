/- Sets of indices as numbers: parts of sets, the order of parts (pure). -/
import Derived.Test.YtepcokgpepcccaaDoorMsw
namespace Go.Proofs.YtepcokgpepcccaaDoor
set_option linter.unusedVariables false
set_option linter.unusedSimpArgs false

/-- t has indices of s only. -/
def Sub (t s : Nat) : Prop := ∀ i, t.testBit i = true → s.testBit i = true
theorem Sub.refl (s : Nat) : Sub s s := fun _ h => h
theorem Sub.trans {a b c : Nat} (h : Sub a b) (k : Sub b c) : Sub a c := fun i x => k i (h i x)
theorem Sub.zero (s : Nat) : Sub 0 s := fun i h => by simp at h
theorem sub_and {t s : Nat} : Sub t s ↔ t &&& s = t := by
  constructor
  · intro h
    apply Nat.eq_of_testBit_eq
    intro i
    rw [Nat.testBit_and]
    cases hi : t.testBit i
    · rfl
    · rw [h i hi]; rfl
  · intro h i hi
    rw [← h, Nat.testBit_and] at hi
    simp only [Bool.and_eq_true] at hi
    exact hi.2
theorem sub_half {t s : Nat} (h : Sub t s) : Sub (t / 2) (s / 2) := fun i hi => by
  rw [Nat.testBit_div_two] at hi ⊢
  exact h _ hi
theorem sub_mod {t s : Nat} (h : Sub t s) : t % 2 ≤ s % 2 := by
  have := h 0
  rw [← Nat.mod_two_eq_one_iff_testBit_zero, ← Nat.mod_two_eq_one_iff_testBit_zero] at this
  omega
theorem Sub.le {t s : Nat} (h : Sub t s) : t ≤ s := by
  rw [← sub_and.1 h]
  exact Nat.and_le_right
theorem sub_minus : ∀ {s t : Nat}, Sub t s → s - t = s ^^^ t := by
  intro s
  induction s using Nat.strongRecOn with
  | ind s ih =>
    intro t h
    by_cases h0 : s = 0
    · subst h0
      have := h.le
      have : t = 0 := by omega
      subst this; rfl
    · have k := ih (s / 2) (by omega) (sub_half h)
      have m := sub_mod h
      have l := (sub_half h).le
      have e1 : (s ^^^ t) / 2 = s / 2 ^^^ t / 2 := Nat.xor_div_two
      have e2 : (s ^^^ t) % 2 = 1 ↔ ¬ (s % 2 = 1 ↔ t % 2 = 1) := Nat.xor_mod_two_eq_one
      rw [← k] at e1
      omega
theorem minus_bit {s t : Nat} (h : Sub t s) (i : Nat) : (s - t).testBit i = (s.testBit i && !t.testBit i) := by
  rw [sub_minus h, Nat.testBit_xor]
  have := h i
  cases hs : s.testBit i <;> cases ht : t.testBit i <;> simp_all
theorem Sub.minus {s t : Nat} (h : Sub t s) : Sub (s - t) s := fun i hi => by
  rw [minus_bit h] at hi
  simp only [Bool.and_eq_true] at hi
  exact hi.1
theorem sub_next : ∀ (m w w' : Nat), Sub w' m → Sub w m → w' < w → w' ≤ (w - 1) &&& m := by
  intro m
  induction m using Nat.strongRecOn with
  | ind m ih =>
    intro w w' h1 h2 hl
    have l1 := h1.le
    have l2 := h2.le
    have a1 := sub_half h1
    have a2 := sub_half h2
    have b1 := sub_mod h1
    have b2 := sub_mod h2
    have e1 : ((w - 1) &&& m) / 2 = (w - 1) / 2 &&& m / 2 := Nat.and_div_two
    have e2 : ((w - 1) &&& m) % 2 = 1 ↔ (w - 1) % 2 = 1 ∧ m % 2 = 1 := Nat.and_mod_two_eq_one
    have k := ih (m / 2) (by omega) (w / 2) (w' / 2) a1 a2
    by_cases hw : w % 2 = 1
    · have e3 : (w - 1) / 2 = w / 2 := by omega
      rw [e3, sub_and.1 a2] at e1
      omega
    · have e3 : (w - 1) / 2 = w / 2 - 1 := by omega
      rw [e3] at e1
      have := k (by omega)
      omega
theorem and_sub (w m : Nat) : Sub (w &&& m) m := fun i h => by
  rw [Nat.testBit_and] at h
  simp only [Bool.and_eq_true] at h
  exact h.2
theorem sm_minus {s t : Nat} (zs : List Int) (h : Sub t s) : ∀ n, sm zs s n = sm zs t n + sm zs (s - t) n
  | 0 => rfl
  | n + 1 => by
    rw [sm, sm, sm, sm_minus zs h n, minus_bit h n]
    have := h n
    cases hs : s.testBit n <;> cases ht : t.testBit n <;> simp_all <;> omega
/-- s comes before t: at the first index that only one of them has, s has it. -/
def Pr (s t : Nat) : Prop := ∃ i, s.testBit i = true ∧ t.testBit i = false ∧ ∀ j, j < i → s.testBit j = t.testBit j
theorem Pr.irr {s : Nat} (h : Pr s s) : False := by
  obtain ⟨i, a, b, -⟩ := h
  rw [a] at b; cases b
theorem Pr.trans {s t u : Nat} (h : Pr s t) (k : Pr t u) : Pr s u := by
  obtain ⟨i, a, b, c⟩ := h
  obtain ⟨j, d, e, f⟩ := k
  rcases Nat.lt_trichotomy i j with l | l | l
  · exact ⟨i, a, by rw [← f i l]; exact b, fun x hx => by rw [c x hx, f x (by omega)]⟩
  · subst l; rw [b] at d; cases d
  · exact ⟨j, by rw [c j l]; exact d, e, fun x hx => by rw [c x (by omega), f x hx]⟩
theorem pr_prec {s t : Nat} (hs : s < 1024) (ht : t < 1024) : prec s t = true ↔ Pr s t := by
  have hx : s ^^^ t < 1024 := Nat.xor_lt_two_pow (n := 10) hs ht
  constructor
  · intro h
    have hne : s ≠ t := fun e => by subst e; rw [prec_self] at h; cases h
    obtain ⟨i, l1, l2, l3⟩ := low_bit _ hx (xor_ne hne)
    rw [prec_bit l1] at h
    refine ⟨i, h, ?_, fun j hj => ?_⟩
    · rw [Nat.testBit_xor, h] at l2
      cases e : t.testBit i
      · rfl
      · rw [e] at l2; cases l2
    · have := l3 j hj
      rw [Nat.testBit_xor] at this
      revert this
      cases s.testBit j <;> cases t.testBit j <;> simp
  · rintro ⟨i, a, b, c⟩
    have hne : s ≠ t := fun e => by subst e; rw [a] at b; cases b
    obtain ⟨k, l1, l2, l3⟩ := low_bit _ hx (xor_ne hne)
    rw [prec_bit l1]
    rcases Nat.lt_trichotomy i k with l | l | l
    · have := l3 i l
      rw [Nat.testBit_xor, a, b] at this; cases this
    · rw [← l]; exact a
    · rw [Nat.testBit_xor, c k l] at l2
      revert l2
      cases t.testBit k <;> simp
theorem pr_total {s t : Nat} (hs : s < 1024) (ht : t < 1024) (h : s ≠ t) : Pr s t ∨ Pr t s := by
  have hx : s ^^^ t < 1024 := Nat.xor_lt_two_pow (n := 10) hs ht
  obtain ⟨i, l1, l2, l3⟩ := low_bit _ hx (xor_ne h)
  have hl : ∀ j, j < i → s.testBit j = t.testBit j := fun j hj => by
    have := l3 j hj
    rw [Nat.testBit_xor] at this
    revert this
    cases s.testBit j <;> cases t.testBit j <;> simp
  rw [Nat.testBit_xor] at l2
  cases a : s.testBit i <;> cases b : t.testBit i <;> rw [a, b] at l2
  · cases l2
  · exact .inr ⟨i, b, a, fun j hj => (hl j hj).symm⟩
  · exact .inl ⟨i, a, b, hl⟩
  · cases l2
theorem pr_not {s t : Nat} (h : Pr s t) (k : Pr t s) : False := (h.trans k).irr
/-- b is the first of the sets c with p (0 if there is none). -/
def IsFirst (q : Nat → Prop) (b : Nat) : Prop := (b = 0 ∨ q b) ∧ ∀ t, q t → b ≠ 0 ∧ (b = t ∨ Pr b t)
theorem IsFirst.uniq {q : Nat → Prop} {a b : Nat} (h0 : ¬ q 0) (h : IsFirst q a) (k : IsFirst q b) : a = b := by
  rcases h.1 with rfl | ha
  · rcases k.1 with rfl | hb
    · rfl
    · exact absurd rfl (h.2 b hb).1
  · rcases k.1 with rfl | hb
    · exact absurd rfl (k.2 a ha).1
    · rcases (h.2 b hb).2 with e | e
      · exact e
      · rcases (k.2 a ha).2 with e' | e'
        · exact e'.symm
        · exact (pr_not e e').elim
end Go.Proofs.YtepcokgpepcccaaDoor
