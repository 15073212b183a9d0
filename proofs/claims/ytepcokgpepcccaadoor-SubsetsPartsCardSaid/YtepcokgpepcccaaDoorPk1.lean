/- The first part of a set (pure), and the search for it, part by part. -/
import Derived.Test.YtepcokgpepcccaaDoorPk0
namespace Go.Proofs.YtepcokgpepcccaaDoor
set_option linter.unusedVariables false
set_option linter.unusedSimpArgs false

theorem bitsAndNot_nat (a b : Nat) (h : Sub b a) (ha : a < 1024) : bits BinOp.andNot IntKind.u64 (a : Int) (b : Int) = ((a - b : Nat) : Int) := by
  have hb := h.le
  have h1 : (BitVec.ofInt 64 (a : Int)).toNat = a := by
    rw [BitVec.ofInt_natCast, BitVec.toNat_ofNat]; exact Nat.mod_eq_of_lt (by omega)
  have h2 : (BitVec.ofInt 64 (b : Int)).toNat = b := by
    rw [BitVec.ofInt_natCast, BitVec.toNat_ofNat]; exact Nat.mod_eq_of_lt (by omega)
  have e : (BitVec.ofInt 64 (a : Int) &&& ~~~ BitVec.ofInt 64 (b : Int)).toNat = a - b := by
    apply Nat.eq_of_testBit_eq
    intro i
    rw [BitVec.testBit_toNat, BitVec.getLsbD_and, BitVec.getLsbD_not, ← BitVec.testBit_toNat, ← BitVec.testBit_toNat, h1, h2, minus_bit h]
    by_cases hi : i < 64
    · simp [hi]
    · rw [Nat.testBit_lt_two_pow (x := a) (i := i) (Nat.lt_of_lt_of_le ha (Nat.le_trans (by decide : 1024 ≤ 2 ^ 64) (Nat.pow_le_pow_right (by omega) (by omega))))]
      simp
  show IntKind.u64.wrap ((BitVec.ofInt 64 (a : Int) &&& ~~~ BitVec.ofInt 64 (b : Int)).toNat : Int) = _
  rw [e, IntKind.wrap_u64]
  omega
def Seen (Q : Nat → Prop) (st others lo t : Nat) : Prop := Q t ∧ ∃ y, Sub y others ∧ lo ≤ y ∧ t = st ||| y
theorem first_cong {q q' : Nat → Prop} {b : Nat} (e : ∀ t, q t ↔ q' t) (h : IsFirst q b) : IsFirst q' b :=
  ⟨h.1.imp id (e b).1, fun t ht => h.2 t ((e t).2 ht)⟩
theorem seen_start (Q : Nat → Prop) (st others : Nat) : IsFirst (Seen Q st others (others + 1)) 0 :=
  ⟨.inl rfl, fun t ⟨_, y, h1, h2, _⟩ => by have := h1.le; omega⟩
theorem seen_skip {Q : Nat → Prop} {st others x b : Nat} (hq : ¬ Q (st ||| x)) (h : IsFirst (Seen Q st others (x + 1)) b) : IsFirst (Seen Q st others x) b :=
  first_cong (fun t => ⟨fun ⟨q, y, a, l, e⟩ => ⟨q, y, a, by omega, e⟩, fun ⟨q, y, a, l, e⟩ => ⟨q, y, a, by
    by_cases k : y = x
    · subst k; subst e; exact absurd q hq
    · omega, e⟩⟩) h
theorem seen_lt {Q : Nat → Prop} {st others x t : Nat} (h : Seen Q st others x t) : Seen Q st others (x + 1) t ∨ t = st ||| x := by
  obtain ⟨q, y, a, l, e⟩ := h
  by_cases k : y = x
  · subst k; exact .inr e
  · exact .inl ⟨q, y, a, by omega, e⟩
theorem seen_take0 {Q : Nat → Prop} {st others x : Nat} (hx : Sub x others) (hq : Q (st ||| x)) (h0 : st ||| x ≠ 0) (h : IsFirst (Seen Q st others (x + 1)) 0) : IsFirst (Seen Q st others x) (st ||| x) :=
  ⟨.inr ⟨hq, x, hx, Nat.le_refl _, rfl⟩, fun t ht => by
    rcases seen_lt ht with k | k
    · exact absurd rfl (h.2 t k).1
    · exact ⟨h0, .inl k.symm⟩⟩
theorem seen_take {Q : Nat → Prop} {st others x b : Nat} (hx : Sub x others) (hq : Q (st ||| x)) (h0 : st ||| x ≠ 0) (hp : Pr (st ||| x) b) (h : IsFirst (Seen Q st others (x + 1)) b) : IsFirst (Seen Q st others x) (st ||| x) :=
  ⟨.inr ⟨hq, x, hx, Nat.le_refl _, rfl⟩, fun t ht => by
    rcases seen_lt ht with k | k
    · refine ⟨h0, .inr ?_⟩
      rcases (h.2 t k).2 with rfl | e
      · exact hp
      · exact hp.trans e
    · exact ⟨h0, .inl k.symm⟩⟩
theorem seen_keep {Q : Nat → Prop} {st others x b : Nat} (hb0 : b ≠ 0) (hb : b < 1024) (hp : st ||| x < 1024) (hn : ¬ Pr (st ||| x) b) (h : IsFirst (Seen Q st others (x + 1)) b) : IsFirst (Seen Q st others x) b := by
  refine ⟨h.1.imp id fun ⟨q, y, a, l, e⟩ => ⟨q, y, a, by omega, e⟩, fun t ht => ?_⟩
  rcases seen_lt ht with k | k
  · exact h.2 t k
  · subst k
    refine ⟨hb0, ?_⟩
    by_cases e : b = st ||| x
    · exact .inl e
    · rcases pr_total hb hp e with k | k
      · exact .inr k
      · exact absurd k hn
theorem seen_step {Q : Nat → Prop} {st others x b : Nat} (hx : Sub x others) (h0 : x ≠ 0) (h : IsFirst (Seen Q st others x) b) : IsFirst (Seen Q st others ((x - 1 &&& others) + 1)) b :=
  first_cong (fun t => ⟨fun ⟨q, y, a, l, e⟩ => ⟨q, y, a, by have : (x - 1) &&& others ≤ x - 1 := Nat.and_le_left; omega, e⟩, fun ⟨q, y, a, l, e⟩ => ⟨q, y, a, by
    apply Nat.le_of_not_lt
    intro k
    have := sub_next others x y a hx k
    omega, e⟩⟩) h
theorem seen_end {Q : Nat → Prop} {st rest b : Nat} (hQ : ∀ t, Q t → Sub t rest ∧ Sub st t) (h : IsFirst (Seen Q st (rest - st) 0) b) : IsFirst Q b :=
  first_cong (fun t => ⟨fun h => h.1, fun q => by
    obtain ⟨h1, h2⟩ := hQ t q
    refine ⟨q, t - st, fun i hi => ?_, Nat.zero_le _, ?_⟩
    · rw [minus_bit h2] at hi
      rw [minus_bit (h2.trans h1)]
      simp only [Bool.and_eq_true] at hi ⊢
      exact ⟨h1 i hi.1, hi.2⟩
    · apply Nat.eq_of_testBit_eq
      intro i
      rw [Nat.testBit_or, minus_bit h2]
      have := h2 i
      cases a : t.testBit i <;> cases b : st.testBit i <;> simp_all⟩) h
theorem low_sub {s : Nat} (hs : s < 1024) (h : s ≠ 0) : Sub (low s) s ∧ low s ≠ 0 := by
  obtain ⟨i, l1, l2, l3⟩ := low_bit s hs h
  rw [l1]
  refine ⟨fun j hj => ?_, by have := Nat.two_pow_pos i; omega⟩
  rw [Nat.testBit_two_pow] at hj
  have : i = j := by simpa using hj
  subst this; exact l2
theorem or_sub {st x rest : Nat} (h1 : Sub st rest) (h2 : Sub x (rest - st)) : Sub (st ||| x) rest := fun i hi => by
  rw [Nat.testBit_or] at hi
  rcases (Bool.or_eq_true_iff).1 hi with k | k
  · exact h1 i k
  · exact h1.minus i (h2 i k)
theorem sub_or (st x : Nat) : Sub st (st ||| x) := fun i hi => by rw [Nat.testBit_or, hi]; rfl
/-- A part that may be the first one. -/
def cand (F : Nat → Int) (M : Nat → Nat) (rest t : Nat) : Prop := Sub t rest ∧ Sub (low rest) t ∧ F t = 0 ∧ (M (rest - t) : Int) = (M rest : Int) - 1
end Go.Proofs.YtepcokgpepcccaaDoor
