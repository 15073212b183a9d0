/- The order of sets is that of their lists (at most 10 indices). -/
import Derived.Test.YtepcokgpepcccaaDoorFnd
namespace Go.Proofs.YtepcokgpepcccaaDoor
set_option linter.unusedVariables false
set_option linter.unusedSimpArgs false

def earlN : List Nat → List Nat → Bool
  | [], [] => false
  | [], _ :: _ => true
  | _ :: _, [] => false
  | x :: xs, y :: ys => if x = y then earlN xs ys else decide (x < y)
theorem earl_toZ : ∀ xs ys : List Nat, earl (toZ xs) (toZ ys) = earlN xs ys
  | [], [] => rfl
  | [], _ :: _ => rfl
  | _ :: _, [] => rfl
  | x :: xs, y :: ys => by
    have ih := earl_toZ xs ys
    simp only [toZ, List.map_cons, earl, earlN] at ih ⊢
    by_cases h : x = y
    · rw [if_pos h, if_pos (by omega)]; exact ih
    · rw [if_neg h, if_neg (by omega), decide_eq_decide]; omega
theorem ixs_pop : ∀ s : Nat, s < 1024 → (ixs 10 s).length = pop s := by
  have h : chk (fun s => (ixs 10 s).length == pop s) 10 0 = true := by decide +kernel
  intro s hs
  exact eq_of_beq (chk_all _ 10 0 h s (Nat.zero_le _) (by omega))
theorem low_tz : ∀ x : Nat, x < 1024 → x ≠ 0 → low x = 2 ^ tz x ∧ x.testBit (tz x) = true ∧ ∀ j, j < tz x → x.testBit j = false := by
  have h : chk (fun x => x == 0 || (low x == 2 ^ tz x && x.testBit (tz x) && (List.range (tz x)).all fun j => !x.testBit j)) 10 0 = true := by decide +kernel
  intro x hx h0
  have k := chk_all _ 10 0 h x (Nat.zero_le _) (by omega)
  simp only [Bool.or_eq_true, beq_iff_eq, h0, false_or, Bool.and_eq_true, List.all_eq_true, List.mem_range, Bool.not_eq_true'] at k
  exact ⟨k.1.1, k.1.2, k.2⟩
def rs (i m s : Nat) : List Nat := ((List.range m).map fun j => i + (j + 1)).filter fun x => s.testBit x
theorem rs_gt {i m s x : Nat} (h : x ∈ rs i m s) : i < x := by
  have := (List.mem_filter.1 h).1
  obtain ⟨j, -, rfl⟩ := List.mem_map.1 this
  omega
theorem ixs_at (i m s : Nat) : ixs (i + (m + 1)) s = ixs i s ++ ((if s.testBit i then [i] else []) ++ rs i m s) := by
  unfold ixs rs
  rw [List.range_add, List.filter_append, List.range_succ_eq_map, List.map_cons, List.map_map, List.filter_cons]
  congr 1
  cases h : s.testBit i <;> simp [h, Function.comp_def]
theorem earlN_app : ∀ P a b : List Nat, earlN (P ++ a) (P ++ b) = earlN a b
  | [], _, _ => rfl
  | x :: P, a, b => by
    show earlN (x :: (P ++ a)) (x :: (P ++ b)) = _
    rw [earlN, if_pos rfl, earlN_app P a b]
theorem earlN_self : ∀ a : List Nat, earlN a a = false
  | [] => rfl
  | x :: a => by rw [earlN, if_pos rfl, earlN_self a]
theorem and_two (s i : Nat) : s &&& 2 ^ i = (s.testBit i).toNat * 2 ^ i := by
  apply Nat.eq_of_testBit_eq
  intro j
  rw [Nat.testBit_and, Nat.testBit_two_pow]
  by_cases e : i = j
  · subst e
    cases h : s.testBit i
    · simp
    · simp [Nat.testBit_two_pow]
  · cases h : s.testBit i
    · simp [e]
    · simp [Nat.testBit_two_pow, e]
theorem low_bit (x : Nat) (hx : x < 1024) (h0 : x ≠ 0) : ∃ i, low x = 2 ^ i ∧ x.testBit i = true ∧ ∀ j, j < i → x.testBit j = false := ⟨_, low_tz x hx h0⟩
theorem prec_self (s : Nat) : prec s s = false := by
  rw [prec, Nat.xor_self, low, Nat.zero_and, Nat.and_zero]; rfl
theorem xor_ne {s t : Nat} (e : s ≠ t) : s ^^^ t ≠ 0 := fun h => e (by
  apply Nat.eq_of_testBit_eq
  intro i
  have := congrArg (fun x => x.testBit i) h
  simp only [Nat.testBit_xor, Nat.zero_testBit] at this
  revert this
  cases s.testBit i <;> cases t.testBit i <;> simp)
theorem prec_bit {s t i : Nat} (h : low (s ^^^ t) = 2 ^ i) : prec s t = s.testBit i := by
  rw [prec, h, and_two]
  have hp : 2 ^ i ≠ 0 := by have := Nat.two_pow_pos i; omega
  cases s.testBit i
  · simp
  · simp [hp]
theorem first_bit (i m s t : Nat) (h : (s ^^^ t).testBit i = true) (h3 : ∀ j, j < i → (s ^^^ t).testBit j = false) (hl : (ixs (i + (m + 1)) s).length = (ixs (i + (m + 1)) t).length) :
    s.testBit i = earlN (ixs (i + (m + 1)) s) (ixs (i + (m + 1)) t) := by
  have hP : ixs i s = ixs i t := by
    unfold ixs
    apply List.filter_congr
    intro j hj
    have := h3 j (List.mem_range.1 hj)
    rw [Nat.testBit_xor] at this
    revert this
    cases s.testBit j <;> cases t.testBit j <;> simp
  rw [ixs_at, ixs_at, hP] at hl ⊢
  rw [earlN_app]
  rw [Nat.testBit_xor] at h
  simp only [List.length_append] at hl
  have g1 := fun x => @rs_gt i m s x
  have g2 := fun x => @rs_gt i m t x
  generalize rs i m s = A at *
  generalize rs i m t = B at *
  cases hs1 : s.testBit i <;> cases ht1 : t.testBit i <;> rw [hs1, ht1] at h <;> simp only [hs1, ht1, if_true, if_false, Bool.false_eq_true, List.length_nil, List.length_cons, List.nil_append, List.cons_append] at hl ⊢
  · cases h
  · cases A with
    | nil => simp at hl
    | cons y ys =>
      have := g1 y (List.mem_cons_self ..)
      rw [earlN, if_neg (by omega), decide_eq_false (by omega)]
  · cases B with
    | nil => simp at hl
    | cons y ys =>
      have := g2 y (List.mem_cons_self ..)
      rw [earlN, if_neg (by omega), decide_eq_true (by omega)]
  · cases h
theorem prec_ixs (n s t : Nat) (hn : n ≤ 10) (hs : s < 2 ^ n) (ht : t < 2 ^ n) (hl : (ixs n s).length = (ixs n t).length) : prec s t = earlN (ixs n s) (ixs n t) := by
  have h10 : 2 ^ n ≤ 1024 := Nat.pow_le_pow_right (n := 2) (by omega) hn
  by_cases e : s = t
  · subst e
    rw [earlN_self, prec_self]
  · have hx : s ^^^ t < 2 ^ n := Nat.xor_lt_two_pow hs ht
    obtain ⟨i, l1, l2, l3⟩ := low_bit _ (Nat.lt_of_lt_of_le hx h10) (xor_ne e)
    have hi : i < n := by
      apply Nat.lt_of_not_le
      intro h
      rw [Nat.testBit_lt_two_pow (Nat.lt_of_lt_of_le hx (Nat.pow_le_pow_right (by omega) h))] at l2
      cases l2
    obtain ⟨m, rfl⟩ : ∃ m, n = i + (m + 1) := ⟨n - i - 1, by omega⟩
    rw [prec_bit l1]
    exact first_bit i m s t l2 l3 hl
/-- The reference's order of two sets. -/
def rbf (n s t : Nat) : Bool := decide ((ixs n s).length < (ixs n t).length) || decide ((ixs n s).length = (ixs n t).length) && earl (toZ (ixs n s)) (toZ (ixs n t))
theorem ixs_more (n m s : Nat) (hs : s < 2 ^ n) (h : n ≤ m) : ixs m s = ixs n s := by
  induction m with
  | zero => have : n = 0 := by omega
            subst this; rfl
  | succ m ih =>
    by_cases k : n = m + 1
    · subst k; rfl
    · rw [ixs_next, ih (by omega), Nat.testBit_lt_two_pow (Nat.lt_of_lt_of_le hs (Nat.pow_le_pow_right (by omega) (by omega)))]
      simp
theorem bef_rbf (n s t : Nat) (hn : n ≤ 10) (hs : s < 2 ^ n) (ht : t < 2 ^ n) : bef s t = rbf n s t := by
  have h10 : 2 ^ n ≤ 1024 := Nat.pow_le_pow_right (n := 2) (by omega) hn
  have p1 : pop s = (ixs n s).length := by rw [← ixs_pop s (by omega), ixs_more n 10 s hs hn]
  have p2 : pop t = (ixs n t).length := by rw [← ixs_pop t (by omega), ixs_more n 10 t ht hn]
  unfold bef rbf
  rw [p1, p2, earl_toZ]
  by_cases e : (ixs n s).length = (ixs n t).length
  · rw [prec_ixs n s t hn hs ht e]
  · simp [e]
end Go.Proofs.YtepcokgpepcccaaDoor
