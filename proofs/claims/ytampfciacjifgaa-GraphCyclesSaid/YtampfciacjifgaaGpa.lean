/- GraphPaths: the walk. -/
import Derived.Test.YtampfciacjifgaaCtn
import Derived.Test.YtampfciacjifgaaDst
namespace Go.Proofs.Ytampfciacjifgaa
open Go.ChangeShapes Go.WideShapes Go.ChangeAt Go.RowKit
set_option linter.unusedVariables false
set_option linter.unusedSimpArgs false

theorem count_lt {p q : Nat → Bool} (h : ∀ j, p j = true → q j = true) {v : Nat} (h1 : p v = false) (h2 : q v = true) : ∀ l : List Nat, v ∈ l → l.countP p < l.countP q
  | [], hv => by cases hv
  | a :: l, hv => by
    have le : l.countP p ≤ l.countP q := List.countP_mono_left fun x _ => h x
    by_cases e : a = v
    · subst e
      rw [List.countP_cons, List.countP_cons, h1, h2]; simp; omega
    · have ih := count_lt h h1 h2 l (by rcases List.mem_cons.1 hv with k | k; exact absurd k.symm e; exact k)
      rw [List.countP_cons, List.countP_cons]
      cases ha : p a
      · simp; split <;> omega
      · rw [h a ha]; simp; omega
theorem sp_count {l : List (Nat × Nat)} {n : Nat} {xs : List Nat} {f : Nat → Int} {S : Nat} (hl : ∀ x ∈ l, x.1 < n ∧ x.2 < n ∧ x.1 ≠ x.2) (h : Sp (nbr l n (adj l xs)) minus1 f S) : ∀ (k v : Nat), v < n → f v = (k : Int) → k < (List.range n).countP fun j => decide (0 ≤ f j ∧ f j < (k : Int) + 1)
  | 0, v, hv, e => List.countP_pos_iff.2 ⟨v, List.mem_range.2 hv, by simp; omega⟩
  | k + 1, v, hv, e => by
    have nv : New minus1 f v := new_iff (by omega)
    have ne : v ≠ S := by rintro rfl; rw [h.s] at e; omega
    obtain ⟨u, hu, hn, e2⟩ := h.par v nv ne
    have ih := sp_count hl h k u hn.1 (by omega)
    have := count_lt (p := fun j => decide (0 ≤ f j ∧ f j < (k : Int) + 1)) (q := fun j => decide (0 ≤ f j ∧ f j < ((k + 1 : Nat) : Int) + 1)) (v := v) (fun j hj => by simp at hj ⊢; omega) (by simp; omega) (by simp; omega) (List.range n) (List.mem_range.2 hv)
    omega
theorem sp_small {l : List (Nat × Nat)} {n : Nat} {xs : List Nat} {f : Nat → Int} {S v : Nat} (hl : ∀ x ∈ l, x.1 < n ∧ x.2 < n ∧ x.1 ≠ x.2) (h : Sp (nbr l n (adj l xs)) minus1 f S) (hv : v < n) : f v < (n : Int) := by
  by_cases h0 : 0 ≤ f v
  · have := sp_count hl h (f v).toNat v hv (by omega)
    have k := List.countP_le_length (p := fun j => decide (0 ≤ f j ∧ f j < ((f v).toNat : Int) + 1)) (l := List.range n)
    rw [List.length_range] at k
    omega
  · omega
/-- A shortest path from a to b. -/
structure Spt (l : List (Nat × Nat)) (n a b : Nat) (xs : List Nat) : Prop where
  le : leads l b a xs
  w : Wlk (nbr l n (adj l (List.range l.length))) xs.length a b
  m : ∀ k, Wlk (nbr l n (adj l (List.range l.length))) k a b → xs.length ≤ k
theorem path_yes (p : Option Addr) (n : Nat) (l : List (Nat × Nat)) (cap a b : Nat) (w : World) (hG : Gr w p n l) (ha : a < n) (hb : b < n) (hj : pre l l.length a = pre l l.length b) :
    Calls Try.prog 26 #[.int .i64 n, .slice p l.length cap, .int .i64 a, .int .i64 b] w fun e w' => ∃ q c xs, e = .returned (.tuple #[.slice q xs.length c, .int .i64 0]) ∧ Own w.heap.size w' (.slice q xs.length c) xs ∧ Spt l n a b xs ∧ xs.length ≤ 1000 ∧ Below w.heap.size w w' := by
  have hl : ∀ x ∈ l, x.1 < n ∧ x.2 < n ∧ x.1 ≠ x.2 := hG.2.2.2
  have hn := hG.2.2.1
  refine (path_ok p n l cap a b w hG ha hb).mono ?_
  rintro e w' ⟨f, hS, hB, hno, hyes⟩
  have h0 := (sp_joined hl hS).2 hj
  obtain ⟨v, he, ho⟩ := hyes h0
  obtain ⟨g1, g2⟩ := gp_leads hl hS (f a).toNat a ha (by omega)
  generalize gp l (adj l (List.range l.length)) f (f a).toNat a = xs at *
  obtain ⟨q, c, rfl, -⟩ := own_form ho
  have sy : ∀ u v, nbr l n (adj l (List.range l.length)) u v → nbr l n (adj l (List.range l.length)) v u := fun u v h => nbr_symm hl h
  refine ⟨q, c, xs, he, ho, ⟨g1, by rw [g2]; exact sp_is sy hS h0, fun k hk => ?_⟩, ?_, hB⟩
  · have := sp_least sy hS hk; omega
  · have := sp_small hl hS ha; omega
theorem path_not (p : Option Addr) (n : Nat) (l : List (Nat × Nat)) (cap a b : Nat) (w : World) (hG : Gr w p n l) (ha : a < n) (hb : b < n) (hj : pre l l.length a ≠ pre l l.length b) :
    Calls Try.prog 26 #[.int .i64 n, .slice p l.length cap, .int .i64 a, .int .i64 b] w fun e w' => e = .returned (.tuple #[.slice none 0 0, .int .i64 12]) ∧ Below w.heap.size w w' := by
  have hl : ∀ x ∈ l, x.1 < n ∧ x.2 < n ∧ x.1 ≠ x.2 := hG.2.2.2
  refine (path_ok p n l cap a b w hG ha hb).mono ?_
  rintro e w' ⟨f, hS, hB, hno, hyes⟩
  exact ⟨hno (by
    rcases Int.lt_or_le (f a) 0 with k | k
    · exact k
    · exact absurd ((sp_joined hl hS).1 k) hj), hB⟩
/-- Whether a part has both nodes. -/
theorem both_parts {R : Nat → Nat} {n a b : Nat} (le : ∀ j, R j ≤ j) (id : ∀ j, R (R j) = R j) (ha : a < n) (hb : b < n) : anyB (partsL R n) a b = decide (R a = R b) := by
  unfold anyB bothIn
  by_cases h : R a = R b
  · rw [decide_eq_true h]
    refine List.any_eq_true.2 ⟨(List.range n).filter fun j => R j == R a, List.mem_map.2 ⟨R a, ?_, rfl⟩, ?_⟩
    · simp only [roots, List.mem_filter, List.mem_range, beq_iff_eq]
      exact ⟨Nat.lt_of_le_of_lt (le a) ha, id a⟩
    · simp [ha, hb, h]
  · rw [decide_eq_false h]
    refine List.any_eq_false.2 fun x hx => ?_
    obtain ⟨r, -, rfl⟩ := List.mem_map.1 hx
    simp only [List.contains_iff_mem, Bool.and_eq_true, List.mem_filter, List.mem_range, beq_iff_eq]
    rintro ⟨⟨-, h1⟩, -, h2⟩
    exact h (h1.trans h2.symm)
theorem spt_symm {l : List (Nat × Nat)} {n a b : Nat} {xs ys : List Nat} (hl : ∀ x ∈ l, x.1 < n ∧ x.2 < n ∧ x.1 ≠ x.2) (h : Spt l n a b xs) (k : Spt l n b a ys) : xs.length = ys.length := by
  have sy : ∀ u v, nbr l n (adj l (List.range l.length)) u v → nbr l n (adj l (List.range l.length)) v u := fun u v h => nbr_symm hl h
  have h1 := h.m _ (k.w.symm sy)
  have h2 := k.m _ (h.w.symm sy)
  omega
theorem spt_over {l : List (Nat × Nat)} {n a b c : Nat} {xs ys zs : List Nat} (h : Spt l n a b xs) (h1 : Spt l n a c ys) (h2 : Spt l n c b zs) : xs.length ≤ ys.length + zs.length := h.m _ (h1.w.trans h2.w)
end Go.Proofs.Ytampfciacjifgaa
