/- Distances found round by round: the reference's Far. -/
import Derived.Test.YtampfciacjifgaaGpa
namespace Go.Proofs.Ytampfciacjifgaa
set_option linter.unusedVariables false
set_option linter.unusedSimpArgs false

theorem par_count {l : List (Nat × Nat)} {n : Nat} {A : Nat → List Nat} {g : Nat → Int} {S : Nat} (s : g S = 0) (par : ∀ v, 0 ≤ g v → v ≠ S → ∃ u, 0 ≤ g u ∧ nbr l n A u v ∧ g v = g u + 1) : ∀ (k v : Nat), v < n → g v = (k : Int) → k < (List.range n).countP fun j => decide (0 ≤ g j ∧ g j < (k : Int) + 1)
  | 0, v, hv, e => List.countP_pos_iff.2 ⟨v, List.mem_range.2 hv, by simp; omega⟩
  | k + 1, v, hv, e => by
    have ne : v ≠ S := by rintro rfl; rw [s] at e; omega
    obtain ⟨u, hu, hn, e2⟩ := par v (by omega) ne
    have ih := par_count s par k u hn.1 (by omega)
    have := count_lt (p := fun j => decide (0 ≤ g j ∧ g j < (k : Int) + 1)) (q := fun j => decide (0 ≤ g j ∧ g j < ((k + 1 : Nat) : Int) + 1)) (v := v) (fun j hj => by simp at hj ⊢; omega) (by simp; omega) (by simp; omega) (List.range n) (List.mem_range.2 hv)
    omega
theorem par_small {l : List (Nat × Nat)} {n : Nat} {A : Nat → List Nat} {g : Nat → Int} {S v : Nat} (s : g S = 0) (par : ∀ v, 0 ≤ g v → v ≠ S → ∃ u, 0 ≤ g u ∧ nbr l n A u v ∧ g v = g u + 1) (hv : v < n) : g v < (n : Int) := by
  by_cases h0 : 0 ≤ g v
  · have := par_count s par (g v).toNat v hv (by omega)
    have k := List.countP_le_length (p := fun j => decide (0 ≤ g j ∧ g j < ((g v).toNat : Int) + 1)) (l := List.range n)
    rw [List.length_range] at k
    omega
  · omega
/-- Behind d rounds. -/
structure Fd (nb : Nat → Nat → Prop) (n S : Nat) (g : Nat → Int) (d : Nat) : Prop where
  s : g S = 0
  m : ∀ v, g v < 0 → g v = -1
  o : ∀ v, n ≤ v → g v = -1
  b : ∀ v, g v ≤ (d : Int)
  par : ∀ v, 0 ≤ g v → v ≠ S → ∃ u, 0 ≤ g u ∧ nb u v ∧ g v = g u + 1
  done : ∀ v, 0 ≤ g v → g v < (d : Int) → ∀ u, nb v u → 0 ≤ g u ∧ g u ≤ g v + 1
theorem Fd.start {nb : Nat → Nat → Prop} {n S : Nat} (hS : S < n) : Fd nb n S (upd minus1 S 0) 0 := by
  have z : ∀ v, 0 ≤ upd minus1 S 0 v → v = S := fun v h => by
    by_cases e : v = S
    · exact e
    · rw [upd_other e] at h; simp [minus1] at h
  refine ⟨upd_same _ _ _, fun v h => ?_, fun v h => ?_, fun v => ?_, fun v h e => absurd (z v h) e, fun v h h2 => ?_⟩
  · by_cases e : v = S
    · subst e; rw [upd_same] at h; omega
    · rw [upd_other e]; rfl
  · rw [upd_other (by omega)]; rfl
  · by_cases e : v = S
    · subst e; rw [upd_same]; omega
    · rw [upd_other e]; simp [minus1]
  · omega
/-- What an edge that was looked at in round d leaves. -/
def Pd (g : Nat → Int) (d : Nat) (a b : Nat) : Prop := (g a = (d : Int) → 0 ≤ g b) ∧ (g b = (d : Int) → 0 ≤ g a)
/-- Within round d, behind the first k edges. -/
structure Fk (l : List (Nat × Nat)) (xs : List Nat) (n S : Nat) (g : Nat → Int) (d k : Nat) : Prop where
  s : g S = 0
  m : ∀ v, g v < 0 → g v = -1
  o : ∀ v, n ≤ v → g v = -1
  b : ∀ v, g v ≤ (d : Int) + 1
  par : ∀ v, 0 ≤ g v → v ≠ S → ∃ u, 0 ≤ g u ∧ nbr l n (adj l xs) u v ∧ g v = g u + 1
  done : ∀ v, 0 ≤ g v → g v < (d : Int) → ∀ u, nbr l n (adj l xs) v u → 0 ≤ g u ∧ g u ≤ g v + 1
  pr : ∀ j (h : j < xs.length), j < k → ∀ x, l[xs[j]]? = some x → Pd g d x.1 x.2
theorem Fd.inner {l : List (Nat × Nat)} {xs : List Nat} {n S d : Nat} {g : Nat → Int} (h : Fd (nbr l n (adj l xs)) n S g d) : Fk l xs n S g d 0 :=
  ⟨h.s, h.m, h.o, fun v => by have := h.b v; omega, h.par, h.done, fun j _ h => absurd h (Nat.not_lt_zero j)⟩
theorem Fk.put {l : List (Nat × Nat)} {xs : List Nat} {n S d k a b : Nat} {g : Nat → Int} (h : Fk l xs n S g d k) (ha : g a = (d : Int)) (hb : g b < 0) (hn : nbr l n (adj l xs) a b) (hbn : b < n) (sy : ∀ u v, nbr l n (adj l xs) u v → nbr l n (adj l xs) v u) : Fk l xs n S (upd g b ((d : Int) + 1)) d k := by
  have ne : ∀ v, 0 ≤ g v → upd g b ((d : Int) + 1) v = g v := fun v hv => upd_other (by rintro rfl; omega)
  have cs : ∀ v, upd g b ((d : Int) + 1) v = g v ∨ (v = b ∧ upd g b ((d : Int) + 1) v = (d : Int) + 1) := fun v => by
    by_cases e : v = b
    · subst e; exact .inr ⟨rfl, upd_same _ _ _⟩
    · exact .inl (upd_other e)
  have nn : ∀ v, 0 ≤ g v → 0 ≤ upd g b ((d : Int) + 1) v := fun v hv => by rw [ne v hv]; exact hv
  have eqd : ∀ v, upd g b ((d : Int) + 1) v = (d : Int) → g v = (d : Int) := fun v hv => by
    rcases cs v with e | ⟨-, e⟩ <;> omega
  have clo : ∀ v, 0 ≤ g v → g v < (d : Int) → ¬ nbr l n (adj l xs) v b := fun v h0 h1 hv => by have := (h.done v h0 h1 b hv).1; omega
  refine ⟨by rw [ne S (by rw [h.s]; omega)]; exact h.s, fun v hv => ?_, fun v hv => ?_, fun v => ?_, fun v hv hS => ?_, fun v hv hd u hu => ?_, fun j hj hk x hx => ?_⟩
  · rcases cs v with e | ⟨-, e⟩
    · rw [e] at hv ⊢; exact h.m v hv
    · omega
  · rw [upd_other (by omega)]; exact h.o v hv
  · rcases cs v with e | ⟨-, e⟩
    · rw [e]; exact h.b v
    · omega
  · rcases cs v with e | ⟨rfl, e⟩
    · rw [e] at hv ⊢
      obtain ⟨u, h0, h1, h2⟩ := h.par v hv hS
      exact ⟨u, nn u h0, h1, by rw [ne u h0]; exact h2⟩
    · exact ⟨a, nn a (by omega), hn, by rw [e, ne a (by omega), ha]⟩
  · rcases cs v with e | ⟨-, e⟩
    · rw [e] at hv hd ⊢
      have k := h.done v hv hd u hu
      rw [ne u k.1]; exact k
    · omega
  · have k := h.pr j hj hk x hx
    exact ⟨fun e => nn _ (k.1 (eqd _ e)), fun e => nn _ (k.2 (eqd _ e))⟩
theorem Fk.next {l : List (Nat × Nat)} {xs : List Nat} {n S d k : Nat} {g : Nat → Int} (h : Fk l xs n S g d k) (hk : k < xs.length) {x : Nat × Nat} (hx : l[xs[k]]? = some x) (p : Pd g d x.1 x.2) : Fk l xs n S g d (k + 1) :=
  ⟨h.s, h.m, h.o, h.b, h.par, h.done, fun j hj hjk y hy => by
    rcases Nat.lt_or_ge j k with a | a
    · exact h.pr j hj a y hy
    · have e : j = k := by omega
      subst e
      rw [hx] at hy; cases hy; exact p⟩
theorem Fk.out {l : List (Nat × Nat)} {xs : List Nat} {n S d k : Nat} {g : Nat → Int} (h : Fk l xs n S g d k) (hk : xs.length ≤ k) : Fd (nbr l n (adj l xs)) n S g (d + 1) := by
  refine ⟨h.s, h.m, h.o, fun v => by have := h.b v; omega, h.par, fun v h0 h1 u hu => ?_⟩
  rcases Int.lt_or_le (g v) (d : Int) with a | a
  · exact h.done v h0 a u hu
  · have e : g v = (d : Int) := by omega
    have hb := h.b u
    refine ⟨?_, by omega⟩
    obtain ⟨-, i, hi, x, hx, rfl⟩ := hu
    obtain ⟨him, y, hy, hyv⟩ := adj_mem hi
    rw [hx] at hy; cases hy
    obtain ⟨j, hj, rfl⟩ := List.mem_iff_getElem.1 him
    have p := h.pr j hj (by omega) x hx
    unfold oth
    by_cases e1 : x.1 = v
    · rw [if_pos e1]; exact p.1 (by rw [e1]; exact e)
    · rw [if_neg e1]; exact p.2 (by rw [hyv.resolve_left e1]; exact e)
theorem Fd.sp {l : List (Nat × Nat)} {xs : List Nat} {n S : Nat} {g : Nat → Int} (h : Fd (nbr l n (adj l xs)) n S g n) : Sp (nbr l n (adj l xs)) minus1 g S := by
  refine ⟨fun v hv => by simp [minus1] at hv, h.s, fun v hv => h.m v hv, fun v hv hS => ?_, fun v hv u hu => ?_⟩
  · obtain ⟨u, h0, h1, h2⟩ := h.par v hv.2 hS
    exact ⟨u, new_iff h0, h1, h2⟩
  · exact h.done v hv.2 (par_small h.s h.par hu.1) u hu
theorem sp_uniq {nb : Nat → Nat → Prop} {f g : Nat → Int} {S : Nat} (sy : ∀ u v, nb u v → nb v u) (hf : Sp nb minus1 f S) (hg : Sp nb minus1 g S) (v : Nat) : f v = g v := by
  by_cases a : 0 ≤ f v
  · have h1 := sp_least sy hg (sp_is sy hf a)
    have h2 := sp_least sy hf (sp_is sy hg h1.1)
    omega
  · by_cases b : 0 ≤ g v
    · have := sp_least sy hf (sp_is sy hg b); omega
    · rw [hf.m v (by omega), hg.m v (by omega)]
end Go.Proofs.Ytampfciacjifgaa
