/- A search in breadth: what it keeps, and what it leaves. -/
import Derived.Test.YtampfciacjifgaaBas
namespace Go.Proofs.Ytampfciacjifgaa
set_option linter.unusedVariables false
set_option linter.unusedSimpArgs false

/-- How many of the first n nodes have not been reached. -/
def un (f : Nat → Int) : Nat → Nat
  | 0 => 0
  | n + 1 => un f n + if f n < 0 then 1 else 0
theorem un_far (f : Nat → Int) (u : Nat) (x : Int) : ∀ n, n ≤ u → un (upd f u x) n = un f n
  | 0, _ => rfl
  | n + 1, h => by rw [un, un, un_far f u x n (by omega), upd_other (by omega)]
theorem un_upd (f : Nat → Int) (u : Nat) (x : Int) (h1 : f u < 0) (h2 : 0 ≤ x) : ∀ n, u < n → un (upd f u x) n + 1 = un f n
  | n + 1, h => by
    rw [un, un]
    by_cases e : u = n
    · subst e
      rw [un_far f u x u (Nat.le_refl _), upd_same, if_neg (by omega), if_pos h1]
    · rw [upd_other (Ne.symm e), ← un_upd f u x h1 h2 n (by omega)]
      omega
theorem un_le (f : Nat → Int) : ∀ n, un f n ≤ n
  | 0 => Nat.le_refl _
  | n + 1 => by have := un_le f n; rw [un]; split <;> omega

def New (f0 f : Nat → Int) (v : Nat) : Prop := f0 v < 0 ∧ 0 ≤ f v
structure Bf (n : Nat) (nb : Nat → Nat → Prop) (f0 f : Nat → Int) (S : Nat) (qs : List Nat) : Prop where
  r0 : ∀ v, 0 ≤ f0 v → f v = f0 v
  s : f S = 0
  m : ∀ v, f v < 0 → f v = f0 v
  par : ∀ v, New f0 f v → v ≠ S → ∃ u, New f0 f u ∧ nb u v ∧ f v = f u + 1
  q : ∀ x ∈ qs, x < n ∧ New f0 f x
  so : qs.Pairwise fun a b => f a ≤ f b
  top : ∀ h t, qs = h :: t → ∀ v, New f0 f v → f v ≤ f h + 1
  done : ∀ v, New f0 f v → v ∉ qs → ∀ u, nb v u → 0 ≤ f u ∧ f u ≤ f v + 1
theorem Bf.start {n : Nat} {nb : Nat → Nat → Prop} {f0 : Nat → Int} {S : Nat} (hS : S < n) (h0 : f0 S < 0) (hm : ∀ v, f0 v < 0 → f0 v = -1) : Bf n nb f0 (upd f0 S 0) S [S] := by
  have nw : ∀ v, New f0 (upd f0 S 0) v → v = S := fun v h => by
    rcases Nat.decEq v S with e | e
    · have := h.2
      rw [upd_other e] at this
      have := h.1
      omega
    · exact e
  refine ⟨fun v h => ?_, upd_same _ _ _, fun v h => ?_, fun v h e => absurd (nw v h) e, fun x hx => ?_, by simp, fun h t e v hv => ?_, fun v h e => ?_⟩
  · exact upd_other (by rintro rfl; omega)
  · refine upd_other ?_
    rintro rfl
    rw [upd_same] at h; omega
  · rw [List.mem_singleton.1 hx]
    exact ⟨hS, h0, by rw [upd_same]; exact Int.le_refl _⟩
  · rw [nw v hv, upd_same]
    simp at e
    rw [← e.1, upd_same]; omega
  · exact absurd (nw v h) (fun e2 => e (by rw [e2]; simp))
/-- A node that had not been reached is reached. -/
theorem Bf.push {n : Nat} {nb : Nat → Nat → Prop} {f0 f : Nat → Int} {S h u : Nat} {t : List Nat} (B : Bf n nb f0 f S (h :: t)) (hu : u < n) (h1 : f u < 0) (h2 : nb h u) (h3 : f0 u < 0) : Bf n nb f0 (upd f u (f h + 1)) S (h :: t ++ [u]) := by
  have hh := B.q h (by simp)
  have hp := hh.2.2
  have ne : ∀ v, 0 ≤ f v → upd f u (f h + 1) v = f v := fun v hv => upd_other (by rintro rfl; omega)
  have nw : ∀ v, New f0 (upd f u (f h + 1)) v → v = u ∨ New f0 f v := fun v hv => by
    by_cases e : v = u
    · exact .inl e
    · exact .inr ⟨hv.1, by have := hv.2; rwa [upd_other e] at this⟩
  have up : ∀ v, New f0 f v → New f0 (upd f u (f h + 1)) v := fun v hv => ⟨hv.1, by rw [ne v hv.2]; exact hv.2⟩
  have le : ∀ v, New f0 (upd f u (f h + 1)) v → upd f u (f h + 1) v ≤ f h + 1 := fun v hv => by
    rcases nw v hv with rfl | k
    · rw [upd_same]; exact Int.le_refl _
    · rw [ne v k.2]; exact B.top h t rfl v k
  refine ⟨fun v hv => ?_, by rw [ne S (by rw [B.s]; exact Int.le_refl _)]; exact B.s, fun v hv => ?_, fun v hv hS => ?_, fun x hx => ?_, ?_, fun h' t' e v hv => ?_, fun v hv hq w hw => ?_⟩
  · rw [upd_other (by rintro rfl; omega)]; exact B.r0 v hv
  · have e : v ≠ u := by rintro rfl; rw [upd_same] at hv; omega
    rw [upd_other e] at hv ⊢
    exact B.m v hv
  · rcases nw v hv with rfl | k
    · exact ⟨h, up h hh.2, h2, by rw [upd_same, ne h hp]⟩
    · obtain ⟨w, a, b, c⟩ := B.par v k hS
      exact ⟨w, up w a, b, by rw [ne v k.2, ne w a.2, c]⟩
  · rcases List.mem_append.1 hx with k | k
    · exact ⟨(B.q x k).1, up x (B.q x k).2⟩
    · rw [List.mem_singleton.1 k]
      exact ⟨hu, h3, by rw [upd_same]; omega⟩
  · refine List.pairwise_append.2 ⟨B.so.imp_of_mem fun {a b} ha hb k => by rw [ne a (B.q a ha).2.2, ne b (B.q b hb).2.2]; exact k, by simp, fun a ha b hb => ?_⟩
    rw [List.mem_singleton.1 hb, upd_same]
    exact le a (up a (B.q a ha).2)
  · have : h' = h := by simp at e; exact e.1.symm
    rw [this, ne h hp]; exact le v hv
  · have hvu : v ≠ u := fun e => hq (by rw [e]; simp)
    have k : New f0 f v := (nw v hv).resolve_left hvu
    have d := B.done v k (fun e => hq (List.mem_append.2 (.inl e))) w hw
    rw [ne w d.1, ne v k.2]; exact d
/-- A node whose neighbours have all been reached leaves the queue. -/
theorem Bf.pop {n : Nat} {nb : Nat → Nat → Prop} {f0 f : Nat → Int} {S h : Nat} {t : List Nat} (B : Bf n nb f0 f S (h :: t)) (hn : ∀ u, nb h u → 0 ≤ f u ∧ f u ≤ f h + 1) : Bf n nb f0 f S t := by
  refine ⟨B.r0, B.s, B.m, B.par, fun x hx => B.q x (by simp [hx]), (List.pairwise_cons.1 B.so).2, fun h' t' e v hv => ?_, fun v hv hq u hu => ?_⟩
  · have := B.top h t rfl v hv
    have := (List.pairwise_cons.1 B.so).1 h' (by rw [e]; simp)
    omega
  · by_cases e : v = h
    · rw [e] at hu ⊢; exact hn u hu
    · exact B.done v hv (by simp [e, hq]) u hu
/-- What the search leaves. -/
structure Sp (nb : Nat → Nat → Prop) (f0 f : Nat → Int) (S : Nat) : Prop where
  r0 : ∀ v, 0 ≤ f0 v → f v = f0 v
  s : f S = 0
  m : ∀ v, f v < 0 → f v = f0 v
  par : ∀ v, New f0 f v → v ≠ S → ∃ u, New f0 f u ∧ nb u v ∧ f v = f u + 1
  done : ∀ v, New f0 f v → ∀ u, nb v u → 0 ≤ f u ∧ f u ≤ f v + 1
theorem Bf.sp {n : Nat} {nb : Nat → Nat → Prop} {f0 f : Nat → Int} {S : Nat} (B : Bf n nb f0 f S []) : Sp nb f0 f S :=
  ⟨B.r0, B.s, B.m, B.par, fun v hv u hu => B.done v hv (by simp) u hu⟩
end Go.Proofs.Ytampfciacjifgaa
