/- Distances: what a search in breadth finds is the length of a shortest walk. -/
import Derived.Test.YtampfciacjifgaaPth
namespace Go.Proofs.Ytampfciacjifgaa
set_option linter.unusedVariables false
set_option linter.unusedSimpArgs false

/-- A walk of k steps from u to v. -/
inductive Wlk (nb : Nat → Nat → Prop) : Nat → Nat → Nat → Prop
  | nil (a : Nat) : Wlk nb 0 a a
  | cons {k a b c : Nat} : nb a b → Wlk nb k b c → Wlk nb (k + 1) a c
theorem Wlk.trans {nb : Nat → Nat → Prop} {k m a b c : Nat} (h : Wlk nb k a b) (g : Wlk nb m b c) : Wlk nb (k + m) a c := by
  induction h with
  | nil => rw [Nat.zero_add]; exact g
  | @cons j _ _ _ e _ ih => have := Wlk.cons e (ih g); rwa [show j + 1 + m = j + m + 1 by omega]
theorem Wlk.snoc {nb : Nat → Nat → Prop} {k a b c : Nat} (h : Wlk nb k a b) (e : nb b c) : Wlk nb (k + 1) a c := h.trans (.cons e (.nil c))
theorem Wlk.symm {nb : Nat → Nat → Prop} (sy : ∀ u v, nb u v → nb v u) {k a b : Nat} (h : Wlk nb k a b) : Wlk nb k b a := by
  induction h with
  | nil => exact .nil _
  | cons e _ ih => exact ih.snoc (sy _ _ e)
theorem sp_wlk {nb : Nat → Nat → Prop} {f : Nat → Int} {S : Nat} (sy : ∀ u v, nb u v → nb v u) (h : Sp nb minus1 f S) : ∀ (k v : Nat), f v = (k : Int) → Wlk nb k v S
  | 0, v, e => by
    have := sp_zero h (new_iff (by rw [e]; exact Int.le_refl _)) e
    subst this; exact .nil _
  | k + 1, v, e => by
    have hv : New minus1 f v := new_iff (by rw [e]; omega)
    have ne : v ≠ S := by rintro rfl; rw [h.s] at e; omega
    obtain ⟨u, hu, hn, e2⟩ := h.par v hv ne
    exact .cons (sy _ _ hn) (sp_wlk sy h k u (by omega))
theorem wlk_sp {nb : Nat → Nat → Prop} {f : Nat → Int} {S : Nat} (h : Sp nb minus1 f S) {k a b : Nat} (w : Wlk nb k a b) (ha : 0 ≤ f a) : 0 ≤ f b ∧ f b ≤ f a + k := by
  induction w with
  | nil => exact ⟨ha, by omega⟩
  | cons e _ ih =>
    have d := h.done _ (new_iff ha) _ e
    have := ih d.1
    omega
/-- What was found is the least number of steps. -/
theorem sp_least {nb : Nat → Nat → Prop} {f : Nat → Int} {S : Nat} (sy : ∀ u v, nb u v → nb v u) (h : Sp nb minus1 f S) {k v : Nat} (w : Wlk nb k v S) : 0 ≤ f v ∧ f v ≤ (k : Int) := by
  have := wlk_sp h (w.symm sy) (by rw [h.s]; exact Int.le_refl _)
  rw [h.s] at this
  omega
theorem sp_is {nb : Nat → Nat → Prop} {f : Nat → Int} {S : Nat} (sy : ∀ u v, nb u v → nb v u) (h : Sp nb minus1 f S) {v : Nat} (hv : 0 ≤ f v) : Wlk nb (f v).toNat v S := sp_wlk sy h _ v (by omega)
theorem sp_symm {nb : Nat → Nat → Prop} {f g : Nat → Int} {a b : Nat} (sy : ∀ u v, nb u v → nb v u) (hf : Sp nb minus1 f b) (hg : Sp nb minus1 g a) : (0 ≤ f a ↔ 0 ≤ g b) ∧ (0 ≤ f a → f a = g b) := by
  have x1 : 0 ≤ f a → 0 ≤ g b ∧ g b ≤ f a := fun h => by
    have := sp_least sy hg ((sp_is sy hf h).symm sy); omega
  have x2 : 0 ≤ g b → 0 ≤ f a ∧ f a ≤ g b := fun h => by
    have := sp_least sy hf ((sp_is sy hg h).symm sy); omega
  exact ⟨⟨fun h => (x1 h).1, fun h => (x2 h).1⟩, fun h => by have := x1 h; have := x2 this.1; omega⟩
theorem sp_over {nb : Nat → Nat → Prop} {f h g : Nat → Int} {a b c : Nat} (sy : ∀ u v, nb u v → nb v u) (hf : Sp nb minus1 f b) (hh : Sp nb minus1 h c) (hg : Sp nb minus1 g b) (hab : 0 ≤ f a) : (0 ≤ h a ↔ 0 ≤ g c) ∧ (0 ≤ h a → f a ≤ h a + g c) := by
  have wab := sp_is sy hf hab
  have x1 : 0 ≤ h a → 0 ≤ g c := fun k => (sp_least sy hg (((sp_is sy hh k).symm sy).trans wab)).1
  have x2 : 0 ≤ g c → 0 ≤ h a := fun k => (sp_least sy hh (wab.trans ((sp_is sy hg k).symm sy))).1
  refine ⟨⟨x1, x2⟩, fun k => ?_⟩
  have k2 := x1 k
  have := sp_least sy hf ((sp_is sy hh k).trans (sp_is sy hg k2))
  omega
/-- Nodes are joined exactly if there is a walk. -/
theorem wlk_cn {E nb : Nat → Nat → Prop} (h : ∀ a b, nb a b → E a b ∨ E b a) {k a b : Nat} (w : Wlk nb k a b) : Cn E a b := by
  induction w with
  | nil => exact .refl _
  | cons e _ ih => exact (Cn.tail (.refl _) (h _ _ e)).trans ih
theorem cn_wlk {E nb : Nat → Nat → Prop} (sy : ∀ u v, nb u v → nb v u) (h : ∀ a b, E a b → nb a b) {a b : Nat} (c : Cn E a b) : ∃ k, Wlk nb k a b := by
  induction c with
  | refl => exact ⟨0, .nil _⟩
  | tail _ e ih =>
    obtain ⟨k, w⟩ := ih
    rcases e with e | e
    · exact ⟨_, w.snoc (h _ _ e)⟩
    · exact ⟨_, w.snoc (sy _ _ (h _ _ e))⟩
/-- The edges of a list, as a relation. -/
def edg (l : List (Nat × Nat)) (xs : List Nat) (a b : Nat) : Prop := ∃ i ∈ xs, l[i]? = some (a, b)
theorem nbr_edg {l : List (Nat × Nat)} {n : Nat} {xs : List Nat} {a b : Nat} (h : nbr l n (adj l xs) a b) : edg l xs a b ∨ edg l xs b a := by
  obtain ⟨-, i, hi, x, hx, rfl⟩ := h
  obtain ⟨hm, y, hy, e⟩ := adj_mem hi
  rw [hx] at hy; cases hy
  unfold oth
  by_cases e1 : x.1 = a
  · rw [if_pos e1]; exact .inl ⟨i, hm, by rw [hx, ← e1]⟩
  · rw [if_neg e1]
    rcases e with e | e
    · exact absurd e e1
    · exact .inr ⟨i, hm, by rw [hx, ← e]⟩
theorem edg_nbr {l : List (Nat × Nat)} {n : Nat} {xs : List Nat} (hl : ∀ x ∈ l, x.1 < n ∧ x.2 < n ∧ x.1 ≠ x.2) {a b : Nat} (h : edg l xs a b) : nbr l n (adj l xs) a b := by
  obtain ⟨i, hi, hx⟩ := h
  have hm := hl _ (List.mem_of_getElem? hx)
  exact ⟨hm.1, i, List.mem_filter.2 ⟨hi, by unfold inc; rw [hx]; simp⟩, _, hx, by simp [oth]⟩
theorem edg_all {l : List (Nat × Nat)} {a b : Nat} : edg l (List.range l.length) a b ↔ ed l l.length (-1) a b :=
  ⟨fun ⟨i, hi, hx⟩ => ⟨i, List.mem_range.1 hi, by omega, hx⟩, fun ⟨i, hi, _, hx⟩ => ⟨i, List.mem_range.2 hi, hx⟩⟩
theorem pre_wlk {l : List (Nat × Nat)} {n : Nat} (hl : ∀ x ∈ l, x.1 < n ∧ x.2 < n ∧ x.1 ≠ x.2) (a b : Nat) : pre l l.length a = pre l l.length b ↔ ∃ k, Wlk (nbr l n (adj l (List.range l.length))) k a b := by
  have L := pre_lab l l.length (Nat.le_refl _)
  constructor
  · intro e
    have c : Cn (ed l l.length (-1)) a b := (L.c a).trans (by rw [e]; exact (L.c b).symm)
    exact cn_wlk (fun u v h => nbr_symm hl h) (fun a b h => edg_nbr hl (edg_all.2 h)) c
  · rintro ⟨k, w⟩
    exact L.const (wlk_cn (fun a b h => (nbr_edg h).imp (fun h => edg_all.1 h) fun h => edg_all.1 h) w)
theorem sp_joined {l : List (Nat × Nat)} {n : Nat} (hl : ∀ x ∈ l, x.1 < n ∧ x.2 < n ∧ x.1 ≠ x.2) {f : Nat → Int} {a b : Nat} (h : Sp (nbr l n (adj l (List.range l.length))) minus1 f b) : 0 ≤ f a ↔ pre l l.length a = pre l l.length b := by
  rw [pre_wlk hl]
  exact ⟨fun k => ⟨_, sp_is (fun u v h => nbr_symm hl h) h k⟩, fun ⟨k, w⟩ => (sp_least (fun u v h => nbr_symm hl h) h w).1⟩

/-- The path that is found: each edge leads on. -/
def leads (l : List (Nat × Nat)) (b : Nat) : Nat → List Nat → Prop
  | v, [] => v = b
  | v, i :: t => ∃ x, l[i]? = some x ∧ (x.1 = v ∨ x.2 = v) ∧ leads l b (oth x v) t
theorem gp_leads {l : List (Nat × Nat)} {n : Nat} {xs : List Nat} (hl : ∀ x ∈ l, x.1 < n ∧ x.2 < n ∧ x.1 ≠ x.2) {f : Nat → Int} {b : Nat} (h : Sp (nbr l n (adj l xs)) minus1 f b) : ∀ (k v : Nat), v < n → f v = (k : Int) → leads l b v (gp l (adj l xs) f k v) ∧ (gp l (adj l xs) f k v).length = k
  | 0, v, hv, e => ⟨sp_zero h (new_iff (by rw [e]; exact Int.le_refl _)) e, rfl⟩
  | k + 1, v, hv, e => by
    have nv : New minus1 f v := new_iff (by omega)
    have ne : v ≠ b := by rintro rfl; rw [h.s] at e; omega
    obtain ⟨i, hi, hr⟩ := sp_near hl h nv ne
    cases hf : (adj l xs v).find? (nr l f v) with
    | none => exact absurd hr (by simpa using List.find?_eq_none.1 hf i hi)
    | some j =>
      have hj := List.mem_of_find?_eq_some hf
      have hjr := List.find?_some hf
      obtain ⟨-, x, hx, hxv⟩ := adj_mem hj
      obtain ⟨-, e2, lt⟩ := sp_step hl (fun _ _ _ _ => by simp [minus1]) h nv hv hj hx hjr
      have ih := gp_leads hl h k (oth x v) lt (by omega)
      simp only [gp, hf, hx, leads]
      exact ⟨⟨x, rfl, hxv, ih.1⟩, by simp [ih.2]⟩
end Go.Proofs.Ytampfciacjifgaa
