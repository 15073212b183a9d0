/- The search in depth finds the classes of nodes that reach each other. -/
import Derived.Test.YteofbbakegcohaaPt
namespace Go.Proofs.Yteofbbakegcohaa
open Go.ChangeShapes Go.WideShapes Go.ChangeAt Go.RowKit
set_option linter.unusedVariables false
set_option linter.unusedSimpArgs false


/-- A node reaches another one. -/
inductive Rch (A : Nat → List Nat) : Nat → Nat → Prop
  | refl (v : Nat) : Rch A v v
  | step {v u w : Nat} : u ∈ A v → Rch A u w → Rch A v w
theorem Rch.trans {A : Nat → List Nat} {a b c : Nat} (h : Rch A a b) (k : Rch A b c) : Rch A a c := by
  induction h with
  | refl v => exact k
  | step hu _ ih => exact .step hu (ih k)
theorem Rch.edge {A : Nat → List Nat} {a b : Nat} (h : b ∈ A a) : Rch A a b := .step h (.refl b)
theorem Rch.closed {A : Nat → List Nat} {P : Nat → Prop} (hP : ∀ x, P x → ∀ y ∈ A x, P y) {a b : Nat} (h : Rch A a b) (ha : P a) : P b := by
  induction h with
  | refl v => exact ha
  | step hu _ ih => exact ih (hP _ ha _ hu)
def Sam (A : Nat → List Nat) (a b : Nat) : Prop := Rch A a b ∧ Rch A b a
structure Inv (n : Nat) (A : Nat → List Nat) (s : TS) (gr : List Nat) : Prop where
  s1 : ∀ x, x ∈ s.stk ↔ (s.num x ≠ 0 ∧ s.num x ≠ n + 1)
  s2 : s.stk.Pairwise (fun a b => s.num a < s.num b)
  s3 : ∀ x ∈ s.stk, s.num x ≤ s.vis
  g : ∀ x ∈ gr, x ∈ s.stk
  b : ∀ x, s.num x ≠ 0 → x ∉ gr → ∀ y ∈ A x, s.num y ≠ 0
  f : ∀ x, s.num x = n + 1 → ∀ y ∈ A x, s.num y = n + 1
  up : ∀ y ∈ s.stk, ∃ g ∈ gr, s.num g ≤ s.num y ∧ Rch A y g
  dn : ∀ g ∈ gr, ∀ y ∈ s.stk, s.num g ≤ s.num y → Rch A g y
  p1 : ∀ p ∈ s.prt, p.Nodup ∧ p.Pairwise (· ≤ ·) ∧ p ≠ [] ∧ ∀ x ∈ p, s.num x = n + 1 ∧ ∀ y, y ∈ p ↔ Sam A x y
  p2 : ∀ x, s.num x = n + 1 → ∃ p ∈ s.prt, x ∈ p
  p3 : s.prt.Pairwise (fun p q => ∀ x ∈ p, x ∉ q)
structure Pst (n : Nat) (A : Nat → List Nat) (s : TS) (v : Nat) (gr : List Nat) (t : TS) (r : Nat) : Prop where
  inv : Inv n A t gr
  num : ∀ x, s.num x ≠ 0 → t.num x = s.num x
  vis : s.vis < t.vis
  vz : t.num v ≠ 0
  stk : ∃ T, t.stk = s.stk ++ T ∧ (∀ x ∈ T, s.num x = 0) ∧ (∀ x ∈ T, ∀ y ∈ A x, y ∈ s.stk → r ≤ s.num y) ∧ ((T = [] ∧ r = s.vis + 1) ∨ (r ≤ s.vis ∧ ∃ y ∈ s.stk, s.num y = r ∧ Rch A v y))
theorem tin_inv {n : Nat} {A : Nat → List Nat} {s : TS} {gr : List Nat} {v : Nat} (h : Inv n A s gr) (h0 : s.num v = 0) (hn : s.vis + 1 ≤ n) (hg : ∀ g ∈ gr, Rch A g v) : Inv n A (tin s v) (gr ++ [v]) := by
  have hvs : v ∉ s.stk := fun k => ((h.s1 v).1 k).1 h0
  have old : ∀ x, x ≠ v → (tin s v).num x = s.num x := fun x hx => upd_other hx
  have new : (tin s v).num v = s.vis + 1 := upd_same _ _ _
  have ne : ∀ x, x ∈ s.stk → x ≠ v := fun x hx e => hvs (e ▸ hx)
  have mem : ∀ x, x ∈ (tin s v).stk ↔ x ∈ s.stk ∨ x = v := fun x => by show x ∈ s.stk ++ [v] ↔ _; rw [List.mem_append, List.mem_singleton]
  have nf : ∀ x, (tin s v).num x = n + 1 ↔ s.num x = n + 1 := fun x => by
    by_cases e : x = v
    · subst e; rw [new, h0]; omega
    · rw [old x e]
  have nz : ∀ x, s.num x ≠ 0 → (tin s v).num x ≠ 0 := fun x hx => by
    by_cases e : x = v
    · subst e; rw [new]; omega
    · rw [old x e]; exact hx
  refine ⟨fun x => ?_, ?_, fun x hx => ?_, fun x hx => ?_, fun x hx hxg y hy => ?_, fun x hx y hy => ?_, fun y hy => ?_, fun g hg' y hy hle => ?_, fun p hp => ?_, fun x hx => ?_, h.p3⟩
  · rw [mem]
    by_cases e : x = v
    · subst e; rw [new]; exact ⟨fun _ => ⟨by omega, by omega⟩, fun _ => .inr rfl⟩
    · rw [old x e, ← h.s1 x]
      exact ⟨fun k => k.resolve_right e, .inl⟩
  · show (s.stk ++ [v]).Pairwise _
    rw [List.pairwise_append]
    refine ⟨h.s2.imp_of_mem (fun {a b} ha hb k => by rw [old a (ne a ha), old b (ne b hb)]; exact k), List.pairwise_singleton _ _, fun a ha b hb => ?_⟩
    rw [List.mem_singleton.1 hb, new, old a (ne a ha)]
    have := h.s3 a ha; omega
  · show (tin s v).num x ≤ s.vis + 1
    rcases (mem x).1 hx with k | k
    · rw [old x (ne x k)]; have := h.s3 x k; omega
    · subst k; rw [new]; omega
  · rw [mem]
    rcases List.mem_append.1 hx with k | k
    · exact .inl (h.g x k)
    · exact .inr (List.mem_singleton.1 k)
  · have hxv : x ≠ v := fun e => hxg (by simp [e])
    rw [old x hxv] at hx
    exact nz y (h.b x hx (fun k => hxg (by simp [k])) y hy)
  · exact (nf y).2 (h.f x ((nf x).1 hx) y hy)
  · rcases (mem y).1 hy with k | k
    · obtain ⟨g, hg1, hg2, hg3⟩ := h.up y k
      exact ⟨g, by simp [hg1], by rw [old g (ne g (h.g g hg1)), old y (ne y k)]; exact hg2, hg3⟩
    · subst k; exact ⟨y, by simp, Nat.le_refl _, .refl y⟩
  · rcases List.mem_append.1 hg' with k | k
    · rcases (mem y).1 hy with m | m
      · rw [old g (ne g (h.g g k)), old y (ne y m)] at hle
        exact h.dn g k y m hle
      · subst m; exact hg g k
    · rw [List.mem_singleton.1 k, new] at hle
      rw [List.mem_singleton.1 k]
      rcases (mem y).1 hy with m | m
      · rw [old y (ne y m)] at hle
        have := h.s3 y m; omega
      · subst m; exact .refl y
  · obtain ⟨a, b, c, d⟩ := h.p1 p hp
    exact ⟨a, b, c, fun x hx => ⟨(nf x).2 (d x hx).1, (d x hx).2⟩⟩
  · exact h.p2 x ((nf x).1 hx)
/-- What the loop over the nodes behind v keeps. -/
structure Fsn (n : Nat) (A : Nat → List Nat) (s : TS) (v : Nat) (gr : List Nat) (pre : List Nat) (t : TS) (l : Nat) : Prop where
  inv : Inv n A t (gr ++ [v])
  num : ∀ x, (tin s v).num x ≠ 0 → t.num x = (tin s v).num x
  vis : s.vis < t.vis
  pz : ∀ y ∈ pre, t.num y ≠ 0
  le : l ≤ s.vis + 1
  f2 : l = s.vis + 1 ∨ ∃ y ∈ s.stk, s.num y = l ∧ Rch A v y
  stk : ∃ T, t.stk = (s.stk ++ [v]) ++ T ∧ (∀ x ∈ T, (tin s v).num x = 0) ∧ (∀ x ∈ T, ∀ y ∈ A x, y ∈ s.stk → l ≤ s.num y)
  f1 : ∀ y ∈ pre, y ∈ s.stk → l ≤ s.num y
theorem fsn_fold {n k : Nat} {A : Nat → List Nat} (hA : ∀ v, v < n → ∀ u ∈ A v, u < n)
    (hv : ∀ v s gr, v < n → s.num v = 0 → zc s.num n ≤ k → Tk n s → Inv n A s gr → (∀ g ∈ gr, Rch A g v) → Pst n A s v gr (tvis n A k v s).1 (tvis n A k v s).2)
    {s : TS} {v : Nat} {gr : List Nat} (hS : Inv n A s gr) (h0 : s.num v = 0) (hvis : s.vis + 1 ≤ n) (hvn : v < n) :
    ∀ (xs pre : List Nat) (t : TS) (l : Nat), A v = pre ++ xs → Tk n t → zc t.num n ≤ k → Fsn n A s v gr pre t l → Fsn n A s v gr (A v) (xs.foldl (tstp (tvis n A k)) (t, l)).1 (xs.foldl (tstp (tvis n A k)) (t, l)).2
  | [], pre, t, l, he, _, _, h => by
    rw [List.append_nil] at he
    rw [he]; exact h
  | x :: xs, pre, t, l, he, hT, hz, h => by
    rw [List.foldl_cons]
    have hxA : x ∈ A v := by rw [he]; simp
    have hxn := hA v hvn x hxA
    have he' : A v = (pre ++ [x]) ++ xs := by rw [he]; simp
    have old : ∀ y, y ∈ s.stk → (tin s v).num y = s.num y ∧ s.num y ≠ 0 := fun y hy => by
      have k := (hS.s1 y).1 hy
      exact ⟨upd_other (fun e => k.1 (e ▸ h0)), k.1⟩
    have told : ∀ y, y ∈ s.stk → t.num y = s.num y := fun y hy => by
      rw [h.num y (by rw [(old y hy).1]; exact (old y hy).2), (old y hy).1]
    obtain ⟨T, eT, hT0, hT1⟩ := h.stk
    have vst : v ∈ t.stk := by rw [eT]; simp
    have numv : t.num v = s.vis + 1 := by rw [h.num v (by simp [tin, upd_same])]; simp [tin, upd_same]
    by_cases hx : t.num x = 0
    · have e : tstp (tvis n A k) (t, l) x = ((tvis n A k x t).1, min l (tvis n A k x t).2) := by unfold tstp; rw [if_pos hx]
      rw [e]
      have hgx : ∀ g ∈ gr ++ [v], Rch A g x := fun g hg => by
        have hgs := h.inv.g g hg
        have hle : t.num g ≤ t.num v := by
          rcases List.mem_append.1 hg with m | m
          · have hgs2 := hS.g g m
            rw [told g hgs2, numv]
            have := hS.s3 g hgs2; omega
          · rw [List.mem_singleton.1 m]; exact Nat.le_refl _
        exact (h.inv.dn g hg v vst hle).trans (.edge hxA)
      have P := hv x t (gr ++ [v]) hxn hx hz hT h.inv hgx
      obtain ⟨td1, td2, -, -⟩ := tvis_td hA k x t hxn hx hz hT
      obtain ⟨U, eU, hU0, hU1, hU2⟩ := P.stk
      refine fsn_fold hA hv hS h0 hvis hvn xs (pre ++ [x]) _ _ he' td1 (Nat.le_trans (zc_mono td2.m n) hz) ⟨P.inv, fun y hy => ?_, by have := P.vis; have := h.vis; omega, fun y hy => ?_, by have := h.le; omega, ?_, ?_, fun y hy hys => ?_⟩
      · rw [P.num y (by rw [h.num y hy]; exact hy), h.num y hy]
      · rcases List.mem_append.1 hy with m | m
        · exact td2.m y (h.pz y m)
        · rw [List.mem_singleton.1 m]; exact P.vz
      · rcases Nat.lt_or_ge (tvis n A k x t).2 l with c | c
        · rw [Nat.min_eq_right (Nat.le_of_lt c)]
          rcases hU2 with ⟨-, hr⟩ | ⟨-, y, hy, hyr, hxy⟩
          · have := h.le; have := h.vis; omega
          · right
            have hys : y ∈ s.stk := by
              rw [eT] at hy
              rcases List.mem_append.1 hy with m | m
              · rcases List.mem_append.1 m with m | m
                · exact m
                · rw [List.mem_singleton.1 m, numv] at hyr; have := h.le; omega
              · have hsort := h.inv.s2
                rw [eT, List.pairwise_append] at hsort
                have := hsort.2.2 v (by simp) y m
                rw [numv, hyr] at this
                have := h.le; omega
            exact ⟨y, hys, by rw [← told y hys]; exact hyr, .step hxA hxy⟩
        · rw [Nat.min_eq_left c]; exact h.f2
      · refine ⟨T ++ U, by rw [eU, eT]; simp, fun y hy => ?_, fun y hy z hz2 hzs => ?_⟩
        · rcases List.mem_append.1 hy with m | m
          · exact hT0 y m
          · have := hU0 y m
            by_cases e : (tin s v).num y = 0
            · exact e
            · rw [h.num y e] at this; exact this
        · rcases List.mem_append.1 hy with m | m
          · have := hT1 y m z hz2 hzs; omega
          · have := hU1 y m z hz2 (by rw [eT]; simp [hzs])
            rw [told z hzs] at this; omega
      · rcases List.mem_append.1 hy with m | m
        · have := h.f1 y m hys; omega
        · rw [List.mem_singleton.1 m] at hys
          rw [told x hys] at hx
          exact absurd hx (old x hys).2
    · have e : tstp (tvis n A k) (t, l) x = (t, min l (t.num x)) := by unfold tstp; rw [if_neg hx]
      rw [e]
      refine fsn_fold hA hv hS h0 hvis hvn xs (pre ++ [x]) _ _ he' hT hz ⟨h.inv, h.num, h.vis, fun y hy => ?_, by have := h.le; omega, ?_, ⟨T, eT, hT0, fun y hy z hz2 hzs => by have := hT1 y hy z hz2 hzs; omega⟩, fun y hy hys => ?_⟩
      · rcases List.mem_append.1 hy with m | m
        · exact h.pz y m
        · rw [List.mem_singleton.1 m]; exact hx
      · rcases Nat.lt_or_ge (t.num x) l with c | c
        · rw [Nat.min_eq_right (Nat.le_of_lt c)]
          right
          have hxf : t.num x ≠ n + 1 := by have := h.le; omega
          have hxs := (h.inv.s1 x).2 ⟨hx, hxf⟩
          have hys : x ∈ s.stk := by
            rw [eT] at hxs
            rcases List.mem_append.1 hxs with m | m
            · rcases List.mem_append.1 m with m | m
              · exact m
              · rw [List.mem_singleton.1 m, numv] at c; have := h.le; omega
            · have hsort := h.inv.s2
              rw [eT, List.pairwise_append] at hsort
              have := hsort.2.2 v (by simp) x m
              rw [numv] at this
              have := h.le; omega
          exact ⟨x, hys, (told x hys).symm, .edge hxA⟩
        · rw [Nat.min_eq_left c]; exact h.f2
      · rcases List.mem_append.1 hy with m | m
        · have := h.f1 y m hys; omega
        · rw [List.mem_singleton.1 m] at hys ⊢
          rw [told x hys]; omega
end Go.Proofs.Yteofbbakegcohaa
