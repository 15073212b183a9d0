/- Lists of lists of whole numbers in memory of the call's own. -/
import Derived.Test.YtepcokgpepcccaaDoorFpt
namespace Go.Proofs.YtepcokgpepcccaaDoor
open Go.ChangeShapes Go.WideShapes Go.ChangeAt Go.RowKit
set_option linter.unusedVariables false
set_option linter.unusedSimpArgs false

structure Nst (B : Nat) (w : World) (v : Value) (ls : List (List Int)) (vs : List Value) : Prop where
  row : w.ownsRow B 22 1 v ls.length vs
  len : vs.length = ls.length
  own : ∀ (i : Nat) (u : Value) (xs : List Int), vs[i]? = some u → ls[i]? = some xs → OwnZ B w u xs ∧ ∀ b, u.ownBlock = some b → v.ownBlock ≠ some b
theorem Nst.on {B : Nat} {w w1 : World} {v : Value} {ls : List (List Int)} {vs : List Value} (h : Nst B w v ls vs) (hb : Below w.heap.size w w1) : Nst B w1 v ls vs :=
  ⟨own_on h.row hb, h.len, fun i u xs a b => ⟨(h.own i u xs a b).1.on hb, (h.own i u xs a b).2⟩⟩
theorem Nst.nil (B : Nat) (w : World) : Nst B w (.slice none 0 0) [] [] :=
  ⟨World.ownsRow_nil _ _ _ _, rfl, (fun i u xs h => by cases h)⟩
theorem Nst.push {B : Nat} {w w1 : World} {v v' u : Value} {vs : List Value} {ls : List (List Int)} {xs : List Int} (h : Nst B w v ls vs)
    (hu : OwnZ B w u xs) (hr : ∀ b, u.ownBlock = some b → v.ownBlock ≠ some b)
    (o1 : w1.ownsRow B 22 1 v' (ls.length + 1) (vs ++ [u])) (hg : w.grownBy w1 v.ownBlock) (hv : v'.ownBlock = v.ownBlock ∨ v'.ownBlock = some w.heap.size) : Nst B w1 v' (ls ++ [xs]) (vs ++ [u]) := by
  have kept : ∀ (y : Value) (ys : List Int), OwnZ B w y ys → (∀ b, y.ownBlock = some b → v.ownBlock ≠ some b) → OwnZ B w1 y ys := fun y ys h k => by
    refine World.ownsRow.kept h hg ?_
    cases e : y.ownBlock with
    | none => exact .inl rfl
    | some b => exact .inr (Ne.symm (k b e))
  have far : ∀ (y : Value) (ys : List Int) (b : Nat), OwnZ B w y ys → y.ownBlock = some b → v.ownBlock ≠ some b → v'.ownBlock ≠ some b := fun y ys b h e k => by
    rcases hv with h1 | h1
    · rw [h1]; exact k
    · rw [h1]
      have := (World.ownsRow.lt h _ e).2
      simp; omega
  refine ⟨by rw [List.length_append]; exact o1, by simp [h.len], fun i y ys h1 h2 => ?_⟩
  rcases Nat.lt_or_ge i ls.length with k | k
  · rw [List.getElem?_append_left (by rw [h.len]; exact k)] at h1
    rw [List.getElem?_append_left k] at h2
    obtain ⟨a, b⟩ := h.own i y ys h1 h2
    exact ⟨kept y ys a b, fun c e => far y ys c a e (b c e)⟩
  · have hi : i < (ls ++ [xs]).length := (List.getElem?_eq_some_iff.1 h2).1
    have : i = ls.length := by simp at hi; omega
    subst this
    rw [List.getElem?_append_right (by rw [h.len]; exact Nat.le_refl _), h.len, Nat.sub_self] at h1
    rw [List.getElem?_append_right (Nat.le_refl _), Nat.sub_self] at h2
    simp at h1 h2
    subst h1 h2
    exact ⟨kept u xs hu hr, fun c e => far u xs c hu e (hr c e)⟩
theorem Nst.rd {B : Nat} {w : World} {v : Value} {ls : List (List Int)} {vs : List Value} (h : Nst B w v ls vs) : Rdzz w v ls := by
  obtain ⟨hl, ⟨rfl, h0⟩ | ⟨g, cap, cur, rfl, hB, hg, -, -, hs, ht⟩⟩ := h.row
  · exact ⟨none, 0, by rw [h0], fun j hj => by omega⟩
  · refine ⟨_, cap, rfl, fun j hj => ?_⟩
    have hj' : j < vs.length := by rw [h.len]; exact hj
    have e : cur.toList[j]? = some vs[j] := by
      have : (cur.toList.take (ls.length * 1))[j]? = vs[j]? := by rw [ht]
      rw [List.getElem?_take_of_lt (by omega)] at this
      rw [this]; simp [hj']
    refine ⟨_, vs[j], rfl, ?_, (h.own j vs[j] ls[j] (List.getElem?_eq_getElem hj') (List.getElem?_eq_getElem hj)).1.rd⟩
    rw [Addr.add_lit, Nat.zero_add, cell_of_row w g j cur _ _ hg]
    simpa using e
theorem info22 : (Tryd.prog.info? 22).map (fun i => (i.zero, i.size, i.bytes)) = some (some (.slice none 0 0), 1, 24) := by kernel_rfl
end Go.Proofs.YtepcokgpepcccaaDoor
