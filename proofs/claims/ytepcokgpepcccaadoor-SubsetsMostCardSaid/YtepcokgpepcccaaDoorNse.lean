/- Lists of lists of whole numbers of the call's own, that grow. -/
import Derived.Test.YtepcokgpepcccaaDoorNst
namespace Go.Proofs.YtepcokgpepcccaaDoor
open Go.ChangeShapes Go.WideShapes Go.ChangeAt Go.RowKit
set_option linter.unusedVariables false
set_option linter.unusedSimpArgs false

/-- The values vs of the outer row: each a list of its own, no two in one block, none in the outer row's. -/
structure Inn (B : Nat) (w : World) (row : Option Nat) (vs : List Value) (ls : List (List Int)) : Prop where
  len : vs.length = ls.length
  own : ∀ (i : Nat) (u : Value) (xs : List Int), vs[i]? = some u → ls[i]? = some xs → OwnZ B w u xs
  dis : ∀ (i j : Nat) (u u' : Value) (b : Nat), i ≠ j → vs[i]? = some u → vs[j]? = some u' → u.ownBlock = some b → u'.ownBlock ≠ some b
  out : ∀ (i : Nat) (u : Value) (b : Nat), vs[i]? = some u → u.ownBlock = some b → row ≠ some b
def Nest (B : Nat) (w : World) (v : Value) (ls : List (List Int)) : Prop := ∃ vs, w.ownsRow B 22 1 v ls.length vs ∧ Inn B w v.ownBlock vs ls
theorem Inn.on {B : Nat} {w w1 : World} {row : Option Nat} {vs : List Value} {ls : List (List Int)} (h : Inn B w row vs ls) (hb : Below w.heap.size w w1) : Inn B w1 row vs ls :=
  ⟨h.len, fun i u xs a b => own_on (h.own i u xs a b) hb, h.dis, h.out⟩
theorem Nest.on {B : Nat} {w w1 : World} {v : Value} {ls : List (List Int)} (h : Nest B w v ls) (hb : Below w.heap.size w w1) : Nest B w1 v ls := by
  obtain ⟨vs, o, i⟩ := h; exact ⟨vs, own_on o hb, i.on hb⟩
theorem Inn.get {B : Nat} {w : World} {row : Option Nat} {vs : List Value} {ls : List (List Int)} (h : Inn B w row vs ls) {i : Nat} {u : Value} (hu : vs[i]? = some u) : ∃ xs, ls[i]? = some xs ∧ OwnZ B w u xs := by
  have hi : i < ls.length := by rw [← h.len]; exact (List.getElem?_eq_some_iff.1 hu).1
  exact ⟨ls[i], List.getElem?_eq_getElem hi, h.own i u _ hu (List.getElem?_eq_getElem hi)⟩
theorem Nest.nil (B : Nat) (w : World) : Nest B w (.slice none 0 0) [] :=
  ⟨[], World.ownsRow_nil _ _ _ _, rfl, (fun i u xs h => by cases h), (fun i j u u' b _ h => by cases h), (fun i u b h => by cases h)⟩
/-- A list more. -/
theorem Nest.push {B : Nat} {w w1 : World} {v v' u : Value} {vs : List Value} {ls : List (List Int)} {xs : List Int} (o : w.ownsRow B 22 1 v ls.length vs) (I : Inn B w v.ownBlock vs ls)
    (hu : OwnZ B w u xs) (hd : ∀ (i : Nat) (y : Value) (b : Nat), vs[i]? = some y → y.ownBlock = some b → u.ownBlock ≠ some b) (hr : ∀ b, u.ownBlock = some b → v.ownBlock ≠ some b)
    (o1 : w1.ownsRow B 22 1 v' (ls.length + 1) (vs ++ [u])) (hg : w.grownBy w1 v.ownBlock) (hv : v'.ownBlock = v.ownBlock ∨ v'.ownBlock = some w.heap.size) : Nest B w1 v' (ls ++ [xs]) := by
  have kept : ∀ (y : Value) (ys : List Int), OwnZ B w y ys → (∀ b, y.ownBlock = some b → v.ownBlock ≠ some b) → OwnZ B w1 y ys := fun y ys h k => by
    refine World.ownsRow.kept h hg ?_
    cases e : y.ownBlock with
    | none => exact .inl rfl
    | some b => exact .inr (Ne.symm (k b e))
  have far : ∀ (y : Value) (ys : List Int) (b : Nat), OwnZ B w y ys → y.ownBlock = some b → v.ownBlock ≠ some b → v'.ownBlock ≠ some b := fun y ys b h e k => by
    rcases hv with h1 | h1
    · rw [h1]; exact k
    · rw [h1]
      have := (World.ownsRow.lt h _ e).2
      simp; omega
  have at_ : ∀ (i : Nat) (y : Value), (vs ++ [u])[i]? = some y → (vs[i]? = some y) ∨ (i = ls.length ∧ y = u) := fun i y h => by
    rcases Nat.lt_or_ge i vs.length with k | k
    · rw [List.getElem?_append_left k] at h; exact .inl h
    · rw [List.getElem?_append_right k] at h
      right
      have : i - vs.length = 0 := by
        have := (List.getElem?_eq_some_iff.1 h).1
        simp at this; omega
      rw [this] at h
      simp at h
      exact ⟨by have := I.len; omega, h.symm⟩
  refine ⟨vs ++ [u], by rw [List.length_append]; exact o1, ?_, ?_, ?_, ?_⟩
  · simp [I.len]
  · intro i y ys h1 h2
    rcases at_ i y h1 with k | ⟨rfl, rfl⟩
    · have hi : i < ls.length := by rw [← I.len]; exact (List.getElem?_eq_some_iff.1 k).1
      rw [List.getElem?_append_left hi] at h2
      exact kept y ys (I.own i y ys k h2) (fun b e => I.out i y b k e)
    · rw [List.getElem?_append_right (Nat.le_refl _), Nat.sub_self] at h2
      simp at h2
      subst h2
      exact kept y xs hu hr
  · intro i j y y' b hij h1 h2 e
    rcases at_ i y h1 with k1 | ⟨e1, rfl⟩
    · rcases at_ j y' h2 with k2 | ⟨e2, rfl⟩
      · exact I.dis i j y y' b hij k1 k2 e
      · exact hd i y b k1 e
    · rcases at_ j y' h2 with k2 | ⟨e2, rfl⟩
      · intro e2; exact hd j y' b k2 e2 e
      · omega
  · intro i y b h1 e
    rcases at_ i y h1 with k | ⟨_, rfl⟩
    · obtain ⟨ys, hy, ho⟩ := I.get k
      exact far y ys b ho e (I.out i y b k e)
    · exact far y xs b hu e (hr b e)
/-- One of the lists has grown, and lies in the outer row again. -/
theorem Nest.grow {B g n cap i : Nat} {w w1 : World} {u u' : Value} {vs : List Value} {ls : List (List Int)} {xs : List Int} {x : Int} (o : w.ownsRow B 22 1 (.slice (some ⟨g, 0, none⟩) n cap) n vs) (I : Inn B w (some g) vs ls) (hn : n = ls.length)
    (hu : vs[i]? = some u) (hx : ls[i]? = some xs) (o1 : w1.ownsRow B 3 1 u' (xs.length + 1) (zv xs ++ [.int .i64 x])) (hg : w.grownBy w1 u.ownBlock) (hv : u'.ownBlock = u.ownBlock ∨ u'.ownBlock = some w.heap.size) :
    Nest B (w1.setCell ⟨g, i, none⟩ u') (.slice (some ⟨g, 0, none⟩) n cap) (ls.set i (xs ++ [x])) := by
  subst hn
  have hi : i < ls.length := (List.getElem?_eq_some_iff.1 hx).1
  have gl := (o.lt g rfl).2
  have o2 : w1.ownsRow B 22 1 (.slice (some ⟨g, 0, none⟩) ls.length cap) ls.length vs := by
    refine World.ownsRow.kept o hg (.inr ?_)
    intro e
    exact I.out i u g hu e.symm rfl
  have o3 := World.ownsRow.stored o2 i u'
  have A : w1.grownBy (w1.setCell ⟨g, i, none⟩ u') (some g) := o3.2
  have kept : ∀ (y : Value) (ys : List Int), OwnZ B w y ys → (∀ b, y.ownBlock = some b → u.ownBlock ≠ some b ∧ b ≠ g) → OwnZ B (w1.setCell ⟨g, i, none⟩ u') y ys := fun y ys h k => by
    refine World.ownsRow.kept (World.ownsRow.kept h hg ?_) A ?_
    · cases e : y.ownBlock with
      | none => exact .inl rfl
      | some b => exact .inr (Ne.symm (k b e).1)
    · cases e : y.ownBlock with
      | none => exact .inl rfl
      | some b => exact .inr (fun e2 => by cases e2; exact (k g e).2 rfl)
  have ung : u'.ownBlock ≠ some g := by
    intro e
    rcases hv with h | h
    · rw [h] at e; exact I.out i u g hu e rfl
    · rw [h] at e; simp at e; omega
  refine ⟨vs.set i u', by rw [List.length_set]; exact o3.1, by simp [I.len], ?_, ?_, ?_⟩
  · intro j y ys h1 h2
    rw [List.getElem?_set] at h1 h2
    by_cases e : i = j
    · subst e
      rw [if_pos rfl, if_pos (by rw [I.len]; exact hi)] at h1
      rw [if_pos rfl, if_pos hi] at h2
      simp at h1 h2
      subst h1 h2
      unfold OwnZ
      rw [zv_app, List.length_append]
      refine World.ownsRow.kept o1 A (.inr ung)
    · rw [if_neg e] at h1 h2
      refine kept y ys (I.own j y ys h1 h2) fun b eb => ⟨?_, ?_⟩
      · exact I.dis j i y u b (Ne.symm e) h1 hu eb
      · rintro rfl; exact I.out j y _ h1 eb rfl
  · intro j k y y' b hjk h1 h2 eb
    rw [List.getElem?_set] at h1 h2
    have one : ∀ (q : Nat) (z : Value) (c : Nat), q ≠ i → vs[q]? = some z → z.ownBlock = some c → u'.ownBlock ≠ some c := fun q z c hq hz ec => by
      rcases hv with h | h
      · rw [h]; exact I.dis q i z u c hq hz hu ec
      · rw [h]
        obtain ⟨ys, -, ho⟩ := I.get hz
        have := (World.ownsRow.lt ho _ ec).2
        simp; omega
    by_cases e1 : i = j
    · subst e1
      rw [if_pos rfl, if_pos (by rw [I.len]; exact hi)] at h1
      rw [if_neg hjk] at h2
      simp at h1
      subst h1
      intro e2
      exact one k y' b (Ne.symm hjk) h2 e2 eb
    · rw [if_neg e1] at h1
      by_cases e2 : i = k
      · subst e2
        rw [if_pos rfl, if_pos (by rw [I.len]; exact hi)] at h2
        simp at h2
        subst h2
        exact one j y b (Ne.symm e1) h1 eb
      · rw [if_neg e2] at h2
        exact I.dis j k y y' b hjk h1 h2 eb
  · intro j y b h1 eb
    rw [List.getElem?_set] at h1
    by_cases e1 : i = j
    · subst e1
      rw [if_pos rfl, if_pos (by rw [I.len]; exact hi)] at h1
      simp at h1
      subst h1
      show some g ≠ some b
      intro e; exact ung (e ▸ eb)
    · rw [if_neg e1] at h1
      exact I.out j y b h1 eb
theorem Nest.rd {B : Nat} {w : World} {v : Value} {ls : List (List Int)} (h : Nest B w v ls) : Rdzz w v ls := by
  obtain ⟨vs, o, I⟩ := h
  exact Nst.rd (B := B) (vs := vs) ⟨o, I.len, fun i u xs a b => ⟨I.own i u xs a b, fun c e => I.out i u c a e⟩⟩
end Go.Proofs.YtepcokgpepcccaaDoor
