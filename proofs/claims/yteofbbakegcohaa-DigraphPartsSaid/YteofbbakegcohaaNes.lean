/- Lists of lists of whole numbers in memory of the call's own. -/
import Derived.Test.YteofbbakegcohaaEd
namespace Go.Proofs.Yteofbbakegcohaa
open Go.ChangeShapes Go.WideShapes Go.ChangeAt Go.RowKit
set_option linter.unusedVariables false
set_option linter.unusedSimpArgs false

/-- The values vs of the outer row: each a list of its own, no two in one block, none in the outer row's. -/
structure Inn (B : Nat) (w : World) (row : Option Nat) (vs : List Value) (ls : List (List Nat)) : Prop where
  len : vs.length = ls.length
  own : ∀ (i : Nat) (u : Value) (xs : List Nat), vs[i]? = some u → ls[i]? = some xs → Own B w u xs
  dis : ∀ (i j : Nat) (u u' : Value) (b : Nat), i ≠ j → vs[i]? = some u → vs[j]? = some u' → u.ownBlock = some b → u'.ownBlock ≠ some b
  out : ∀ (i : Nat) (u : Value) (b : Nat), vs[i]? = some u → u.ownBlock = some b → row ≠ some b
def Nest (B : Nat) (w : World) (v : Value) (ls : List (List Nat)) : Prop := ∃ vs, w.ownsRow B 23 1 v ls.length vs ∧ Inn B w v.ownBlock vs ls
theorem Inn.on {B : Nat} {w w1 : World} {row : Option Nat} {vs : List Value} {ls : List (List Nat)} (h : Inn B w row vs ls) (hb : Below w.heap.size w w1) : Inn B w1 row vs ls :=
  ⟨h.len, fun i u xs a b => own_on (h.own i u xs a b) hb, h.dis, h.out⟩
theorem Nest.on {B : Nat} {w w1 : World} {v : Value} {ls : List (List Nat)} (h : Nest B w v ls) (hb : Below w.heap.size w w1) : Nest B w1 v ls := by
  obtain ⟨vs, o, i⟩ := h; exact ⟨vs, own_on o hb, i.on hb⟩
theorem Inn.get {B : Nat} {w : World} {row : Option Nat} {vs : List Value} {ls : List (List Nat)} (h : Inn B w row vs ls) {i : Nat} {u : Value} (hu : vs[i]? = some u) : ∃ xs, ls[i]? = some xs ∧ Own B w u xs := by
  have hi : i < ls.length := by rw [← h.len]; exact (List.getElem?_eq_some_iff.1 hu).1
  exact ⟨ls[i], List.getElem?_eq_getElem hi, h.own i u _ hu (List.getElem?_eq_getElem hi)⟩
theorem Nest.at_ {B g : Nat} {w w1 : World} {v : Value} {ls : List (List Nat)} (h : Nest B w v ls) (hb : At g w w1) (hg : g < B) : Nest B w1 v ls := by
  obtain ⟨vs, o, i⟩ := h
  refine ⟨vs, own_at o hb (fun e => by have := (o.lt _ e).1; omega), i.len, fun k u xs a b => ?_, i.dis, i.out⟩
  have := i.own k u xs a b
  exact own_at this hb (fun e => by have := (World.ownsRow.lt this _ e).1; omega)
theorem Nest.nil (B : Nat) (w : World) : Nest B w (.slice none 0 0) [] :=
  ⟨[], World.ownsRow_nil _ _ _ _, rfl, (fun i u xs h => by cases h), (fun i j u u' b _ h => by cases h), (fun i u b h => by cases h)⟩
/-- A list more. -/
theorem Nest.push {B : Nat} {w w1 : World} {v v' u : Value} {vs : List Value} {ls : List (List Nat)} {xs : List Nat} (o : w.ownsRow B 23 1 v ls.length vs) (I : Inn B w v.ownBlock vs ls)
    (hu : Own B w u xs) (hd : ∀ (i : Nat) (y : Value) (b : Nat), vs[i]? = some y → y.ownBlock = some b → u.ownBlock ≠ some b) (hr : ∀ b, u.ownBlock = some b → v.ownBlock ≠ some b)
    (o1 : w1.ownsRow B 23 1 v' (ls.length + 1) (vs ++ [u])) (hg : w.grownBy w1 v.ownBlock) (hv : v'.ownBlock = v.ownBlock ∨ v'.ownBlock = some w.heap.size) : Nest B w1 v' (ls ++ [xs]) := by
  have kept : ∀ (y : Value) (ys : List Nat), Own B w y ys → (∀ b, y.ownBlock = some b → v.ownBlock ≠ some b) → Own B w1 y ys := fun y ys h k => by
    refine World.ownsRow.kept h hg ?_
    cases e : y.ownBlock with
    | none => exact .inl rfl
    | some b => exact .inr (Ne.symm (k b e))
  have far : ∀ (y : Value) (ys : List Nat) (b : Nat), Own B w y ys → y.ownBlock = some b → v.ownBlock ≠ some b → v'.ownBlock ≠ some b := fun y ys b h e k => by
    rcases hv with h1 | h1
    · rw [h1]; exact k
    · rw [h1]
      have := (World.ownsRow.lt h _ e).2
      simp; omega
  have at_ : ∀ (i : Nat) (y : Value), (vs ++ [u])[i]? = some y → (vs[i]? = some y) ∨ (i = ls.length ∧ y = u) := fun i y h => by
    rcases Nat.lt_or_ge i vs.length with k | k
    · rw [List.getElem?_append_left k] at h; exact .inl h
    · rw [List.getElem?_append_right k] at h
      right
      have : i - vs.length = 0 := by
        have := (List.getElem?_eq_some_iff.1 h).1
        simp at this; omega
      rw [this] at h
      simp at h
      exact ⟨by have := I.len; omega, h.symm⟩
  refine ⟨vs ++ [u], by rw [List.length_append]; exact o1, ?_, ?_, ?_, ?_⟩
  · simp [I.len]
  · intro i y ys h1 h2
    rcases at_ i y h1 with k | ⟨rfl, rfl⟩
    · have hi : i < ls.length := by rw [← I.len]; exact (List.getElem?_eq_some_iff.1 k).1
      rw [List.getElem?_append_left hi] at h2
      exact kept y ys (I.own i y ys k h2) (fun b e => I.out i y b k e)
    · rw [List.getElem?_append_right (Nat.le_refl _), Nat.sub_self] at h2
      simp at h2
      subst h2
      exact kept y xs hu hr
  · intro i j y y' b hij h1 h2 e
    rcases at_ i y h1 with k1 | ⟨e1, rfl⟩
    · rcases at_ j y' h2 with k2 | ⟨e2, rfl⟩
      · exact I.dis i j y y' b hij k1 k2 e
      · exact hd i y b k1 e
    · rcases at_ j y' h2 with k2 | ⟨e2, rfl⟩
      · intro e2; exact hd j y' b k2 e2 e
      · omega
  · intro i y b h1 e
    rcases at_ i y h1 with k | ⟨_, rfl⟩
    · obtain ⟨ys, hy, ho⟩ := I.get k
      exact far y ys b ho e (I.out i y b k e)
    · exact far y xs b hu e (hr b e)
/-- One of the lists has grown, and lies in the outer row again. -/
theorem Nest.grow {B g n cap i : Nat} {w w1 : World} {u u' : Value} {vs : List Value} {ls : List (List Nat)} {xs : List Nat} {x : Nat} (o : w.ownsRow B 23 1 (.slice (some ⟨g, 0, none⟩) n cap) n vs) (I : Inn B w (some g) vs ls) (hn : n = ls.length)
    (hu : vs[i]? = some u) (hx : ls[i]? = some xs) (o1 : w1.ownsRow B 3 1 u' (xs.length + 1) (ints xs ++ [.int .i64 (x : Int)])) (hg : w.grownBy w1 u.ownBlock) (hv : u'.ownBlock = u.ownBlock ∨ u'.ownBlock = some w.heap.size) :
    Nest B (w1.setCell ⟨g, i, none⟩ u') (.slice (some ⟨g, 0, none⟩) n cap) (ls.set i (xs ++ [x])) := by
  subst hn
  have hi : i < ls.length := (List.getElem?_eq_some_iff.1 hx).1
  have gl := (o.lt g rfl).2
  have o2 : w1.ownsRow B 23 1 (.slice (some ⟨g, 0, none⟩) ls.length cap) ls.length vs := by
    refine World.ownsRow.kept o hg (.inr ?_)
    intro e
    exact I.out i u g hu e.symm rfl
  have o3 := World.ownsRow.stored o2 i u'
  have A : At g w1 (w1.setCell ⟨g, i, none⟩ u') := (At.refl g w1).put i u'
  have kept : ∀ (y : Value) (ys : List Nat), Own B w y ys → (∀ b, y.ownBlock = some b → u.ownBlock ≠ some b ∧ b ≠ g) → Own B (w1.setCell ⟨g, i, none⟩ u') y ys := fun y ys h k => by
    refine own_at (World.ownsRow.kept h hg ?_) A ?_
    · cases e : y.ownBlock with
      | none => exact .inl rfl
      | some b => exact .inr (Ne.symm (k b e).1)
    · intro e; exact (k g e).2 rfl
  have ung : u'.ownBlock ≠ some g := by
    intro e
    rcases hv with h | h
    · rw [h] at e; exact I.out i u g hu e rfl
    · rw [h] at e; simp at e; omega
  refine ⟨vs.set i u', by rw [List.length_set]; exact o3.1, by simp [I.len], ?_, ?_, ?_⟩
  · intro j y ys h1 h2
    rw [List.getElem?_set] at h1 h2
    by_cases e : i = j
    · subst e
      rw [if_pos rfl, if_pos (by rw [I.len]; exact hi)] at h1
      rw [if_pos rfl, if_pos hi] at h2
      simp at h1 h2
      subst h1 h2
      unfold Own
      rw [ints_app, List.length_append]
      exact own_at o1 A ung
    · rw [if_neg e] at h1 h2
      refine kept y ys (I.own j y ys h1 h2) fun b eb => ⟨?_, ?_⟩
      · exact I.dis j i y u b (Ne.symm e) h1 hu eb
      · rintro rfl; exact I.out j y _ h1 eb rfl
  · intro j k y y' b hjk h1 h2 eb
    rw [List.getElem?_set] at h1 h2
    have one : ∀ (q : Nat) (z : Value) (c : Nat), q ≠ i → vs[q]? = some z → z.ownBlock = some c → u'.ownBlock ≠ some c := fun q z c hq hz ec => by
      rcases hv with h | h
      · rw [h]; exact I.dis q i z u c hq hz hu ec
      · rw [h]
        obtain ⟨ys, -, ho⟩ := I.get hz
        have := (World.ownsRow.lt ho _ ec).2
        simp; omega
    by_cases e1 : i = j
    · subst e1
      rw [if_pos rfl, if_pos (by rw [I.len]; exact hi)] at h1
      rw [if_neg hjk] at h2
      simp at h1
      subst h1
      intro e2
      exact one k y' b (Ne.symm hjk) h2 e2 eb
    · rw [if_neg e1] at h1
      by_cases e2 : i = k
      · subst e2
        rw [if_pos rfl, if_pos (by rw [I.len]; exact hi)] at h2
        simp at h2
        subst h2
        exact one j y b (Ne.symm e1) h1 eb
      · rw [if_neg e2] at h2
        exact I.dis j k y y' b hjk h1 h2 eb
  · intro j y b h1 eb
    rw [List.getElem?_set] at h1
    by_cases e1 : i = j
    · subst e1
      rw [if_pos rfl, if_pos (by rw [I.len]; exact hi)] at h1
      simp at h1
      subst h1
      show some g ≠ some b
      intro e; exact ung (e ▸ eb)
    · rw [if_neg e1] at h1
      exact I.out j y b h1 eb
theorem info23 : (Try.prog.info? 23).map (fun i => (i.zero, i.size, i.bytes)) = some (some (.slice none 0 0), 1, 24) := by kernel_rfl
theorem Nest.mono {B B' : Nat} {w : World} {v : Value} {ls : List (List Nat)} (h : Nest B w v ls) (hB : B' ≤ B) : Nest B' w v ls := by
  obtain ⟨vs, o, I⟩ := h
  have mo : ∀ {e s n : Nat} {y : Value} {ys : List Value}, w.ownsRow B e s y n ys → w.ownsRow B' e s y n ys := fun h => by
    obtain ⟨hl, h0 | ⟨g, cap, cur, rfl, hg, r⟩⟩ := h
    · exact ⟨hl, .inl h0⟩
    · exact ⟨hl, .inr ⟨g, cap, cur, rfl, Nat.le_trans hB hg, r⟩⟩
  exact ⟨vs, mo o, I.len, fun i u xs a b => mo (I.own i u xs a b), I.dis, I.out⟩
theorem Nest.facts {B : Nat} {w : World} {v : Value} {ls : List (List Nat)} {i : Nat} {xs : List Nat} (h : Nest B w v ls) (hx : ls[i]? = some xs) :
    ∃ G cap vs u, v = .slice (some ⟨G, 0, none⟩) ls.length cap ∧ B ≤ G ∧ G < w.heap.size ∧ w.ownsRow B 23 1 (.slice (some ⟨G, 0, none⟩) ls.length cap) ls.length vs ∧ Inn B w (some G) vs ls ∧ vs[i]? = some u ∧ Own B w u xs ∧ w.cell? ⟨G, i, none⟩ = some u ∧ w.frozen? ⟨G, i, none⟩ = false ∧ (∀ b, u.ownBlock = some b → b ≠ G) := by
  obtain ⟨vs, o, I⟩ := h
  have hi : i < ls.length := (List.getElem?_eq_some_iff.1 hx).1
  obtain ⟨G, cap, rfl, hB, hG⟩ := o.form (by omega)
  have hu : vs[i]? = some (vs[i]'(by rw [I.len]; exact hi)) := List.getElem?_eq_getElem _
  refine ⟨G, cap, vs, _, rfl, hB, hG, o, I, hu, I.own i _ xs hu hx, ?_, World.ownsRow.frozenAt o i, ?_⟩
  · rw [World.ownsRow.cellAt o i (by omega)]; exact hu
  · intro b hb e
    subst e
    exact I.out i _ b hu hb rfl
/-- One edge more at one of its ends; at both. -/
def ad1 (F : Nat → List Nat) (a i : Nat) : Nat → List Nat := upd F a (F a ++ [i])
theorem set_map (n : Nat) (F : Nat → List Nat) (a : Nat) (x : List Nat) : ((List.range n).map F).set a x = (List.range n).map (upd F a x) := by
  apply List.ext_getElem
  · simp
  · intro j h1 h2
    simp only [List.getElem_set, List.getElem_map, List.getElem_range, upd]
    by_cases h : a = j
    · simp [h]
    · simp [h, Ne.symm h]
theorem nest_made {w : World} {B g n : Nat} (h : w.ownsRow B 23 1 (.slice (some ⟨g, 0, none⟩) n n) n (madeCells #[Value.slice none 0 0] n).toList) : Nest B w (.slice (some ⟨g, 0, none⟩) n n) ((List.range n).map fun _ => []) := by
  rw [toList_madeCells_one] at h
  have at_ : ∀ (i : Nat) (u : Value), (List.replicate n (Value.slice none 0 0))[i]? = some u → u = .slice none 0 0 := fun i u h => by
    have := List.mem_of_getElem? h
    exact (List.mem_replicate.1 this).2
  refine ⟨List.replicate n (.slice none 0 0), by simpa using h, by simp, fun i u xs h1 h2 => ?_, fun i j u u' b _ h1 _ e => ?_, fun i u b h1 e => ?_⟩
  · rw [at_ i u h1]
    have : xs = [] := by
      have := List.mem_of_getElem? h2
      simp at this; exact this.2
    subst this
    exact World.ownsRow_nil _ _ _ _
  · rw [at_ i u h1] at e; cases e
  · rw [at_ i u h1] at e; cases e
theorem Nest.factsF {B : Nat} {w : World} {G n c : Nat} {F : Nat → List Nat} {a : Nat} (h : Nest B w (.slice (some ⟨G, 0, none⟩) n c) ((List.range n).map F)) (ha : a < n) :
    ∃ vs u, w.ownsRow B 23 1 (.slice (some ⟨G, 0, none⟩) n c) n vs ∧ Inn B w (some G) vs ((List.range n).map F) ∧ vs[a]? = some u ∧ Own B w u (F a) ∧ w.cell? ⟨G, a, none⟩ = some u ∧ w.frozen? ⟨G, a, none⟩ = false ∧ (some G ≠ u.ownBlock) ∧ G < w.heap.size ∧ B ≤ G := by
  have hx : ((List.range n).map F)[a]? = some (F a) := by simp [ha]
  obtain ⟨G', cap, vs, u, e, hB, hG, o, I, hu, ho, hc, hf, hne⟩ := h.facts hx
  have hl : ((List.range n).map F).length = n := by simp
  rw [hl] at e o
  simp only [Value.slice.injEq, Option.some.injEq, Addr.mk.injEq, and_true, true_and] at e
  obtain ⟨rfl, rfl⟩ := e
  exact ⟨vs, u, o, I, hu, ho, hc, hf, fun e => hne _ e.symm rfl, hG, hB⟩
theorem Nest.growF {B : Nat} {w w1 : World} {G n c : Nat} {F : Nat → List Nat} {a i : Nat} {vs : List Value} {u u' : Value} (ha : a < n) (o : w.ownsRow B 23 1 (.slice (some ⟨G, 0, none⟩) n c) n vs) (I : Inn B w (some G) vs ((List.range n).map F)) (hu : vs[a]? = some u)
    (o1 : w1.ownsRow B 3 1 u' ((F a).length + 1) (ints (F a) ++ [.int .i64 (i : Int)])) (hg : w.grownBy w1 u.ownBlock) (hv : u'.ownBlock = u.ownBlock ∨ u'.ownBlock = some w.heap.size) :
    Nest B (w1.setCell ⟨G, a, none⟩ u') (.slice (some ⟨G, 0, none⟩) n c) ((List.range n).map (ad1 F a i)) := by
  have hx : ((List.range n).map F)[a]? = some (F a) := by simp [ha]
  have := Nest.grow o I (by simp) hu hx o1 hg hv
  rw [set_map] at this
  exact this
theorem ix0 (a b : Int) (w : World) : Sem.run Try.prog (Instr.index 42 (.agg #[.int .i64 a, .int .i64 b]) (.int .i64 0)) w = .ok (.int .i64 a) w := by
  simp [Instr.index, run_underlying Try.underlying42, asIntOf, go_sem]
theorem ix1 (a b : Int) (w : World) : Sem.run Try.prog (Instr.index 42 (.agg #[.int .i64 a, .int .i64 b]) (.int .i64 1)) w = .ok (.int .i64 b) w := by
  simp [Instr.index, run_underlying Try.underlying42, asIntOf, go_sem]
def Rdn (w : World) (v : Value) (ls : List (List Nat)) : Prop := ∃ q c, v = .slice q ls.length c ∧ ∀ i (h : i < ls.length), ∃ g u, q = some ⟨g, 0, none⟩ ∧ w.cell? ⟨g, i, none⟩ = some u ∧ Rdl w u ls[i]
theorem Nest.rd {B : Nat} {w : World} {v : Value} {ls : List (List Nat)} (h : Nest B w v ls) : Rdn w v ls := by
  obtain ⟨vs, o, I⟩ := h
  have k := o
  rcases k with ⟨hl, ⟨rfl, h0⟩ | ⟨g, c, cur, rfl, -⟩⟩
  · exact ⟨none, 0, by rw [h0], fun i hi => absurd hi (by omega)⟩
  · refine ⟨_, c, rfl, fun i hi => ?_⟩
    have hu : vs[i]? = some (vs[i]'(by rw [I.len]; exact hi)) := List.getElem?_eq_getElem _
    exact ⟨g, _, rfl, by rw [World.ownsRow.cellAt o i (by omega)]; exact hu, (I.own i _ _ hu (List.getElem?_eq_getElem hi)).rd⟩
theorem Rdn.on {w w1 : World} {v : Value} {ls : List (List Nat)} (h : Rdn w v ls) (hb : Below w.heap.size w w1) : Rdn w1 v ls := by
  obtain ⟨q, c, rfl, k⟩ := h
  refine ⟨q, c, rfl, fun i hi => ?_⟩
  obtain ⟨g, u, e, hc, hr⟩ := k i hi
  exact ⟨g, u, e, cell_later hb hc, hr.on hb⟩
theorem eq_of_take {α : Type} {xs ys : List α} (hl : xs.length = ys.length) (h : ∀ j (a : j < xs.length) (b : j < ys.length), xs[j] = ys[j]) : xs = ys := List.ext_getElem hl fun j a b => h j a b
end Go.Proofs.Yteofbbakegcohaa
