/- SubsetsMost: the partition by colours, in memory. -/
import Derived.Test.YtepcokgpepcccaaDoorMo1
namespace Go.Proofs.YtepcokgpepcccaaDoor
open Go.ChangeShapes Go.WideShapes Go.ChangeAt Go.RowKit Go.Maps
set_option linter.unusedVariables false
set_option linter.unusedSimpArgs false
theorem Nest.facts {B : Nat} {w : World} {v : Value} {ls : List (List Int)} {i : Nat} {xs : List Int} (h : Nest B w v ls) (hx : ls[i]? = some xs) :
    ∃ G cap vs u, v = .slice (some ⟨G, 0, none⟩) ls.length cap ∧ B ≤ G ∧ G < w.heap.size ∧ w.ownsRow B 22 1 (.slice (some ⟨G, 0, none⟩) ls.length cap) ls.length vs ∧ Inn B w (some G) vs ls ∧ vs[i]? = some u ∧ OwnZ B w u xs ∧ w.cell? ⟨G, i, none⟩ = some u ∧ w.frozen? ⟨G, i, none⟩ = false ∧ (∀ b, u.ownBlock = some b → b ≠ G) := by
  obtain ⟨vs, o, I⟩ := h
  have hi : i < ls.length := (List.getElem?_eq_some_iff.1 hx).1
  obtain ⟨G, cap, rfl, hB, hG⟩ := World.ownsRow.form o (by omega)
  have hu : vs[i]? = some (vs[i]'(by rw [I.len]; exact hi)) := List.getElem?_eq_getElem _
  refine ⟨G, cap, vs, _, rfl, hB, hG, o, I, hu, I.own i _ xs hu hx, ?_, World.ownsRow.frozenAt o i, ?_⟩
  · rw [World.ownsRow.cellAt o i (by omega)]; exact hu
  · intro b hb e
    subst e
    exact I.out i _ b hu hb rfl
/-- The lists by colours, and the map of their places, when k numbers have been laid. -/
structure Byc (B g k n : Nat) (w : World) (v : Value) (ls : List (List Int)) : Prop where
  nest : Nest B w v ls
  map : Ofm w g k n
  lt : g < B
  len : ls.length = n
  size : B ≤ w.heap.size
  small : ∀ x ∈ ls, x.length ≤ 100
theorem nest_form {B : Nat} {w : World} {v : Value} {ls : List (List Int)} {n : Nat} (h : Nest B w v ls) (hn : ls.length = n) : ∃ q c, v = .slice q n c := by
  obtain ⟨q, c, e, -⟩ := h.rd
  exact ⟨q, c, by rw [← hn]; exact e⟩
/-- A place more. -/
theorem Byc.push {B g k n : Nat} {w w1 w2 : World} {v v' : Value} {ls : List (List Int)} {vs : List Value} (h : Byc B g k n w v ls)
    (o : w1.ownsRow B 22 1 v n vs) (I : Inn B w1 v.ownBlock vs ls) (m1 : Ofm w1 g (k + 1) (n + 1)) (hs : B ≤ w1.heap.size)
    (o1 : w2.ownsRow B 22 1 v' (n + 1) (vs ++ [.slice none 0 0])) (hg : w1.grownBy w2 v.ownBlock) (hv : v'.ownBlock = v.ownBlock ∨ v'.ownBlock = some w1.heap.size) : Byc B g (k + 1) (n + 1) w2 v' (ls ++ [[]]) := by
  have hlen := h.len
  subst hlen
  have N := Nest.push (xs := []) o I (World.ownsRow_nil _ _ _ _) (fun i y b _ _ => by simp [Value.ownBlock]) (fun b e => by simp [Value.ownBlock] at e) o1 hg hv
  refine ⟨N, m1.kept hg fun e => ?_, h.lt, by simp, Nat.le_trans hs hg.size, fun x hx => ?_⟩
  · have := (World.ownsRow.lt o g e.symm).1
    have := h.lt
    omega
  · rcases List.mem_append.1 hx with hx | hx
    · exact h.small x hx
    · have : x = [] := by simpa using hx
      subst this; simp
/-- A number more in one of the lists: laid at place i. -/
theorem Byc.grow {B g k n i cap G : Nat} {w0 w1 : World} {u u' : Value} {vs : List Value} {ls : List (List Int)} {xs : List Int} {x : Int} (hm : Ofm w0 g k n) (hlt : g < B) (hl : ls.length = n) (hsm : ∀ x ∈ ls, x.length ≤ 100) (hxl : xs.length ≤ 99) (hs : B ≤ w0.heap.size)
    (o : w0.ownsRow B 22 1 (.slice (some ⟨G, 0, none⟩) n cap) n vs) (I : Inn B w0 (some G) vs ls) (hu : vs[i]? = some u) (hx : ls[i]? = some xs) (hBG : B ≤ G)
    (o1 : OwnZ B w1 u' (xs ++ [x])) (hg : w0.grownBy w1 u.ownBlock) (hv : u'.ownBlock = u.ownBlock ∨ u'.ownBlock = some w0.heap.size) :
    Byc B g k n (w1.setCell ⟨G, i, none⟩ u') (.slice (some ⟨G, 0, none⟩) n cap) (ls.set i (xs ++ [x])) := by
  subst hl
  have o1' : w1.ownsRow B 3 1 u' (xs.length + 1) (zv xs ++ [.int .i64 x]) := by
    have := o1
    unfold OwnZ at this
    rw [List.length_append, zv_app] at this
    exact this
  obtain ⟨ys, hy, hown⟩ := I.get hu
  refine ⟨Nest.grow o I rfl hu hx o1' hg hv, ?_, hlt, by simp, ?_, ?_⟩
  · have m1 := hm.kept hg fun e => by
      have := (World.ownsRow.lt hown g e.symm).1
      omega
    obtain ⟨D, ⟨es, clock, hw, F, hs, hD⟩, hm, hk⟩ := m1
    exact ⟨D, ⟨es, clock, by rw [heap_setCell_other _ ⟨G, i, none⟩ g u' (by simp; omega)]; exact hw, F, hs, hD⟩, hm, hk⟩
  · have := hg.size
    simp [World.setCell]; omega
  · intro y hy
    rcases List.mem_or_eq_of_mem_set hy with h | rfl
    · exact hsm y h
    · simp; omega
end Go.Proofs.YtepcokgpepcccaaDoor
