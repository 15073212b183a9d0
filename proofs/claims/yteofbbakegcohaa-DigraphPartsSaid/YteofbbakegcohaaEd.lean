/- Edges of a graph, as they came in; lists of whole numbers. -/
import Derived.Test.YteofbbakegcohaaBas
import Derived.Maps.AppendAt
import Derived.WalkSpells
namespace Go.Proofs.Yteofbbakegcohaa
open Go.ChangeShapes Go.WideShapes Go.ChangeAt Go.RowKit
set_option linter.unusedVariables false
set_option linter.unusedSimpArgs false

/-- The pairs that lie in a row of cells. -/
def Fr (w : World) (a : Addr) (l : List (Int × Int)) : Prop := ∀ i (h : i < l.length), w.cell? (a.add (i * 2)) = some (.int .i64 l[i].1) ∧ w.cell? ⟨(a.add (i * 2)).block, (a.add (i * 2)).off + 1, none⟩ = some (.int .i64 l[i].2)
theorem lt_of_cell {w : World} {a : Addr} {v : Value} (h : w.cell? a = some v) : a.block < w.heap.size := by
  rcases Nat.lt_or_ge a.block w.heap.size with k | k
  · exact k
  · rw [World.cell?, Array.getElem?_eq_none k] at h; cases h
theorem cell_later {w w1 : World} (hb : Below w.heap.size w w1) {a : Addr} {v : Value} (h : w.cell? a = some v) : w1.cell? a = some v := by
  rw [hb.cell (lt_of_cell h)]; exact h
theorem Fr.on {w w1 : World} {a : Addr} {l : List (Int × Int)} (h : Fr w a l) (hb : Below w.heap.size w w1) : Fr w1 a l := fun i hi => ⟨cell_later hb (h i hi).1, cell_later hb (h i hi).2⟩
/-- A slice of pairs, nil or not. -/
def Sl (w : World) (p : Option Addr) (l : List (Int × Int)) : Prop := (p = none → l = []) ∧ (∀ a, p = some a → Fr w a l) ∧ l.length ≤ maxLen ∧ ∀ x ∈ l, I64 x.1 ∧ I64 x.2
theorem Sl.on {w w1 : World} {p : Option Addr} {l : List (Int × Int)} (h : Sl w p l) (hb : Below w.heap.size w w1) : Sl w1 p l := ⟨h.1, fun a ha => (h.2.1 a ha).on hb, h.2.2⟩
theorem Sl.at {w : World} {p : Option Addr} {l : List (Int × Int)} (h : Sl w p l) {k : Nat} (hk : k < l.length) : ∃ a, p = some a ∧ w.cell? (a.add (k * 2)) = some (.int .i64 l[k].1) ∧ w.cell? ⟨(a.add (k * 2)).block, (a.add (k * 2)).off + 1, none⟩ = some (.int .i64 l[k].2) := by
  cases p with
  | none => rw [h.1 rfl] at hk; simp at hk
  | some a => exact ⟨a, rfl, h.2.1 a rfl k hk⟩
/-- A graph. -/
def cast2 (l : List (Nat × Nat)) : List (Int × Int) := l.map fun x => ((x.1 : Int), (x.2 : Int))
def Gr (w : World) (p : Option Addr) (n : Nat) (l : List (Nat × Nat)) : Prop := Sl w p (cast2 l) ∧ l.length ≤ 1000 ∧ n ≤ 60 ∧ ∀ x ∈ l, x.1 < n ∧ x.2 < n
theorem Gr.on {w w1 : World} {p : Option Addr} {n : Nat} {l : List (Nat × Nat)} (h : Gr w p n l) (hb : Below w.heap.size w w1) : Gr w1 p n l := ⟨h.1.on hb, h.2⟩
theorem Gr.at {w : World} {p : Option Addr} {n : Nat} {l : List (Nat × Nat)} (h : Gr w p n l) {k : Nat} (hk : k < l.length) :
    ∃ a, p = some a ∧ w.cell? (a.add (k * 2)) = some (.int .i64 l[k].1) ∧ w.cell? ⟨(a.add (k * 2)).block, (a.add (k * 2)).off + 1, none⟩ = some (.int .i64 l[k].2) ∧ l[k].1 < n ∧ l[k].2 < n := by
  obtain ⟨a, rfl, c0, c1⟩ := h.1.at (k := k) (by simpa [cast2] using hk)
  refine ⟨a, rfl, ?_, ?_, h.2.2.2 _ (List.getElem_mem hk)⟩
  · rw [c0]; simp [cast2]
  · rw [c1]; simp [cast2]
/-- Whole numbers as values. -/
def ints (xs : List Nat) : List Value := xs.map fun (x : Nat) => Value.int .i64 ((x : Nat) : Int)
theorem ints_len (xs : List Nat) : (ints xs).length = xs.length := by simp [ints]
theorem ints_app (xs ys : List Nat) : ints (xs ++ ys) = ints xs ++ ints ys := by simp [ints]
/-- A list of whole numbers in memory of the call's own. -/
def Own (B : Nat) (w : World) (v : Value) (xs : List Nat) : Prop := w.ownsRow B 3 1 v xs.length (ints xs)
theorem own_on {B : Nat} {w w' : World} {v : Value} {n : Nat} {e : TypeId} {s : Nat} {xs : List Value} (h : w.ownsRow B e s v n xs) (hb : Below w.heap.size w w') : w'.ownsRow B e s v n xs := by
  have k := h.lt
  obtain ⟨hl, h0 | ⟨g, cap, cur, rfl, hB, hg, r⟩⟩ := h
  · exact ⟨hl, .inl h0⟩
  · have := k g rfl
    exact ⟨hl, .inr ⟨g, cap, cur, rfl, hB, by rw [hb.block g this.2]; exact hg, r⟩⟩
theorem own_at {B g : Nat} {w w' : World} {v : Value} {n : Nat} {e : TypeId} {s : Nat} {xs : List Value} (h : w.ownsRow B e s v n xs) (hb : At g w w') (hg : v.ownBlock ≠ some g) : w'.ownsRow B e s v n xs := by
  obtain ⟨hl, h0 | ⟨g', cap, cur, rfl, hB, hc, r⟩⟩ := h
  · exact ⟨hl, .inl h0⟩
  · have : g' ≠ g := fun e => hg (by rw [e]; rfl)
    exact ⟨hl, .inr ⟨g', cap, cur, rfl, hB, by rw [hb.block g' this]; exact hc, r⟩⟩
theorem Own.mono {B B' : Nat} {w : World} {v : Value} {xs : List Nat} (h : Own B w v xs) (hB : B' ≤ B) : Own B' w v xs := by
  obtain ⟨hl, h0 | ⟨g, cap, cur, rfl, hg, r⟩⟩ := h
  · exact ⟨hl, .inl h0⟩
  · exact ⟨hl, .inr ⟨g, cap, cur, rfl, Nat.le_trans hB hg, r⟩⟩
theorem cast2_len (l : List (Nat × Nat)) : (cast2 l).length = l.length := by simp [cast2]
theorem Own.cell {B : Nat} {w : World} {g n c : Nat} {xs : List Nat} (h : Own B w (.slice (some ⟨g, 0, none⟩) n c) xs) (hn : xs.length = n) {j : Nat} (hj : j < n) : w.cell? ⟨g, j, none⟩ = some (.int .i64 (xs[j]'(by omega) : Nat)) := by
  subst hn
  rw [World.ownsRow.cellAt h j (by omega)]
  simp [ints, hj]
theorem Own.put {B : Nat} {w : World} {g n c : Nat} {xs : List Nat} (h : Own B w (.slice (some ⟨g, 0, none⟩) n c) xs) (hn : xs.length = n) (j v : Nat) : Own B (w.setCell ⟨g, j, none⟩ (.int .i64 (v : Int))) (.slice (some ⟨g, 0, none⟩) n c) (xs.set j v) := by
  subst hn
  have k := (World.ownsRow.stored h j (.int .i64 (v : Int))).1
  unfold Own
  rw [List.length_set]
  have e : (ints xs).set j (.int .i64 (v : Int)) = ints (xs.set j v) := by simp [ints, List.map_set]
  rw [← e]; exact k
theorem own_form {B : Nat} {w : World} {v : Value} {xs : List Nat} (h : Own B w v xs) : ∃ p c, v = .slice p xs.length c ∧ (p = none ∧ xs = [] ∨ ∃ g, p = some ⟨g, 0, none⟩ ∧ B ≤ g ∧ g < w.heap.size) := by
  have k := h.lt
  obtain ⟨hl, ⟨rfl, h0⟩ | ⟨g, cap, cur, rfl, hB, hg, r⟩⟩ := h
  · have e := List.eq_nil_of_length_eq_zero h0
    exact ⟨none, 0, by rw [e]; rfl, .inl ⟨rfl, e⟩⟩
  · exact ⟨_, cap, rfl, .inr ⟨g, rfl, hB, (k g rfl).2⟩⟩
/-- A slice of whole numbers that can be read. -/
def Rdl (w : World) (v : Value) (xs : List Nat) : Prop := ∃ q c, v = .slice q xs.length c ∧ ∀ j (h : j < xs.length), ∃ g, q = some ⟨g, 0, none⟩ ∧ w.cell? ⟨g, j, none⟩ = some (.int .i64 (xs[j] : Nat))
theorem Own.rd {B : Nat} {w : World} {v : Value} {xs : List Nat} (h : Own B w v xs) : Rdl w v xs := by
  obtain ⟨q, c, rfl, k⟩ := own_form h
  refine ⟨q, c, rfl, fun j hj => ?_⟩
  rcases k with ⟨-, rfl⟩ | ⟨g, rfl, -, -⟩
  · simp at hj
  · exact ⟨g, rfl, Own.cell h rfl hj⟩
theorem Rdl.on {w w1 : World} {v : Value} {xs : List Nat} (h : Rdl w v xs) (hb : Below w.heap.size w w1) : Rdl w1 v xs := by
  obtain ⟨q, c, rfl, k⟩ := h
  refine ⟨q, c, rfl, fun j hj => ?_⟩
  obtain ⟨g, e, hc⟩ := k j hj
  exact ⟨g, e, cell_later hb hc⟩
theorem Rdl.drew {w : World} {v : Value} {xs : List Nat} (h : Rdl w v xs) (n : Nat) : Rdl (w.drewN n) v xs := h
/-- A slice of whole numbers, of any sign, that can be read. -/
def Rdz (w : World) (v : Value) (zs : List Int) : Prop := ∃ q c, v = .slice q zs.length c ∧ ∀ j (h : j < zs.length), ∃ a, q = some a ∧ w.cell? (a.add j) = some (.int .i64 zs[j])
theorem Rdz.on {w w1 : World} {v : Value} {zs : List Int} (h : Rdz w v zs) (hb : Below w.heap.size w w1) : Rdz w1 v zs := by
  obtain ⟨q, c, rfl, k⟩ := h
  refine ⟨q, c, rfl, fun j hj => ?_⟩
  obtain ⟨g, e, hc⟩ := k j hj
  exact ⟨g, e, cell_later hb hc⟩
def toZ (xs : List Nat) : List Int := xs.map fun (x : Nat) => (x : Int)
theorem toZ_len (xs : List Nat) : (toZ xs).length = xs.length := by simp [toZ]
end Go.Proofs.Yteofbbakegcohaa
