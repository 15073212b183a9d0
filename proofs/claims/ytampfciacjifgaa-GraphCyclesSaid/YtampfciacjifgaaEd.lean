/- Edges of a graph, as they came in; lists of whole numbers of the call's own. -/
import Derived.Test.YtampfciacjifgaaJn
namespace Go.Proofs.Ytampfciacjifgaa
open Go.ChangeShapes Go.WideShapes Go.ChangeAt Go.RowKit
set_option linter.unusedVariables false
set_option linter.unusedSimpArgs false

/-- The pairs that lie in a row of cells. -/
def Fr (w : World) (a : Addr) (l : List (Int × Int)) : Prop := ∀ i (h : i < l.length), w.cell? (a.add (i * 2)) = some (.int .i64 l[i].1) ∧ w.cell? ⟨(a.add (i * 2)).block, (a.add (i * 2)).off + 1, none⟩ = some (.int .i64 l[i].2)
theorem lt_of_cell {w : World} {a : Addr} {v : Value} (h : w.cell? a = some v) : a.block < w.heap.size := by
  rcases Nat.lt_or_ge a.block w.heap.size with k | k
  · exact k
  · rw [World.cell?, Array.getElem?_eq_none k] at h; cases h
theorem cell_later {w w1 : World} (hb : Below w.heap.size w w1) {a : Addr} {v : Value} (h : w.cell? a = some v) : w1.cell? a = some v := by
  rw [hb.cell (lt_of_cell h)]; exact h
theorem Fr.on {w w1 : World} {a : Addr} {l : List (Int × Int)} (h : Fr w a l) (hb : Below w.heap.size w w1) : Fr w1 a l := fun i hi => ⟨cell_later hb (h i hi).1, cell_later hb (h i hi).2⟩
/-- A slice of pairs, nil or not. -/
def Sl (w : World) (p : Option Addr) (l : List (Int × Int)) : Prop := (p = none → l = []) ∧ (∀ a, p = some a → Fr w a l) ∧ l.length ≤ maxLen ∧ ∀ x ∈ l, I64 x.1 ∧ I64 x.2
theorem Sl.on {w w1 : World} {p : Option Addr} {l : List (Int × Int)} (h : Sl w p l) (hb : Below w.heap.size w w1) : Sl w1 p l := ⟨h.1, fun a ha => (h.2.1 a ha).on hb, h.2.2⟩
theorem Sl.at {w : World} {p : Option Addr} {l : List (Int × Int)} (h : Sl w p l) {k : Nat} (hk : k < l.length) : ∃ a, p = some a ∧ w.cell? (a.add (k * 2)) = some (.int .i64 l[k].1) ∧ w.cell? ⟨(a.add (k * 2)).block, (a.add (k * 2)).off + 1, none⟩ = some (.int .i64 l[k].2) := by
  cases p with
  | none => rw [h.1 rfl] at hk; simp at hk
  | some a => exact ⟨a, rfl, h.2.1 a rfl k hk⟩
/-- A graph whose edges join two different nodes each. -/
def cast2 (l : List (Nat × Nat)) : List (Int × Int) := l.map fun x => ((x.1 : Int), (x.2 : Int))
def Gr (w : World) (p : Option Addr) (n : Nat) (l : List (Nat × Nat)) : Prop := Sl w p (cast2 l) ∧ l.length ≤ 4000 ∧ n ≤ 1000 ∧ ∀ x ∈ l, x.1 < n ∧ x.2 < n ∧ x.1 ≠ x.2
theorem Gr.on {w w1 : World} {p : Option Addr} {n : Nat} {l : List (Nat × Nat)} (h : Gr w p n l) (hb : Below w.heap.size w w1) : Gr w1 p n l := ⟨h.1.on hb, h.2⟩
theorem Gr.at {w : World} {p : Option Addr} {n : Nat} {l : List (Nat × Nat)} (h : Gr w p n l) {k : Nat} (hk : k < l.length) :
    ∃ a, p = some a ∧ w.cell? (a.add (k * 2)) = some (.int .i64 l[k].1) ∧ w.cell? ⟨(a.add (k * 2)).block, (a.add (k * 2)).off + 1, none⟩ = some (.int .i64 l[k].2) ∧ l[k].1 < n ∧ l[k].2 < n ∧ l[k].1 ≠ l[k].2 := by
  obtain ⟨a, rfl, c0, c1⟩ := h.1.at (k := k) (by simpa [cast2] using hk)
  refine ⟨a, rfl, ?_, ?_, h.2.2.2 _ (List.getElem_mem hk)⟩
  · rw [c0]; simp [cast2]
  · rw [c1]; simp [cast2]

/-- The first nodes behind the first k edges. -/
def pre (l : List (Nat × Nat)) : Nat → Nat → Nat
  | 0 => id
  | k + 1 => if h : k < l.length then joinR (pre l k) l[k].1 l[k].2 else pre l k
theorem pre_next {l : List (Nat × Nat)} {k : Nat} (h : k < l.length) : pre l (k + 1) = joinR (pre l k) l[k].1 l[k].2 := by rw [pre, dif_pos h]
/-- Whether edge i joins what was not joined. -/
def joins (l : List (Nat × Nat)) (i : Nat) : Bool := if h : i < l.length then decide (pre l i l[i].1 ≠ pre l i l[i].2) else false
theorem joins_at {l : List (Nat × Nat)} {i : Nat} (h : i < l.length) : joins l i = decide (pre l i l[i].1 ≠ pre l i l[i].2) := by rw [joins, dif_pos h]
def inF (l : List (Nat × Nat)) (k : Nat) : List Nat := (List.range k).filter (joins l)
def outF (l : List (Nat × Nat)) (k : Nat) : List Nat := (List.range k).filter fun i => !joins l i
theorem inF_next (l : List (Nat × Nat)) (k : Nat) : inF l (k + 1) = inF l k ++ if joins l k then [k] else [] := by
  unfold inF; rw [List.range_succ, List.filter_append]; simp [List.filter]; split <;> simp_all
theorem outF_next (l : List (Nat × Nat)) (k : Nat) : outF l (k + 1) = outF l k ++ if joins l k then [] else [k] := by
  unfold outF; rw [List.range_succ, List.filter_append]; simp [List.filter]; split <;> simp_all
theorem inF_len (l : List (Nat × Nat)) (k : Nat) : (inF l k).length ≤ k := by
  unfold inF; exact Nat.le_trans (List.length_filter_le _ _) (by simp)
theorem outF_len (l : List (Nat × Nat)) (k : Nat) : (outF l k).length ≤ k := by
  unfold outF; exact Nat.le_trans (List.length_filter_le _ _) (by simp)

/-- Whole numbers as values. -/
def ints (xs : List Nat) : List Value := xs.map fun (x : Nat) => Value.int .i64 ((x : Nat) : Int)
theorem ints_len (xs : List Nat) : (ints xs).length = xs.length := by simp [ints]
theorem ints_app (xs ys : List Nat) : ints (xs ++ ys) = ints xs ++ ints ys := by simp [ints]
/-- A list of whole numbers in memory of the call's own. -/
def Own (B : Nat) (w : World) (v : Value) (xs : List Nat) : Prop := w.ownsRow B 3 1 v xs.length (ints xs)
theorem own_on {B : Nat} {w w' : World} {v : Value} {n : Nat} {e : TypeId} {s : Nat} {xs : List Value} (h : w.ownsRow B e s v n xs) (hb : Below w.heap.size w w') : w'.ownsRow B e s v n xs := by
  have k := h.lt
  obtain ⟨hl, h0 | ⟨g, cap, cur, rfl, hB, hg, r⟩⟩ := h
  · exact ⟨hl, .inl h0⟩
  · have := k g rfl
    exact ⟨hl, .inr ⟨g, cap, cur, rfl, hB, by rw [hb.block g this.2]; exact hg, r⟩⟩
theorem own_at {B g : Nat} {w w' : World} {v : Value} {n : Nat} {e : TypeId} {s : Nat} {xs : List Value} (h : w.ownsRow B e s v n xs) (hb : At g w w') (hg : v.ownBlock ≠ some g) : w'.ownsRow B e s v n xs := by
  obtain ⟨hl, h0 | ⟨g', cap, cur, rfl, hB, hc, r⟩⟩ := h
  · exact ⟨hl, .inl h0⟩
  · have : g' ≠ g := fun e => hg (by rw [e]; rfl)
    exact ⟨hl, .inr ⟨g', cap, cur, rfl, hB, by rw [hb.block g' this]; exact hc, r⟩⟩
end Go.Proofs.Ytampfciacjifgaa
