/- Rows of numbers, of sides, of triples of sides and of sets: read, and of a call's own. -/
import Derived.Test.YthdafpbmmfelpaaGreatDoorM2
import Derived.Laws.Bits64b
namespace Go.Proofs.YthdafpbmmfelpaaGreatDoor
open Go.ChangeShapes Go.WideShapes Go.ChangeAt Go.RowKit
set_option linter.unusedVariables false
set_option linter.unusedSimpArgs false

theorem lt_of_cell {w : World} {a : Addr} {v : Value} (h : w.cell? a = some v) : a.block < w.heap.size := by
  rcases Nat.lt_or_ge a.block w.heap.size with k | k
  · exact k
  · rw [World.cell?, Array.getElem?_eq_none k] at h; cases h
theorem cell_later {w w1 : World} (hb : Below w.heap.size w w1) {a : Addr} {v : Value} (h : w.cell? a = some v) : w1.cell? a = some v := by
  rw [hb.cell (lt_of_cell h)]; exact h
abbrev S2 := Int × Int
def zc (z : Int) : List Value := [.int .i64 z]
def sc (p : S2) : List Value := [.int .i64 p.1, .int .i64 p.2]
def uc (n : Nat) : List Value := [.int .u64 (n : Int)]
theorem flat_len {α : Type} (f : α → List Value) (s : Nat) (hf : ∀ x, (f x).length = s) : ∀ l : List α, (l.flatMap f).length = l.length * s
  | [] => by simp
  | x :: l => by rw [List.flatMap_cons, List.length_append, hf, flat_len f s hf l, List.length_cons, Nat.succ_mul]; omega
theorem flat_at {α : Type} (f : α → List Value) (s : Nat) (hf : ∀ x, (f x).length = s) : ∀ (l : List α) (k : Nat) (hk : k < l.length) (j : Nat), j < s → (l.flatMap f)[k * s + j]? = (f l[k])[j]?
  | [], k, hk, _, _ => by simp at hk
  | x :: l, 0, _, j, hj => by
    rw [List.flatMap_cons, List.getElem?_append_left (by rw [hf]; omega)]; simp
  | x :: l, k + 1, hk, j, hj => by
    have h := flat_at f s hf l k (by simpa using hk) j hj
    rw [List.flatMap_cons, List.getElem?_append_right (by rw [hf, Nat.succ_mul]; omega), hf, show (k + 1) * s + j - s = k * s + j by rw [Nat.succ_mul]; omega, h]
    simp
/-- A row of the call's own. -/
def Own {α : Type} (f : α → List Value) (t : TypeId) (s B : Nat) (w : World) (v : Value) (l : List α) : Prop := w.ownsRow B t s v l.length (l.flatMap f)
/-- A row that can be read. -/
def Rd {α : Type} (f : α → List Value) (s : Nat) (w : World) (v : Value) (l : List α) : Prop := ∃ q c, v = .slice q l.length c ∧ ∀ k (h : k < l.length), ∃ g, q = some ⟨g, 0, none⟩ ∧ ∀ j, j < s → w.cell? ⟨g, k * s + j, none⟩ = (f l[k])[j]?
theorem own_on {B : Nat} {w w' : World} {v : Value} {n : Nat} {e : TypeId} {s : Nat} {xs : List Value} (h : w.ownsRow B e s v n xs) (hb : Below w.heap.size w w') : w'.ownsRow B e s v n xs := by
  have k := h.lt
  obtain ⟨hl, h0 | ⟨g, cap, cur, rfl, hB, hg, r⟩⟩ := h
  · exact ⟨hl, .inl h0⟩
  · have := k g rfl
    exact ⟨hl, .inr ⟨g, cap, cur, rfl, hB, by rw [hb.block g this.2]; exact hg, r⟩⟩
theorem own_at {B g : Nat} {w w' : World} {v : Value} {n : Nat} {e : TypeId} {s : Nat} {xs : List Value} (h : w.ownsRow B e s v n xs) (hb : At g w w') (hg : v.ownBlock ≠ some g) : w'.ownsRow B e s v n xs := by
  obtain ⟨hl, h0 | ⟨g', cap, cur, rfl, hB, hc, r⟩⟩ := h
  · exact ⟨hl, .inl h0⟩
  · have : g' ≠ g := fun e => hg (by rw [e]; rfl)
    exact ⟨hl, .inr ⟨g', cap, cur, rfl, hB, by rw [hb.block g' this]; exact hc, r⟩⟩
theorem Own.on {α : Type} {f : α → List Value} {t : TypeId} {s B : Nat} {w w' : World} {v : Value} {l : List α} (h : Own f t s B w v l) (hb : Below w.heap.size w w') : Own f t s B w' v l := own_on h hb
theorem Own.mono {α : Type} {f : α → List Value} {t : TypeId} {s B B' : Nat} {w : World} {v : Value} {l : List α} (h : Own f t s B w v l) (hB : B' ≤ B) : Own f t s B' w v l := by
  obtain ⟨hl, h0 | ⟨g, cap, cur, rfl, hg, r⟩⟩ := h
  · exact ⟨hl, .inl h0⟩
  · exact ⟨hl, .inr ⟨g, cap, cur, rfl, Nat.le_trans hB hg, r⟩⟩
theorem Own.rd {α : Type} {f : α → List Value} {t : TypeId} {s B : Nat} {w : World} {v : Value} {l : List α} (hf : ∀ x, (f x).length = s) (h : Own f t s B w v l) : Rd f s w v l := by
  rcases Nat.eq_zero_or_pos l.length with h0 | h0
  · obtain ⟨hl, ⟨rfl, -⟩ | ⟨g, cap, cur, rfl, -⟩⟩ := h
    · exact ⟨none, 0, by rw [h0], fun k hk => by omega⟩
    · exact ⟨_, cap, rfl, fun k hk => by omega⟩
  · obtain ⟨hl, ⟨rfl, hn⟩ | ⟨g, cap, cur, rfl, hB, hg, hn, hm, hs, ht⟩⟩ := h
    · omega
    · refine ⟨_, cap, rfl, fun k hk => ⟨g, rfl, fun j hj => ?_⟩⟩
      have hi : k * s + j < l.length * s := by
        have : (k + 1) * s ≤ l.length * s := Nat.mul_le_mul_right s hk
        rw [Nat.succ_mul] at this; omega
      rw [cell_of_row w g _ cur t (0, 0) hg, ← flat_at f s hf l k hk j hj, ← ht, List.getElem?_take_of_lt hi, Array.getElem?_toList]
theorem Rd.on {α : Type} {f : α → List Value} {s : Nat} {w w' : World} {v : Value} {l : List α} (hf : ∀ x, (f x).length = s) (h : Rd f s w v l) (hb : Below w.heap.size w w') : Rd f s w' v l := by
  obtain ⟨q, c, rfl, k⟩ := h
  refine ⟨q, c, rfl, fun i hi => ?_⟩
  obtain ⟨g, e, hc⟩ := k i hi
  refine ⟨g, e, fun j hj => ?_⟩
  have hc1 := hc j hj
  have hl : j < (f l[i]).length := by rw [hf]; exact hj
  rw [List.getElem?_eq_getElem hl] at hc1 ⊢
  exact cell_later hb hc1
theorem zl (z : Int) : (zc z).length = 1 := rfl
theorem sl (p : S2) : (sc p).length = 2 := rfl
theorem ul (n : Nat) : (uc n).length = 1 := rfl
end Go.Proofs.YthdafpbmmfelpaaGreatDoor
