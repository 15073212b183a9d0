/- Merge: the pure side; a field of a bar in a row of the call's own is put. -/
import Derived.Test.YthdafpbmmfelpaaGreatDoorCb
import Derived.Test.YthdafpbmmfelpaaGreatDoorTx
import Derived.Test.YthdafpbmmfelpaaGreatDoorSa
namespace Go.Proofs.YthdafpbmmfelpaaGreatDoor
open Go.ChangeShapes Go.WideShapes Go.ChangeAt Go.RowKit
set_option linter.unusedVariables false
set_option linter.unusedSimpArgs false

theorem flat_set {α : Type} (f : α → List Value) (s : Nat) (hf : ∀ x, (f x).length = s) : ∀ (l : List α) (i j : Nat) (hi : i < l.length) (hj : j < s) (y : α) (u : Value), f y = (f l[i]).set j u → (l.flatMap f).set (i * s + j) u = (l.set i y).flatMap f
  | [], i, j, hi, hj, y, u, e => absurd hi (Nat.not_lt_zero i)
  | x :: r, 0, j, hi, hj, y, u, e => by
    simp only [List.flatMap_cons, List.set_cons_zero, Nat.zero_mul, Nat.zero_add]
    rw [List.set_append_left _ _ (by rw [hf]; exact hj), e]; rfl
  | x :: r, i + 1, j, hi, hj, y, u, e => by
    simp only [List.flatMap_cons, List.set_cons_succ]
    rw [List.set_append_right _ _ (by rw [hf, Nat.add_mul]; omega), hf, show (i + 1) * s + j - s = i * s + j by rw [Nat.add_mul]; omega]
    rw [flat_set f s hf r i j (by simpa using hi) hj y u (by simpa using e)]
theorem own_put5 {B g n cap s : Nat} {e : TypeId} {w : World} {xs : List Value} (h : w.ownsRow B e s (.slice (some ⟨g, 0, none⟩) n cap) n xs) (j : Nat) (u : Value) : (w.setCell ⟨g, j, none⟩ u).ownsRow B e s (.slice (some ⟨g, 0, none⟩) n cap) n (xs.set j u) := by
  obtain ⟨hl, ⟨h0, -⟩ | ⟨g', cap', cur, e', hB, hg, hn, hm, hs, ht⟩⟩ := h
  · cases h0
  · simp only [Value.slice.injEq, Option.some.injEq, Addr.mk.injEq] at e'
    obtain ⟨⟨rfl, -⟩, -, rfl⟩ := e'
    refine ⟨by simpa using hl, .inr ⟨_, _, cur.setIfInBounds j u, rfl, hB, Has.put_ hg j u, hn, hm, by simpa using hs, ?_⟩⟩
    rw [Array.toList_setIfInBounds, List.take_set, ht]
theorem Own.put {B g n cap : Nat} {w : World} {l : List Bar} {i j : Nat} {y : Bar} {u : Value} (h : Own bc 60 5 B w (.slice (some ⟨g, 0, none⟩) n cap) l) (hn : l.length = n) (hi : i < l.length) (hj : j < 5) (e : bc y = (bc l[i]).set j u) :
    Own bc 60 5 B (w.setCell ⟨g, i * 5 + j, none⟩ u) (.slice (some ⟨g, 0, none⟩) n cap) (l.set i y) := by
  unfold Own at h ⊢
  rw [List.length_set, ← flat_set bc 5 bcl l i j hi hj y u e]
  rw [hn] at h ⊢
  exact own_put5 h _ u
/-- Where the row lies, and a cell of it. -/
theorem Own.fb {B : Nat} {w : World} {v : Value} {l : List Bar} (h : Own bc 60 5 B w v l) (h0 : 0 < l.length) : ∃ g cap, v = .slice (some ⟨g, 0, none⟩) l.length cap ∧ B ≤ g ∧ g < w.heap.size ∧
    ∀ k (hk : k < l.length) j, j < 5 → w.cell? ⟨g, k * 5 + j, none⟩ = (bc l[k])[j]? ∧ w.frozen? ⟨g, k * 5 + j, none⟩ = false := by
  obtain ⟨hl, ⟨rfl, h0'⟩ | ⟨g, cap, cur, rfl, hB, hg, hc, hm, hz, ht⟩⟩ := h
  · omega
  · refine ⟨g, cap, rfl, hB, (Array.getElem?_eq_some_iff.1 hg).1, fun k hk j hj => ⟨?_, Has.open_ hg _⟩⟩
    rw [cell_of_row w g _ cur 60 (0, 0) hg, ← flat_at bc 5 bcl l k hk j hj, ← ht, List.getElem?_take_of_lt (by omega), Array.getElem?_toList]
def bump (b c : Bar) : Bar := { b with count := b.count + c.count }
theorem bump_bc (b c : Bar) : bc (bump b c) = (bc b).set 2 (.int .i64 (b.count + c.count)) := rfl
/-- Two schedules merged, from the list m on; a: the first one. -/
def mrg (a : List Bar) : List Bar → List Bar → Option (List Bar)
  | m, [] => some m
  | m, c :: r => if h : fnd c.mark a < a.length then (if smB a[fnd c.mark a] c then mrg a (m.set (fnd c.mark a) (bump (m.getD (fnd c.mark a) c) c)) r else none) else mrg a (m ++ [c]) r
theorem mrg_new {a m r : List Bar} {c : Bar} (h : ¬ fnd c.mark a < a.length) : mrg a m (c :: r) = mrg a (m ++ [c]) r := by rw [mrg, dif_neg h]
theorem mrg_no {a m r : List Bar} {c : Bar} (h : fnd c.mark a < a.length) (hs : smB a[fnd c.mark a] c = false) : mrg a m (c :: r) = none := by rw [mrg, dif_pos h, hs]; rfl
theorem mrg_old {a m r : List Bar} {c : Bar} (h : fnd c.mark a < a.length) (hm : fnd c.mark a < m.length) (hs : smB a[fnd c.mark a] c = true) : mrg a m (c :: r) = mrg a (m.set (fnd c.mark a) (bump m[fnd c.mark a] c)) r := by
  rw [mrg, dif_pos h, hs, if_pos rfl, List.getD_eq_getElem?_getD, List.getElem?_eq_getElem hm]; rfl
/-- A bar without the place of its dimensions. -/
def nrm (b : Bar) : Bar := { b with p := none, cap := 0 }
end Go.Proofs.YthdafpbmmfelpaaGreatDoor
