/- ShapeScales: scaled bars; stores into a row of the call's own. -/
import Derived.Test.YtcadghenjcaaiaaCz
namespace Go.Proofs.Ytcadghenjcaaiaa
open Go.ChangeShapes Go.WideShapes Go.ChangeAt Go.RowKit
set_option linter.unusedVariables false
set_option linter.unusedSimpArgs false

def scP (k : Int) (p : Pt) : Pt := ⟨k * p.x, k * p.y, k * p.z⟩
def scB (b : Bar) (k : Int) (p : Option Addr) (cap : Nat) : Bar := ⟨b.mark, b.size, b.count, b.code, p, b.ds.map (· * k), cap⟩
theorem mv_sc (k : Int) (p : Pt) (c n : Int) : mv (scP k p) c (n * k) = scP k (mv p c n) := by
  have e : n * k = k * n := Int.mul_comm n k
  unfold mv scP
  repeat' split
  all_goals simp [e, Int.mul_add, Int.mul_sub]
theorem legF_sc (b : Bar) (k : Int) (p : Option Addr) (cap : Nat) (j : Nat) : legF (scB b k p cap) j = legF b j * k := by
  unfold legF scB
  simp only [List.getD_eq_getElem?_getD, List.getElem?_map]
  cases b.ds[(ixb b.code)[j]?.getD 0]? <;> simp
theorem pt_sc (b : Bar) (k : Int) (p : Option Addr) (cap : Nat) : ∀ j, pt (scB b k p cap) j = scP k (pt b j)
  | 0 => by simp [pt, scP]
  | j + 1 => by
    have e1 : pt (scB b k p cap) (j + 1) = mv (pt (scB b k p cap) j) (way b.code j) (legF (scB b k p cap) j) := rfl
    rw [e1, pt_sc b k p cap j, legF_sc, mv_sc]; rfl
theorem barB_one {b : Bar} (p : Option Addr) (cap : Nat) (h : barB b = true) : barB (scB b 1 p cap) = true := by
  have e : b.ds.map (· * 1) = b.ds := by simp
  have : barB (scB b 1 p cap) = barB b := by
    unfold barB scB nmB
    dsimp only
    rw [e]
  rw [this]; exact h
def scZ (k : Int) (l : List Int) (i : Nat) : List Int := (l.take i).map (· * k) ++ l.drop i
theorem scZ_len (k : Int) (l : List Int) (i : Nat) : (scZ k l i).length = l.length := by simp [scZ]; omega
theorem scZ_get {k : Int} {l : List Int} {i : Nat} (h : i < l.length) : (scZ k l i)[i]'(by rw [scZ_len]; exact h) = l[i] := by
  simp [scZ, List.getElem_append, Nat.min_eq_left (Nat.le_of_lt h)]
theorem scZ_set {k : Int} {l : List Int} {i : Nat} (h : i < l.length) : (scZ k l i).set i (l[i] * k) = scZ k l (i + 1) := by
  unfold scZ
  have hm : ((l.take i).map (· * k)).length = i := by simp; omega
  have e1 : l.drop i = l[i] :: l.drop (i + 1) := List.drop_eq_getElem_cons h
  have e2 : l.take (i + 1) = l.take i ++ [l[i]] := List.take_succ_eq_append_getElem h
  rw [List.set_append_right _ _ (by omega), hm, Nat.sub_self, e1, e2, List.set_cons_zero, List.map_append, List.append_assoc]
  rfl
theorem own_put {B g n cap : Nat} {e : TypeId} {w : World} {xs : List Value} (h : w.ownsRow B e 1 (.slice (some ⟨g, 0, none⟩) n cap) n xs) (j : Nat) (u : Value) : (w.setCell ⟨g, j, none⟩ u).ownsRow B e 1 (.slice (some ⟨g, 0, none⟩) n cap) n (xs.set j u) := by
  obtain ⟨hl, ⟨h0, -⟩ | ⟨g', cap', cur, e', hB, hg, hn, hm, hs, ht⟩⟩ := h
  · cases h0
  · simp only [Value.slice.injEq, Option.some.injEq, Addr.mk.injEq] at e'
    obtain ⟨⟨rfl, -⟩, -, rfl⟩ := e'
    refine ⟨by simpa using hl, .inr ⟨_, _, cur.setIfInBounds j u, rfl, hB, Has.put_ hg j u, hn, hm, by simpa using hs, ?_⟩⟩
    rw [Array.toList_setIfInBounds, List.take_set, ht]
theorem OwnI.put {B g n cap : Nat} {w : World} {k : Int} {l : List Int} {i : Nat} (h : OwnI B w (.slice (some ⟨g, 0, none⟩) n cap) (scZ k l i)) (hn : l.length = n) (hi : i < l.length) : OwnI B (w.setCell ⟨g, i, none⟩ (.int .i64 (l[i] * k))) (.slice (some ⟨g, 0, none⟩) n cap) (scZ k l (i + 1)) := by
  have h' : w.ownsRow B 3 1 (.slice (some ⟨g, 0, none⟩) n cap) n ((scZ k l i).map (Value.int .i64)) := by
    have h0 := h
    unfold OwnI at h0
    rw [scZ_len, hn] at h0; exact h0
  have h2 := own_put h' i (.int .i64 (l[i] * k))
  unfold OwnI
  rw [scZ_len, hn, ← scZ_set hi, List.map_set]
  exact h2
theorem OwnI.on {B : Nat} {w w' : World} {v : Value} {l : List Int} (h : OwnI B w v l) (hb : Below w.heap.size w w') : OwnI B w' v l := own_on h hb
theorem OwnI.at {B g : Nat} {w w' : World} {v : Value} {l : List Int} (h : OwnI B w v l) (hb : At g w w') (hg : g < B) : OwnI B w' v l :=
  own_at h hb (fun e => by have := (World.ownsRow.lt h g e).1; omega)
theorem OwnI.fn {B : Nat} {w : World} {v : Value} {l : List Int} {n : Nat} (h : OwnI B w v l) (hl : l.length = n) (h0 : 0 < n) : ∃ g cap, v = .slice (some ⟨g, 0, none⟩) n cap ∧ B ≤ g ∧ g < w.heap.size := by
  obtain ⟨hl2, ⟨rfl, h0'⟩ | ⟨g, cap, cur, rfl, hB, hg, hn, hm, hs, ht⟩⟩ := h
  · omega
  · exact ⟨g, cap, by rw [hl], hB, (Array.getElem?_eq_some_iff.1 hg).1⟩
theorem OwnI.cell {B g n cap : Nat} {w : World} {l : List Int} (h : OwnI B w (.slice (some ⟨g, 0, none⟩) n cap) l) {i : Nat} (hi : i < l.length) : w.cell? ⟨g, i, none⟩ = some (.int .i64 l[i]) ∧ w.frozen? ⟨g, i, none⟩ = false := by
  obtain ⟨q, c, e, k⟩ := h.rdz
  simp only [Value.slice.injEq] at e
  obtain ⟨rfl, -, rfl⟩ := e
  obtain ⟨a, e, hc⟩ := k i hi
  cases e
  rw [Addr.add_lit, Nat.zero_add] at hc
  refine ⟨hc, ?_⟩
  obtain ⟨hl2, ⟨h0, -⟩ | ⟨g', cap', cur, e', hB, hg, hn, hm, hs, ht⟩⟩ := h
  · cases h0
  · simp only [Value.slice.injEq, Option.some.injEq, Addr.mk.injEq] at e'
    obtain ⟨⟨rfl, -⟩, -, rfl⟩ := e'
    simp [World.frozen?, hg]
theorem Env.five {w0 w : World} {l : List Fb} {u0 u1 u2 u3 u4 : Value} (h : Env w0 w l) (k : Nat) (hb : Nat.blt k l.length = true) :
    Env w0 (((((w.setCell ⟨numB k l, 0, none⟩ u0).setCell ⟨numB k l, 1, none⟩ u1).setCell ⟨numB k l, 2, none⟩ u2).setCell ⟨numB k l, 3, none⟩ u3).setCell ⟨numB k l, 4, none⟩ u4) (setB 4 u4 k (setB 3 u3 k (setB 2 u2 k (setB 1 u1 k (setB 0 u0 k l))))) := by
  have e : ∀ (k : Nat) (l : List Fb) (i : Nat) (u : Value), numB k (setB i u k l) = numB k l := by
    intro k l i u
    induction l generalizing k with
    | nil => cases k <;> rfl
    | cons x l ih => cases k with
      | zero => rfl
      | succ k => exact ih k
  have e2 : ∀ (k : Nat) (l : List Fb) (i : Nat) (u : Value), (setB i u k l).length = l.length := by
    intro k l i u
    have := congrArg List.length (setB_g i u k l); simpa using this
  have h0 := h.put k 0 u0 hb
  have h1 := h0.put k 1 u1 (by rw [e2]; exact hb)
  have h2 := h1.put k 2 u2 (by rw [e2, e2]; exact hb)
  have h3 := h2.put k 3 u3 (by rw [e2, e2, e2]; exact hb)
  have h4 := h3.put k 4 u4 (by rw [e2, e2, e2, e2]; exact hb)
  simp only [e] at h4
  exact h4
end Go.Proofs.Ytcadghenjcaaiaa
