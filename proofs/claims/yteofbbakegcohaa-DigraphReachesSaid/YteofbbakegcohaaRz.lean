/- DigraphReaches: facts of one step. -/
import Derived.Test.YteofbbakegcohaaRy
namespace Go.Proofs.Yteofbbakegcohaa
open Go.ChangeShapes Go.WideShapes Go.ChangeAt Go.RowKit
set_option linter.unusedVariables false
set_option linter.unusedSimpArgs false


theorem loop_code {p : Option Addr} {n : Nat} {l : List (Nat × Nat)} (cap : Nat) {w : World} (hG : Gr w p n l) :
    Calls Try.prog 27 #[.int .i64 n, .slice p l.length cap] w fun e w' => ∃ (v : Value) (z : Int), e = .returned (.tuple #[v, .int .i64 z]) ∧ decide (z = 0) = (ordr (adj l) n n []).isNone ∧ Below w.heap.size w w' := by
  cases hE : ordr (adj l) n n [] with
  | none => exact (loop_some cap hG hE).mono fun e w' k => by obtain ⟨v, L, e1, -, -, hb⟩ := k; exact ⟨v, 0, e1, rfl, hb⟩
  | some E => exact (loop_none cap hG hE).mono fun e w' k => ⟨_, 12, k.1, rfl, k.2⟩
theorem pso_flag {n : Nat} {l : List (Nat × Nat)} {ls : List (List Nat)} (hl : ∀ x ∈ l, x.1 < n ∧ x.2 < n) (hA : ∀ v, v < n → ∀ u ∈ adj l v, u < n) (h : Pso n (adj l) ls) : (slf l || ls.any fun q => decide (1 < q.length)) = (ordr (adj l) n n []).isNone := by
  obtain ⟨hc, hlt⟩ := pso_cls hA h
  rw [flag_iff hc hl]
  cases hE : ordr (adj l) n n [] with
  | none =>
    obtain ⟨q, -, hq, hy⟩ := (ordr_find hA hc hlt).2 hE
    exact List.any_eq_true.2 ⟨q, hq, hy⟩
  | some E =>
    have := (ordr_find hA hc hlt).1 E hE
    rw [List.find?_eq_none] at this
    exact List.any_eq_false.2 this
theorem mks_next {ls : List (List Nat)} {j : Nat} (hj : j < ls.length) (x : Nat) : mks (ls.take (j + 1)) x = (mks (ls.take j) x || ls[j].contains x) := by
  unfold mks
  rw [List.take_succ_eq_append_getElem hj, List.any_append]; simp
theorem any_next {ls : List (List Nat)} {j : Nat} (hj : j < ls.length) (f : List Nat → Bool) : (ls.take (j + 1)).any f = ((ls.take j).any f || f ls[j]) := by
  rw [List.take_succ_eq_append_getElem hj, List.any_append]; simp
theorem flat_next {ls : List (List Nat)} {j : Nat} (hj : j < ls.length) : (ls.take (j + 1)).flatten.length = (ls.take j).flatten.length + ls[j].length := by
  rw [List.take_succ_eq_append_getElem hj, List.flatten_append, List.length_append]; simp
theorem flat_take_le (ls : List (List Nat)) (j : Nat) : (ls.take j).flatten.length ≤ ls.flatten.length := by
  have : ls.flatten = (ls.take j).flatten ++ (ls.drop j).flatten := by rw [← List.flatten_append, List.take_append_drop]
  rw [this, List.length_append]; omega
theorem not_mks {A : Nat → List Nat} {n : Nat} {ls : List (List Nat)} (hc : Cls n A ls) {j : Nat} (hj : j < ls.length) {x : Nat} (hx : x ∈ ls[j]) : mks (ls.take j) x = false := by
  unfold mks
  rw [List.any_eq_false]
  intro q hq
  obtain ⟨t, ht, et⟩ := List.getElem_of_mem hq
  rw [List.length_take] at ht
  rw [List.getElem_take] at et
  have := List.pairwise_iff_getElem.1 hc.p3 t j (by omega) hj (by omega)
  rw [et] at this
  intro hm
  exact this x (List.contains_iff_mem.1 hm) hx
theorem not_take {q : List Nat} (nd : q.Nodup) {i : Nat} (hi : i < q.length) : (q.take i).contains q[i] = false := by
  cases e : (q.take i).contains q[i]
  · rfl
  · obtain ⟨t, ht, et⟩ := List.getElem_of_mem (List.contains_iff_mem.1 e)
    rw [List.length_take] at ht
    rw [List.getElem_take] at et
    exact absurd et (List.pairwise_iff_getElem.1 nd t i (by omega) hi (by omega))
theorem row_next {S m : Nat} {wr : World} {ls : List (List Nat)} {j i : Nat} {q : List Nat} (hi : i < q.length) (h : RowB wr S m (fun x => mks (ls.take j) x || (q.take i).contains x)) : RowB (wr.setCell ⟨S, q[i], none⟩ (.bool true)) S m (fun x => mks (ls.take j) x || (q.take (i + 1)).contains x) := by
  refine (h.put q[i] true).cong fun x hx => ?_
  have hm : ∀ y, y ∈ q.take (i + 1) ↔ y ∈ q.take i ∨ y = q[i] := fun y => by rw [List.take_succ_eq_append_getElem hi, List.mem_append, List.mem_singleton]
  by_cases e : x = q[i]
  · rw [e, upd_same, List.contains_iff_mem.2 ((hm q[i]).2 (.inr rfl)), Bool.or_true]
  · rw [upd_other e]
    congr 1
    rw [Bool.eq_iff_iff, List.contains_iff_mem, List.contains_iff_mem, hm]
    exact ⟨.inl, fun h => h.resolve_right e⟩
/-- What holds of one node of a part. -/
structure Nd (l : List (Nat × Nat)) (m : Nat) (ls : List (List Nat)) (j i x : Nat) (q : List Nat) : Prop where
  lt : x < m
  no : (mks (ls.take j) x || (q.take i).contains x) = false
  sf : (rch (adj l) m x).contains x = true
  sm : rch (adj l) m x = rch (adj l) m (hd q)
  ed : ∀ a b, (a, b) ∈ l → (rch (adj l) m x).contains a = true → (rch (adj l) m x).contains b = true
theorem nd_of {l : List (Nat × Nat)} {m : Nat} {ls : List (List Nat)} (hA : ∀ v, v < m → ∀ u ∈ adj l v, u < m) (hc : Cls m (adj l) ls) (hlt : ∀ q ∈ ls, ∀ x ∈ q, x < m) {j : Nat} (hj : j < ls.length) {i : Nat} (hi : i < ls[j].length) : Nd l m ls j i ls[j][i] ls[j] := by
  have hq := List.getElem_mem hj
  have hx := List.getElem_mem hi
  obtain ⟨h1, h2, h3, h4⟩ := hc.p1 _ hq
  have hxm := hlt _ hq _ hx
  have hh := hd_mem h3
  refine ⟨hxm, ?_, rch_self hA hxm, rch_same hA hxm (hlt _ hq _ hh) ((h4 _ hx _).1 hh), fun a b hab h => rch_edge hA hxm hab h⟩
  rw [not_mks hc hj hx, not_take h1 hi]; rfl
end Go.Proofs.Yteofbbakegcohaa
