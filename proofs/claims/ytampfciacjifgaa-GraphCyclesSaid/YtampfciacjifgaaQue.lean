/- A queue of nodes: a slice of the call's own that begins anywhere in its row. -/
import Derived.Test.YtampfciacjifgaaNr
import Derived.ArgAppend
namespace Go.Proofs.Ytampfciacjifgaa
open Go.ChangeShapes Go.WideShapes Go.ChangeAt Go.RowKit
set_option linter.unusedVariables false
set_option linter.unusedSimpArgs false

structure QuAt (B : Nat) (w : World) (g off cap : Nat) (cur : Array Value) (qs : List Nat) : Prop where
  b : B ≤ g
  h : Has w g 3 cur
  s : off + cap ≤ cur.size
  c : ∀ (j x : Nat), qs[j]? = some x → cur[off + j]? = some (.int .i64 (x : Int))
  l : qs.length ≤ cap
  m : cap ≤ maxLen
def Qu (B : Nat) (w : World) (v : Value) (qs : List Nat) : Prop := ∃ g off cap cur, v = .slice (some ⟨g, off, none⟩) qs.length cap ∧ QuAt B w g off cap cur qs
theorem Qu.on {B : Nat} {w w1 : World} {v : Value} {qs : List Nat} (h : Qu B w v qs) (hb : Below w.heap.size w w1) : Qu B w1 v qs := by
  obtain ⟨g, off, cap, cur, e, q⟩ := h
  exact ⟨g, off, cap, cur, e, q.b, Has.on q.h hb, q.s, q.c, q.l, q.m⟩
theorem Qu.at_ {B D : Nat} {w w1 : World} {v : Value} {qs : List Nat} (h : Qu B w v qs) (hb : At D w w1) (hD : D < B) : Qu B w1 v qs := by
  obtain ⟨g, off, cap, cur, e, q⟩ := h
  exact ⟨g, off, cap, cur, e, q.b, Has.at_ q.h hb (by have := q.b; omega), q.s, q.c, q.l, q.m⟩
theorem Qu.head {B : Nat} {w : World} {v : Value} {x : Nat} {qs : List Nat} (h : Qu B w v (x :: qs)) : ∃ g off cap, v = .slice (some ⟨g, off, none⟩) (x :: qs).length cap ∧ w.cell? ⟨g, off, none⟩ = some (.int .i64 (x : Int)) ∧ (x :: qs).length ≤ cap := by
  obtain ⟨g, off, cap, cur, e, q⟩ := h
  refine ⟨g, off, cap, e, ?_, q.l⟩
  have := q.c 0 x rfl
  rw [Has.read q.h]; simpa using this
theorem Qu.pop {B : Nat} {w : World} {g off cap x : Nat} {qs : List Nat} (h : Qu B w (.slice (some ⟨g, off, none⟩) (x :: qs).length cap) (x :: qs)) (a : Option Addr) (ha : a = if cap = 1 then some ⟨g, off, none⟩ else some ⟨g, off + 1, none⟩) : Qu B w (.slice a qs.length (cap - 1)) qs := by
  obtain ⟨g', off', cap', cur, e, q⟩ := h
  simp only [Value.slice.injEq, Option.some.injEq, Addr.mk.injEq, and_true, true_and] at e
  obtain ⟨⟨rfl, rfl⟩, rfl⟩ := e
  have hl := q.l
  simp at hl
  have hm := q.m
  by_cases h1 : cap = 1
  · rw [if_pos h1] at ha
    subst ha h1
    have : qs = [] := List.eq_nil_of_length_eq_zero (by omega)
    subst this
    exact ⟨g, off, 0, cur, rfl, q.b, q.h, by have := q.s; omega, (fun j x h => by cases h), Nat.le_refl _, by omega⟩
  · rw [if_neg h1] at ha
    subst ha
    refine ⟨g, off + 1, cap - 1, cur, rfl, q.b, q.h, by have := q.s; omega, fun j y hj => ?_, by omega, by omega⟩
    have := q.c (j + 1) y (by simpa using hj)
    rw [show off + 1 + j = off + (j + 1) by omega]; exact this
theorem Qu.one (B : Nat) (w : World) (x : Nat) (hB : B ≤ w.heap.size) : Qu B (w.alloc (.cells #[.int .i64 (x : Int)] 3)) (.slice (some ⟨w.heap.size, 0, none⟩) 1 1) [x] :=
  ⟨w.heap.size, 0, 1, _, rfl, hB, Has.new_ _ _ _, by simp, fun j y h => by
    cases j with
    | zero => simp at h; subst h; rfl
    | succ j => simp at h, by simp, by unfold maxLen; omega⟩
theorem wpList_queue {ops : Array Oper} {rest : List Oper} {o : Oper} {a : Act} {Q : Exit → Act → World → Prop} {B x : Nat} {w : World} {v : Value} {qs : List Nat} (hgd : o.guard = none) (s y : Operand)
    (ho : o.op = .call { callee := .builtin .append, args := #[s, y], argTypes := #[29, 29] }) (hs : a.eval s = v) (hq : Qu B w v qs) (ad : Addr) (c : Nat) (hy : a.eval y = .slice (some ad) 1 c) (hx : w.cell? ad = some (.int .i64 (x : Int)))
    (hl : qs.length ≤ 100000) (hB : B ≤ w.heap.size) (h : ∀ v' w', Qu B w' v' (qs ++ [x]) → Below B w w' → wpList Try.prog ops Q rest (a.put o.dst v') w') : wpList Try.prog ops Q (o :: rest) a w := by
  obtain ⟨i0, hi, hz0, hz1, hz2⟩ := info_parts info3
  obtain ⟨g, off, cap, cur, rfl, q⟩ := hq
  have hnew : ∀ j u, [Value.int .i64 (x : Int)][j]? = some u → w.cell? (ad.add j) = some u := fun j u hj => by
    cases j with
    | zero => simp at hj; subst hj; simpa [Addr.add] using hx
    | succ j => simp at hj
  refine wpList_append_arg w hgd s y 29 ho 3 i0 _ 1 8 Try.underlying29 hi hz0 hz1 hz2 rfl (by decide) g off qs.length cap (ints qs) hs (by simp [ints]) (fun j u hj => ?_) ad 1 c [.int .i64 (x : Int)] hy rfl hnew (by simp [Value.oneCell']) (fun hr j hj => ?_) (by unfold maxLen; omega) (by omega) (fun hr => ?_) (fun hr v' w' o1 o2 => ?_)
  · have hj2 := (List.getElem?_eq_some_iff.1 hj).1
    simp [ints] at hj2
    rw [Has.read q.h, q.c j _ (List.getElem?_eq_getElem hj2)]
    rw [List.getElem?_eq_getElem (by simpa [ints] using hj2)] at hj
    simp [ints] at hj
    rw [hj]
  · simp at hj
    subst hj
    have hs := q.s
    refine ⟨?_, Has.open_ q.h _⟩
    rw [Has.read q.h]
    rw [Array.getElem?_eq_getElem (by omega)]
    rfl
  · refine h _ _ ?_ ((Below.refl B w).setCell q.b _)
    have hs := q.s
    refine ⟨g, off, cap, _, by simp, q.b, Has.put_ q.h (off + qs.length * 1) _, by simpa using hs, fun j z hj => ?_, by simpa using hr, q.m⟩
    by_cases e : j < qs.length
    · rw [List.getElem?_append_left e] at hj
      rw [Array.getElem?_setIfInBounds_ne (by omega)]
      exact q.c j z hj
    · rw [List.getElem?_append_right (by omega)] at hj
      have hj0 : j - qs.length = 0 := by
        have := (List.getElem?_eq_some_iff.1 hj).1
        simp at this; omega
      rw [hj0] at hj
      simp at hj
      subst hj
      rw [show off + j = off + qs.length * 1 by omega, Array.getElem?_setIfInBounds_self_of_lt (by omega)]
  · obtain ⟨hln, ⟨-, h0⟩ | ⟨g', cap', cur', rfl, hg', hc', hnc, hcm, hcs, ht⟩⟩ := o1
    · omega
    · refine h _ _ ⟨g', 0, cap', cur', by simp, Nat.le_trans hB hg', hc', by omega, fun j z hj => ?_, by simpa using hnc, hcm⟩ ((Below.refl B w).grown o2 hB (fun k hk => by cases hk))
      have hj2 := (List.getElem?_eq_some_iff.1 hj).1
      simp at hj2
      have e : (ints qs ++ [Value.int .i64 (x : Int)]) = ints (qs ++ [x]) := by rw [ints_app]; rfl
      rw [e] at ht
      have e2 : (ints (qs ++ [x]))[j]? = some (.int .i64 (z : Int)) := by
        simp only [ints, List.getElem?_map, hj, Option.map_some]
      rw [← ht, List.getElem?_take_of_lt (by omega)] at e2
      rw [Nat.zero_add]
      simpa using e2
end Go.Proofs.Ytampfciacjifgaa
