/- Short steps of two functions: lists of steps of the call's own; the operations; the law of the loop. -/
import Derived.Test.YtbohcedclnbcdaaV3
import Derived.RangeFuncBox
namespace Go.Proofs.Ytbohcedclnbcdaa
open Go.ChangeShapes Go.WideShapes Go.ChangeAt Go.RowKit Go.Shelf
attribute [local go_sem] Oper.semAt_some
set_option linter.unusedVariables false
set_option linter.unusedSimpArgs false

def cells (l : List Stp) : List Value := l.flatMap fun s => [Value.int .i64 s.1, Value.int .i64 s.2]
theorem cells_app (l m : List Stp) : cells (l ++ m) = cells l ++ cells m := by simp [cells]
theorem cells_len (l : List Stp) : (cells l).length = l.length * 2 := by
  induction l with
  | nil => rfl
  | cons s l ih => simp [cells] at ih ⊢; omega
theorem cells_at (l : List Stp) {i : Nat} (h : i < l.length) : (cells l)[i * 2]? = some (.int .i64 l[i].1) ∧ (cells l)[i * 2 + 1]? = some (.int .i64 l[i].2) := by
  induction l generalizing i with
  | nil => simp at h
  | cons s l ih =>
    cases i with
    | zero => exact ⟨rfl, rfl⟩
    | succ i =>
      have := ih (i := i) (by simpa using h)
      have e : cells (s :: l) = .int .i64 s.1 :: .int .i64 s.2 :: cells l := rfl
      rw [e, show (i + 1) * 2 = i * 2 + 1 + 1 by omega]
      simpa using this
/-- Steps in memory of the call's own. -/
def OwnS (B : Nat) (w : World) (v : Value) (l : List Stp) : Prop := w.ownsRow B 34 2 v l.length (cells l)
theorem OwnS.mono {B B' : Nat} {w : World} {v : Value} {l : List Stp} (h : OwnS B w v l) (hB : B' ≤ B) : OwnS B' w v l := by
  obtain ⟨hl, h0 | ⟨g, cap, cur, rfl, hg, r⟩⟩ := h
  · exact ⟨hl, .inl h0⟩
  · exact ⟨hl, .inr ⟨g, cap, cur, rfl, Nat.le_trans hB hg, r⟩⟩
theorem OwnS.kept {B : Nat} {w w' : World} {v : Value} {l : List Stp} (h : OwnS B w v l) (hk : ∀ k, k < w.heap.size → B ≤ k → w'.heap[k]? = w.heap[k]?) : OwnS B w' v l := by
  have k := World.ownsRow.lt h
  obtain ⟨hl, h0 | ⟨g, cap, cur, rfl, hB, hg, r⟩⟩ := h
  · exact ⟨hl, .inl h0⟩
  · have := k g rfl
    exact ⟨hl, .inr ⟨g, cap, cur, rfl, hB, by rw [hk g this.2 hB]; exact hg, r⟩⟩
theorem OwnS.on {B : Nat} {w w' : World} {v : Value} {l : List Stp} (h : OwnS B w v l) (hb : Below w.heap.size w w') : OwnS B w' v l := h.kept fun k hk _ => hb.block k hk
theorem OwnS.sl {B : Nat} {w : World} {v : Value} {l : List Stp} (h : OwnS B w v l) (hm : l.length ≤ maxLen) (h6 : ∀ x ∈ l, I64 x.1 ∧ I64 x.2) : ∃ p c, v = .slice p l.length c ∧ Sl w p l ∧ ∀ a, p = some a → B ≤ a.block := by
  have h' := h
  obtain ⟨hl, ⟨rfl, h0⟩ | ⟨g, cap, cur, rfl, hB, hg, r⟩⟩ := h
  · have e := List.eq_nil_of_length_eq_zero h0
    subst e
    exact ⟨none, 0, rfl, ⟨fun _ => rfl, fun a ha => (by cases ha), Nat.zero_le _, fun x hx => (by cases hx)⟩, fun a ha => (by cases ha)⟩
  · refine ⟨some ⟨g, 0, none⟩, cap, rfl, ⟨fun e => (by cases e), fun a ha i hi => ?_, hm, h6⟩, fun a ha => (by cases ha; exact hB)⟩
    cases ha
    have hc := cells_at l hi
    have c0 := World.ownsRow.cellAt h' (j := i * 2) (by omega)
    have c1 := World.ownsRow.cellAt h' (j := i * 2 + 1) (by omega)
    rw [Addr.add_lit]
    simp only [Nat.zero_add]
    refine ⟨?_, ?_⟩
    · rw [c0]; exact hc.1
    · rw [c1]; exact hc.2
theorem OwnS.form {B : Nat} {w : World} {v : Value} {l : List Stp} (h : OwnS B w v l) : ∃ p c, v = .slice p l.length c := by
  obtain ⟨hl, ⟨rfl, h0⟩ | ⟨g, cap, cur, rfl, hB, hg, r⟩⟩ := h
  · exact ⟨none, 0, by rw [h0]⟩
  · exact ⟨_, cap, rfl⟩
theorem OwnS.nil (B : Nat) (w : World) : OwnS B w (.slice none 0 0) [] := World.ownsRow_nil _ _ _ _
/-- The last value of steps. -/
def lastv (v : Int) : List Stp → Int
  | [] => v
  | s :: l => lastv s.2 l
theorem lastv_snoc (v : Int) (l : List Stp) (s : Stp) : lastv v (l ++ [s]) = s.2 := by
  induction l generalizing v with
  | nil => rfl
  | cons t l ih => exact ih _
theorem shF_snoc (v : Int) (l : List Stp) (s : Stp) : shF v (l ++ [s]) = shF v l ++ if s.2 = lastv v l then [] else [s] := by
  induction l generalizing v with
  | nil =>
    by_cases e : s.2 = v
    · simp [shF, lastv, e]
    · simp [shF, lastv, e]
  | cons t l ih =>
    rw [List.cons_append, shF, shF]
    split
    · rename_i e; rw [ih, lastv, e]
    · rw [ih]; rfl
theorem add1_any (x y : Int) (w : World) (hx : ara x = true) (hy : ara y = true) : Calls Try.prog 45 #[.int .i64 x, .int .i64 y] w fun e w' => e = .returned (.int .i64 (x + y)) ∧ w' = w := by
  rw [ara_iff] at hx hy
  have W1 : IntKind.i64.wrap (x + y) = x + y := IntWalk.i64_in _ (by omega)
  go_enter Try.func45, Try.ntmps45
  go_wp2
  go_ret
  exact ⟨rfl, rfl⟩
theorem min1_any (x y : Int) (w : World) : Calls Try.prog 46 #[.int .i64 x, .int .i64 y] w fun e w' => e = .returned (.int .i64 (min x y)) ∧ w' = w := by
  rcases Int.le_total x y with h | h
  · rcases Int.lt_or_eq_of_le h with h1 | h1
    · go_enter Try.func46, Try.ntmps46
      go_wp2
      all_goals (go_ret; exact ⟨by first | (rw [Int.min_eq_left h]; rfl) | (exfalso; omega), rfl⟩)
    · subst h1
      go_enter Try.func46, Try.ntmps46
      go_wp2
      all_goals (go_ret; exact ⟨by first | (rw [Int.min_self]; rfl) | (exfalso; omega), rfl⟩)
  · rcases Int.lt_or_eq_of_le h with h1 | h1
    · go_enter Try.func46, Try.ntmps46
      go_wp2
      all_goals (go_ret; exact ⟨by first | (rw [Int.min_eq_right h]; rfl) | (exfalso; omega), rfl⟩)
    · subst h1
      go_enter Try.func46, Try.ntmps46
      go_wp2
      all_goals (go_ret; exact ⟨by first | (rw [Int.min_self]; rfl) | (exfalso; omega), rfl⟩)
theorem Has.chg {lo hi : Nat} {A B : World} {g : Nat} {t : TypeId} {cs : Array Value} (h : Has A g t cs) (hc : Chg lo hi A B) (hg : g < lo ∨ hi ≤ g) : Has B g t cs := by
  unfold Has; rw [hc.block g h.size_ hg]; exact h
theorem Has.obj {w : World} {g : Nat} {t : TypeId} {cs : Array Value} (h : Has w g t cs) {l : Nat} (o : Obj) (hl : g ≠ l) : Has (w.putObj l o) g t cs := by
  unfold Has; rw [World.putObj_heap_other hl]; exact h
theorem below_obj {B : Nat} {a w : World} (h : Below B a w) {l : Nat} (o : Obj) (hl : B ≤ l) : Below B a (w.putObj l o) :=
  ⟨h.os, h.tape, h.output, by simp; exact h.size, fun k hk => (World.putObj_heap_other (by omega)).trans (h.block k hk)⟩
theorem OwnS.obj {B : Nat} {w : World} {v : Value} {l : List Stp} (h : OwnS B w v l) {k : Nat} (o : Obj) (hk : k < B) : OwnS B (w.putObj k o) v l := h.kept fun j _ hB => World.putObj_heap_other (by omega)
theorem OwnS.put {B : Nat} {w : World} {v : Value} {l : List Stp} (h : OwnS B w v l) (a : Addr) (u : Value) (hk : a.block < B) : OwnS B (w.setCell a u) v l := h.kept fun j _ hB => Below.heap_setCell _ _ _ _ (by omega)
theorem tg_len (n : Nat) (p q : Int) (a b : List Stp) : (tg n p q a b).length ≤ n := by
  induction n generalizing p q a b with
  | zero => exact Nat.le_refl _
  | succ n ih =>
    cases h : nx a b with
    | none => rw [tg_none h]; exact Nat.zero_le _
    | some x => rw [tg_some h, List.length_cons]; have := ih (ad x p a).1 (ad x q b).1 (ad x p a).2 (ad x q b).2; omega
theorem info34 : (Try.prog.info? 34).map (fun i => (i.zero, i.size, i.bytes)) = some (some (.agg #[.int .i64 0, .int .i64 0]), 2, 16) := by kernel_rfl
end Go.Proofs.Ytbohcedclnbcdaa
