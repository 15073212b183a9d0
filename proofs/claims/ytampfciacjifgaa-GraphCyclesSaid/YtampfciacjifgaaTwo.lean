/- Two lists of the call's own; one appended to the other; one reversed. -/
import Derived.Test.YtampfciacjifgaaWal
namespace Go.Proofs.Ytampfciacjifgaa
open Go.ChangeShapes Go.WideShapes Go.ChangeAt Go.RowKit Go.Sort
set_option linter.unusedVariables false
set_option linter.unusedSimpArgs false

theorem run_append_rd {B : Nat} {w : World} {v v8 : Value} {th ys : List Nat} (ty : TypeId) (h : Own B w v th) (h8 : Rdl w v8 ys) (hB : B ≤ w.heap.size) (hl : th.length + ys.length ≤ 100000) :
    ∃ v' w', (Builtin.append_ #[29, 29] ty #[v, v8]).run Try.prog w = .ok v' w' ∧ Own B w' v' (th ++ ys) ∧ w.grownBy w' v.ownBlock ∧ (v'.ownBlock = v.ownBlock ∨ v'.ownBlock = some w.heap.size) := by
  obtain ⟨i0, hi, hz0, hz1, hz2⟩ := info_parts info3
  obtain ⟨q, c, rfl, k⟩ := h8
  cases q with
  | none =>
    have e : ys = [] := by
      cases ys with
      | nil => rfl
      | cons y ys => obtain ⟨g, e, -⟩ := k 0 (by simp); cases e
    subst e
    by_cases hc : c = 0
    · subst hc
      exact ⟨v, w, run_append_owned_none w B 29 ty 3 i0 1 Try.underlying29 hi v th.length (ints th) h, by rw [List.append_nil]; exact h, ⟨rfl, rfl, rfl, Nat.le_refl _, fun _ _ _ => rfl⟩, .inl rfl⟩
    · have e : (Builtin.append_ #[29, 29] ty #[v, .slice none 0 c]).run Try.prog w = .ok v w := by
        rcases h.2 with ⟨rfl, h0⟩ | ⟨g, cap, cur, rfl, _, _, hnc, _⟩
        · simp [Builtin.append_, run_underlying Try.underlying29, sizeOf, typeInfo, hi, Builtin.lenOf, Builtin.firstCells]
        · simp [Builtin.append_, run_underlying Try.underlying29, sizeOf, typeInfo, hi, Builtin.lenOf, Builtin.firstCells, hnc, storeCells]
      exact ⟨v, w, e, by rw [List.append_nil]; exact h, ⟨rfl, rfl, rfl, Nat.le_refl _, fun _ _ _ => rfl⟩, .inl rfl⟩
  | some a =>
    have news : ∀ j u, (ints ys)[j]? = some u → w.cell? (a.add j) = some u := fun j u hj => by
      have hj2 := (List.getElem?_eq_some_iff.1 hj).1
      simp [ints] at hj2
      obtain ⟨g, e, hc⟩ := k j hj2
      simp only [Option.some.injEq] at e
      subst e
      rw [Addr.add_lit, Nat.zero_add, hc]
      rw [List.getElem?_eq_getElem (by simpa [ints] using hj2)] at hj
      simp [ints] at hj
      rw [hj]
    obtain ⟨v', w', hr, o, g, -, loc⟩ := run_append_own_at w B 29 ty 3 i0 _ 1 8 Try.underlying29 hi hz0 hz1 hz2 rfl (by decide) v th.length (ints th) h a ys.length c (ints ys) (by simp [ints]) news (by intro u hu; simp [ints] at hu; obtain ⟨x, -, rfl⟩ := hu; rfl) (by unfold maxLen; omega) (by omega) hB
    exact ⟨v', w', hr, by unfold Own; rw [ints_app, List.length_append]; exact o, g, loc⟩
theorem wpList_append_rd {ops : Array Oper} {rest : List Oper} {o : Oper} {a : Act} {Q : Exit → Act → World → Prop} {B : Nat} {w : World} {v v8 : Value} {th ys : List Nat} (hgd : o.guard = none) (s y : Operand)
    (ho : o.op = .call { callee := .builtin .append, args := #[s, y], argTypes := #[29, 29] }) (hs : a.eval s = v) (hy : a.eval y = v8) (h : Own B w v th) (h8 : Rdl w v8 ys) (hB : B ≤ w.heap.size) (hl : th.length + ys.length ≤ 100000)
    (hK : ∀ v' w', Own B w' v' (th ++ ys) → w.grownBy w' v.ownBlock → (v'.ownBlock = v.ownBlock ∨ v'.ownBlock = some w.heap.size) → wpList Try.prog ops Q rest (a.put o.dst v') w') : wpList Try.prog ops Q (o :: rest) a w := by
  refine wpList_plain hgd fun K hK' => ?_
  obtain ⟨v', w', hrun, r1, r2, r3⟩ := run_append_rd (w := w) o.type h h8 hB hl
  unfold Oper.wp
  simp [execOp, ho, resolve, invoke, builtin, hs, hy, hrun, Result.andThen]
  exact hK' _ _ (hK v' w' r1 r2 r3)
/-- A list of the call's own, reversed: it can be read, and nothing else has turned. -/
theorem reverse_rd (B : Nat) (v : Value) (xs : List Nat) (w : World) (h : Own B w v xs) (hl : xs.length ≤ 100000) :
    Calls Try.prog 67 #[v] w fun e w' => e = .returned (.tuple #[]) ∧ Rdl w' v xs.reverse ∧ Below B w w' ∧ (∀ g, v.ownBlock ≠ some g → w'.heap[g]? = w.heap[g]?) := by
  obtain ⟨q, c, rfl, hq⟩ := own_form h
  rcases hq with ⟨rfl, rfl⟩ | ⟨g, rfl, hB, hg⟩
  · refine (Try.slices_Reverse_int_empty none c w).mono ?_
    rintro e w' ⟨rfl, rfl⟩
    exact ⟨rfl, ⟨none, c, rfl, fun j hj => by simp at hj⟩, Below.refl _ _, fun _ _ => rfl⟩
  · have hl1 : (xs.map fun (x : Nat) => (x : Int)).length = xs.length := by simp
    have hH : Holds (Value.int .i64) w g 0 (xs.map fun (x : Nat) => (x : Int)).toArray := fun j hj => by
      have hj' : j < xs.length := by simpa using hj
      refine ⟨?_, World.ownsRow.frozenAt h (0 + j)⟩
      rw [Nat.zero_add, Own.cell h rfl hj']
      simp [hj']
    have r := Try.slices_Reverse_int g 0 c (xs.map fun (x : Nat) => (x : Int)) w hH (by rw [hl1]; omega)
    rw [hl1] at r
    refine r.mono ?_
    rintro e w' ⟨rfl, n, rfl⟩
    have hs : (xs.map fun (x : Nat) => (x : Int)).reverse.toArray.size = (xs.map fun (x : Nat) => (x : Int)).toArray.size := by simp
    have H2 := holds_putRow (Value.int .i64) (Sort.ahead w n) g 0 _ _ (holds_ahead (Value.int .i64) w n g 0 _ hH) hs
    refine ⟨rfl, ⟨some ⟨g, 0, none⟩, c, by simp, fun j hj => ⟨g, rfl, ?_⟩⟩, ⟨rfl, rfl, rfl, by simp [putRow, mapBlock], fun k hk => ?_⟩, fun k hk => ?_⟩
    · have hj' : j < xs.length := by simpa using hj
      have := (H2 j (by simpa using hj')).1
      rw [Nat.zero_add] at this
      rw [this]
      simp [hj']
    · have : g ≠ k := by omega
      simp [putRow, mapBlock, Array.getElem?_modify, this]
    · have : g ≠ k := fun e => hk (by simp [Value.ownBlock, e])
      simp [putRow, mapBlock, Array.getElem?_modify, this]

/-- Two lists that lie in no block together. -/
structure Tb (B : Nat) (w : World) (v7 : Value) (th : List Nat) (v8 : Value) (bk : List Nat) : Prop where
  l : Own B w v7 th
  r : Own B w v8 bk
  a : ∀ b, v7.ownBlock = some b → v8.ownBlock ≠ some b
theorem Tb.on {B : Nat} {w w1 : World} {v7 v8 : Value} {th bk : List Nat} (h : Tb B w v7 th v8 bk) (hb : Below w.heap.size w w1) : Tb B w1 v7 th v8 bk := ⟨own_on h.l hb, own_on h.r hb, h.a⟩
theorem Tb.symm {B : Nat} {w : World} {v7 v8 : Value} {th bk : List Nat} (h : Tb B w v7 th v8 bk) : Tb B w v8 bk v7 th := ⟨h.r, h.l, fun b h1 h2 => h.a b h2 h1⟩
theorem Tb.left {B : Nat} {w w1 : World} {v7 v8 v : Value} {th bk ys : List Nat} (h : Tb B w v7 th v8 bk) (o : Own B w1 v ys) (hg : w.grownBy w1 v7.ownBlock) (hv : v.ownBlock = v7.ownBlock ∨ v.ownBlock = some w.heap.size) : Tb B w1 v ys v8 bk := by
  refine ⟨o, World.ownsRow.kept h.r hg ?_, fun b hb => ?_⟩
  · cases e : v8.ownBlock with
    | none => exact .inl rfl
    | some b => exact .inr fun k => h.a b k.symm e
  · rcases hv with k | k
    · exact h.a b (k ▸ hb)
    · rw [k] at hb
      intro e
      have := (World.ownsRow.lt h.r _ e).2
      simp only [Option.some.injEq] at hb
      omega
end Go.Proofs.Ytampfciacjifgaa
