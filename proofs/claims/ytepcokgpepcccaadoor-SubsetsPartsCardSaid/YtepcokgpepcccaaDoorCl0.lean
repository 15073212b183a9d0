/- A list appended to a list of the call's own; a list cloned; one reversed. -/
import Derived.Test.YtepcokgpepcccaaDoorSms
import Derived.Lib.AppendIntMem
namespace Go.Proofs.YtepcokgpepcccaaDoor
open Go.ChangeShapes Go.WideShapes Go.ChangeAt Go.RowKit
set_option linter.unusedVariables false
set_option linter.unusedSimpArgs false

theorem zv_one (ys : List Int) : ∀ u ∈ zv ys, u.oneCell' = true := by
  intro u hu
  simp only [zv, List.mem_map] at hu
  obtain ⟨x, -, rfl⟩ := hu
  rfl
theorem run_append_rd {B : Nat} {w : World} {v v8 : Value} {th ys : List Int} (ty : TypeId) (h : OwnZ B w v th) (h8 : Rdz w v8 ys) (hB : B ≤ w.heap.size) (hl : th.length + ys.length ≤ 100000) :
    ∃ v' w', (Builtin.append_ #[22, 22] ty #[v, v8]).run Tryd.prog w = .ok v' w' ∧ OwnZ B w' v' (th ++ ys) ∧ w.grownBy w' v.ownBlock ∧ (v'.ownBlock = v.ownBlock ∨ v'.ownBlock = some w.heap.size) := by
  obtain ⟨i0, hi, hz0, hz1, hz2⟩ := info_parts info3
  obtain ⟨q, c, rfl, k⟩ := h8
  cases q with
  | none =>
    have e : ys = [] := by
      cases ys with
      | nil => rfl
      | cons y ys => obtain ⟨g, e, -⟩ := k 0 (by simp); cases e
    subst e
    by_cases hc : c = 0
    · subst hc
      exact ⟨v, w, run_append_owned_none w B 22 ty 3 i0 1 Tryd.underlying22 hi v th.length (zv th) h, by rw [List.append_nil]; exact h, ⟨rfl, rfl, rfl, Nat.le_refl _, fun _ _ _ => rfl⟩, .inl rfl⟩
    · have e : (Builtin.append_ #[22, 22] ty #[v, .slice none 0 c]).run Tryd.prog w = .ok v w := by
        rcases h.2 with ⟨rfl, h0⟩ | ⟨g, cap, cur, rfl, _, _, hnc, _⟩
        · simp [Builtin.append_, run_underlying Tryd.underlying22, sizeOf, typeInfo, hi, Builtin.lenOf, Builtin.firstCells]
        · simp [Builtin.append_, run_underlying Tryd.underlying22, sizeOf, typeInfo, hi, Builtin.lenOf, Builtin.firstCells, hnc, storeCells]
      exact ⟨v, w, e, by rw [List.append_nil]; exact h, ⟨rfl, rfl, rfl, Nat.le_refl _, fun _ _ _ => rfl⟩, .inl rfl⟩
  | some a =>
    have news : ∀ j u, (zv ys)[j]? = some u → w.cell? (a.add j) = some u := fun j u hj => by
      have hj2 := (List.getElem?_eq_some_iff.1 hj).1
      simp [zv] at hj2
      obtain ⟨g, e, hc⟩ := k j hj2
      simp only [Option.some.injEq] at e
      subst e
      rw [hc]
      rw [List.getElem?_eq_getElem (by simpa [zv] using hj2)] at hj
      simp [zv] at hj
      rw [hj]
    obtain ⟨v', w', hr, o, g, -, loc⟩ := run_append_own_at w B 22 ty 3 i0 _ 1 8 Tryd.underlying22 hi hz0 hz1 hz2 rfl (by decide) v th.length (zv th) h a ys.length c (zv ys) (by simp [zv]) news (zv_one ys) (by unfold maxLen; omega) (by omega) hB
    exact ⟨v', w', hr, by unfold OwnZ; rw [zv_app, List.length_append]; exact o, g, loc⟩
theorem wpList_append_rd {ops : Array Oper} {rest : List Oper} {o : Oper} {a : Act} {Q : Exit → Act → World → Prop} {B : Nat} {w : World} {v v8 : Value} {th ys : List Int} (hgd : o.guard = none) (s y : Operand)
    (ho : o.op = .call { callee := .builtin .append, args := #[s, y], argTypes := #[22, 22] }) (hs : a.eval s = v) (hy : a.eval y = v8) (h : OwnZ B w v th) (h8 : Rdz w v8 ys) (hB : B ≤ w.heap.size) (hl : th.length + ys.length ≤ 100000)
    (hK : ∀ v' w', OwnZ B w' v' (th ++ ys) → w.grownBy w' v.ownBlock → (v'.ownBlock = v.ownBlock ∨ v'.ownBlock = some w.heap.size) → wpList Tryd.prog ops Q rest (a.put o.dst v') w') : wpList Tryd.prog ops Q (o :: rest) a w := by
  refine wpList_plain hgd fun K hK' => ?_
  obtain ⟨v', w', hrun, r1, r2, r3⟩ := run_append_rd (w := w) o.type h h8 hB hl
  unfold Oper.wp
  simp [execOp, ho, resolve, invoke, builtin, hs, hy, hrun, Result.andThen]
  exact hK' _ _ (hK v' w' r1 r2 r3)
theorem own_empty (B g : Nat) (w : World) (hB : B ≤ g) (h : Has w g 3 #[]) : OwnZ B w (.slice (some ⟨g, 0, none⟩) 0 0) [] :=
  ⟨rfl, .inr ⟨g, 0, #[], rfl, hB, h, Nat.le_refl _, Nat.zero_le _, by simp, by simp [zv]⟩⟩
set_option maxRecDepth 100000 in
set_option maxHeartbeats 2000000 in
theorem clone_any (u : Value) (zs : List Int) (w : World) (hR : Rdz w u zs) (hl : zs.length ≤ 1000) :
    Calls Tryd.prog 31 #[u] w fun e w' => ∃ q c, e = .returned (.slice q zs.length c) ∧ OwnZ w.heap.size w' (.slice q zs.length c) zs ∧ Below w.heap.size w w' := by
  have q22 : ∀ (w : World) (a : Option Addr) (n c n' c' : Nat), (binOp .eql 22 (.slice a n c) (.slice none n' c')).run Tryd.prog w = .ok (.bool a.isNone) w := fun w a n c n' c' => Lib.run_eql_slice_nil w _ _ a n c n' c' Tryd.underlying22
  obtain ⟨p, cap, rfl, k⟩ := hR
  cases p with
  | none =>
    have e : zs = [] := by
      cases zs with
      | nil => rfl
      | cons y ys => obtain ⟨g, e, -⟩ := k 0 (by simp); cases e
    subst e
    clear k
    go_enter Tryd.func31, Tryd.ntmps31
    go_wp2
    go_ret
    exact ⟨none, 0, rfl, World.ownsRow_nil _ _ _ _, Below.refl _ _⟩
  | some a =>
    have hR : Rdz w (.slice (some a) zs.length cap) zs := ⟨_, _, rfl, k⟩
    have b0 := al1 w (.cells #[] 3)
    have hR0 := hR.on b0
    have hE := own_empty w.heap.size w.heap.size _ (Nat.le_refl _) (Has.new_ w 3 #[])
    clear k hR
    go_enter Tryd.func31, Tryd.ntmps31
    go_wp2_with (at_builtin; refine wpList_append_rd rfl _ _ rfl rfl rfl hE hR0 b0.size (by simp; omega) ?_)
    intro v' w1 o1 g1 _
    have B1 : Below w.heap.size w w1 := b0.grown g1 b0.size (fun j hj => by simp [Value.ownBlock] at hj; omega)
    have o1 : OwnZ w.heap.size w1 v' zs := o1
    obtain ⟨q, c, e, -⟩ := o1.cell
    subst e
    go_wp2
    go_ret
    exact ⟨q, c, rfl, o1, B1⟩
theorem reverse_any (B : Nat) (v : Value) (zs : List Int) (w : World) (h : OwnZ B w v zs) (hl : zs.length ≤ 1000) :
    Calls Tryd.prog 37 #[v] w fun e w' => e = .returned (.tuple #[]) ∧ OwnZ B w' v zs.reverse ∧ Below B w w' := by
  have hl' : zs.reverse.length = zs.length := List.length_reverse
  by_cases h0 : zs = []
  · subst h0
    obtain ⟨q, c, rfl, -⟩ := h.cell
    refine (Tryd.slices_Reverse_int_empty q c w).mono ?_
    rintro e w' ⟨rfl, rfl⟩
    exact ⟨rfl, h, Below.refl _ _⟩
  · have h2 := h
    obtain ⟨hn, ⟨-, e⟩ | ⟨g, cap, cur, rfl, hBg, hg, hn1, -⟩⟩ := h2
    · exact absurd (List.length_eq_zero_iff.1 e) h0
    · refine (Tryd.slices_Reverse_int g 0 cap zs w h.holds (by omega)).mono ?_
      rintro e w' ⟨rfl, n, rfl⟩
      exact ⟨rfl, h.lay (us := zs.reverse) ⟨#[], by rw [Array.append_empty]; rfl⟩ ⟨rfl, rfl, rfl⟩ (by rw [← hl', List.take_length]) hl'.symm hn1 (by omega)⟩
end Go.Proofs.YtepcokgpepcccaaDoor
