/- slices.Insert of one step. -/
import Derived.Test.YtbohcedclnbcdaaL1
import Derived.Lib.AppendZerosOnto
import Derived.Lib.Overlaps
import Derived.Laws.CopyRow
import Derived.Laws.NewBlocks
import Derived.Laws.Externs
import Derived.Deep.RegionLaw
namespace Go.Proofs.Ytbohcedclnbcdaa
open Go.ChangeShapes Go.WideShapes Go.ChangeAt Go.RowKit
set_option linter.unusedVariables false
set_option linter.unusedSimpArgs false

theorem below_setr {B g : Nat} {w0 w : World} (hb : Below B w0 w) (hBg : B ≤ g) (cs : Array Value) : Below B w0 (w.setRow g cs) :=
  hb.trans ⟨rfl, rfl, rfl, by simp [World.setRow], fun k hk => setRow_other w g k cs (by omega)⟩
/-- Copy at steps, the target in a row that is known whole. -/
theorem run_copy2 (w : World) (ty : TypeId) (g o dLen dCap : Nat) (a : Addr) (sLen sCap : Nat) (cur : Array Value) (t : TypeId) (cs : List Value) (m : Nat)
    (hg : w.heap[g]? = some (.cells cur t (0, 0))) (hm : m = Nat.min sLen dLen) (hn : cs.length = m * 2)
    (hsrc : ∀ j v, cs[j]? = some v → w.cell? (a.add j) = some v) (hfit : o + cs.length ≤ cur.size) (h1 : ∀ v ∈ cs, v.oneCell' = true) :
    (Builtin.copy_ #[22, 22] ty #[.slice (some ⟨g, o, none⟩) dLen dCap, .slice (some a) sLen sCap]).run Try.prog w =
      .ok (goInt m) (w.setRow g (cur.toList.take o ++ cs ++ cur.toList.drop (o + cs.length)).toArray) := by
  have hl := run_loadCells_list (P := Try.prog) w a cs hsrc
  have hst := run_storeCells_at Try.prog g o t cs 0 cur w hg (by simpa using hfit) h1
  obtain ⟨i, hi, hz0, hz1, hz2⟩ := info_parts info34
  rw [hn] at hl
  simp [Builtin.copy_, run_underlying Try.underlying22, Builtin.lenOf, Builtin.firstCells, sizeOf, typeInfo, hi, hz1, ← hm, hl, hst]
theorem wpList_copy2 {w : World} {ops : Array Oper} {rest : List Oper} {o : Oper} {a : Act} {Q : Exit → Act → World → Prop} (hgd : o.guard = none) (d s : Operand)
    (ho : o.op = .call { callee := .builtin .copy, args := #[d, s], argTypes := #[22, 22] }) (v u : Value) (hd : a.eval d = v) (hs : a.eval s = u) {v' : Value} {w' : World}
    (hr : (Builtin.copy_ #[22, 22] o.type #[v, u]).run Try.prog w = .ok v' w') (h : wpList Try.prog ops Q rest (a.put o.dst v') w') : wpList Try.prog ops Q (o :: rest) a w := by
  refine wpList_plain hgd fun K hK => ?_
  unfold Oper.wp execOp
  simp only [ho, resolve, invoke, builtin, Sem.run_bind, Sem.run_pure, Result.andThen_ok, List.map_toArray, List.map_cons, List.map_nil, hd, hs, hr]
  exact hK _ _ h
theorem step_copy2 {ops : Array Oper} {o : Oper} {a : Act} {w : World} {K : Act → World → Prop} {Q : Exit → Act → World → Prop} {E : Prop} (hgd : o.guard = none) (d s : Operand)
    (ho : o.op = .call { callee := .builtin .copy, args := #[d, s], argTypes := #[22, 22] }) (v u : Value) (hd : a.eval d = v) (hs : a.eval s = u) {v' : Value} {w' : World}
    (hr : (Builtin.copy_ #[22, 22] o.type #[v, u]).run Try.prog w = .ok v' w') (hK : K (a.put o.dst v') w') :
    if Region.wanted o (yielded ops a.tmps) = true then Oper.wp Try.prog o a w K Q else E := by
  have hw : Region.wanted o (yielded ops a.tmps) = true := by simp [Region.wanted, hgd]
  rw [if_pos hw]
  unfold Oper.wp
  simp [execOp, ho, resolve, invoke, builtin, hd, hs, hr, Result.andThen]
  exact hK
set_option maxHeartbeats 2000000 in
set_option maxRecDepth 100000 in
theorem insert_end (B : Nat) (v : Value) (l : List Stp) (vb : Nat) (x y : Int) (w : World) (ho : OwnS B w v l) (hl : l.length ≤ 1000) (hv : Has w vb 34 #[.int .i64 x, .int .i64 y]) (hB : B ≤ w.heap.size) :
    Calls Try.prog 35 #[v, .int .i64 l.length, .slice (some ⟨vb, 0, none⟩) 1 1] w fun e w' => ∃ v', e = .returned v' ∧ OwnS B w' v' (l ++ [(x, y)]) ∧ Below B w w' := by
  obtain ⟨i0, hi, hz0, hz1, hz2⟩ := info_parts info34
  have hbk := World.ownsRow.lt ho
  have hcl : ∀ (j : Nat) (u : Value), [Value.int .i64 x, Value.int .i64 y][j]? = some u → w.cell? ((⟨vb, 0, none⟩ : Addr).add j) = some u := fun j u h => by
    rw [Addr.add_lit, Nat.zero_add, hv.read j]
    simpa using h
  obtain ⟨p, c, rfl⟩ := ho.form
  have hcap : l.length ≤ c ∧ (p = none → l.length = 0 ∧ c = 0) := by
    obtain ⟨-, ⟨e, h0⟩ | ⟨g, cap, cur, e, -, -, r1, r2, -, -⟩⟩ := ho
    · simp only [Value.slice.injEq] at e; exact ⟨by omega, fun _ => ⟨h0, e.2.2⟩⟩
    · simp only [Value.slice.injEq] at e; exact ⟨by omega, fun h => by rw [h] at e; cases e.1⟩
  go_enter Try.func35, Try.ntmps35
  go_wp2_with (at_builtin; refine wpList_append_own_at _ rfl _ _ 22 rfl B 34 i0 _ 2 16 Try.underlying22 hi hz0 hz1 hz2 rfl (by decide) _ _ _ rfl ho ⟨vb, 0, none⟩ 1 1 [.int .i64 x, .int .i64 y] rfl rfl hcl (by simp [Value.oneCell']) (by unfold maxLen; omega) (by omega) hB ?_; intro v' w5 hown' hgrow _ _)
  all_goals (
    go_ret
    exact ⟨_, rfl, by unfold OwnS; rw [List.length_append, cells_app]; exact hown', (Below.refl B w).grown hgrow hB (fun k e => (hbk _ e).1)⟩)
theorem cells_take (l : List Stp) (i : Nat) : (cells l).take (i * 2) = cells (l.take i) := by
  induction l generalizing i with
  | nil => simp [cells]
  | cons s l ih =>
    cases i with
    | zero => simp [cells]
    | succ i => rw [show (i + 1) * 2 = i * 2 + 1 + 1 by omega]; simpa [cells] using ih i
theorem cells_drop (l : List Stp) (i : Nat) : (cells l).drop (i * 2) = cells (l.drop i) := by
  induction l generalizing i with
  | nil => simp [cells]
  | cons s l ih =>
    cases i with
    | zero => simp [cells]
    | succ i => rw [show (i + 1) * 2 = i * 2 + 1 + 1 by omega]; simpa [cells] using ih i
theorem cells_one (l : List Stp) : ∀ v ∈ cells l, v.oneCell' = true := by
  intro v hv
  simp only [cells, List.mem_flatMap] at hv
  obtain ⟨s, -, hs⟩ := hv
  simp at hs
  rcases hs with rfl | rfl <;> rfl
theorem ins_len (l : List Stp) (i : Nat) (z : Stp) (hi : i ≤ l.length) : (l.take i ++ z :: l.drop i).length = l.length + 1 := by
  simp; omega
/-- What stands at last where a row is moved by one and a step laid into the gap. -/
theorem ins_row (l : List Stp) (i : Nat) (x y : Int) (cur : List Value) (hi : i ≤ l.length) (ht : cur.take (i * 2) = cells (l.take i)) (hs : (l.length + 1) * 2 ≤ cur.length) :
    ((((cur.take ((i + 1) * 2) ++ cells (l.drop i) ++ cur.drop ((i + 1) * 2 + (cells (l.drop i)).length)).take (i * 2) ++ cells [(x, y)] ++ (cur.take ((i + 1) * 2) ++ cells (l.drop i) ++ cur.drop ((i + 1) * 2 + (cells (l.drop i)).length)).drop (i * 2 + 2))).take ((l.length + 1) * 2)) = cells (l.take i ++ (x, y) :: l.drop i) := by
  have hcl : (cells (l.drop i)).length = (l.length - i) * 2 := by rw [cells_len]; simp
  have e1 : (cur.take ((i + 1) * 2) ++ cells (l.drop i) ++ cur.drop ((i + 1) * 2 + (cells (l.drop i)).length)).take (i * 2) = cells (l.take i) := by
    rw [List.append_assoc, List.take_append_of_le_length (by simp; omega), List.take_take, Nat.min_eq_left (by omega), ht]
  have e2 : (cur.take ((i + 1) * 2) ++ cells (l.drop i) ++ cur.drop ((i + 1) * 2 + (cells (l.drop i)).length)).drop (i * 2 + 2) = cells (l.drop i) ++ cur.drop ((i + 1) * 2 + (cells (l.drop i)).length) := by
    rw [List.append_assoc, List.drop_append, List.drop_eq_nil_of_le (by simp; omega), List.nil_append, List.length_take, Nat.min_eq_left (by omega), show i * 2 + 2 - (i + 1) * 2 = 0 by omega, List.drop_zero]
  have e3 : cells (l.take i ++ (x, y) :: l.drop i) = cells (l.take i) ++ cells [(x, y)] ++ cells (l.drop i) := by
    rw [show l.take i ++ (x, y) :: l.drop i = l.take i ++ [(x, y)] ++ l.drop i by simp, cells_app, cells_app]
  have hl3 : (cells (l.take i) ++ cells [(x, y)] ++ cells (l.drop i)).length = (l.length + 1) * 2 := by rw [← e3, cells_len, ins_len l i _ hi]
  rw [e1, e2, e3, ← List.append_assoc, List.take_append_of_le_length (by omega), List.take_of_length_le (by omega)]
set_option maxHeartbeats 4000000 in
set_option maxRecDepth 100000 in
theorem insert_room (B g cap : Nat) (l : List Stp) (i vb : Nat) (x y : Int) (w : World) (ho : OwnS B w (.slice (some ⟨g, 0, none⟩) l.length cap) l) (hl : l.length ≤ 1000) (hv : Has w vb 34 #[.int .i64 x, .int .i64 y]) (hne : vb ≠ g) (hi : i < l.length) (hroom : l.length + 1 ≤ cap) :
    Calls Try.prog 35 #[.slice (some ⟨g, 0, none⟩) l.length cap, .int .i64 i, .slice (some ⟨vb, 0, none⟩) 1 1] w fun e w' => ∃ v', e = .returned v' ∧ OwnS B w' v' (l.take i ++ (x, y) :: l.drop i) ∧ Below B w w' := by
  obtain ⟨hcl, h0 | ⟨g', cap', cur, e, hBg, hg, hn, hcm, hsz, ht⟩⟩ := ho
  · cases h0.1
  simp only [Value.slice.injEq, Option.some.injEq, Addr.mk.injEq] at e
  obtain ⟨⟨rfl, -, -⟩, -, rfl⟩ := e
  have hc63 : cap ≤ 9223372036854775807 := by unfold maxLen at hcm; omega
  have hw1 : IntKind.i64.wrap ((i : Int) + 1) = (i : Int) + 1 := IntWalk.i64_in _ (by omega)
  have hw2 : IntKind.i64.wrap ((l.length : Int) + 1) = (l.length : Int) + 1 := IntWalk.i64_in _ (by omega)
  have hov : ∀ lb cb, (callFunc 53 #[.slice (some ⟨vb, 0, none⟩) 1 1, .slice (some ⟨g, (i + 1) * 2, none⟩) lb cb]).run Try.prog w = .ok (.value (.bool false)) w := fun lb cb => by
    rw [run_callFunc_extern Try.func53 (by kernel_rfl) (by kernel_rfl) (by kernel_rfl) (e := Extern.SlicesOverlaps.overlaps #[22, 22] #[4]) (by kernel_rfl),
      Lib.run_overlaps_apart w 22 4 34 Try.underlying22 2 (fun w => by kernel_rfl) ⟨vb, 0, none⟩ ⟨g, (i + 1) * 2, none⟩ 1 1 lb cb hne 34 34 2 (cap * 2) (by unfold Has at hv; simp [World.shape?, hv]) (by simp [World.shape?, hg, hsz]) (by omega) (hv.open_ 0) (hv.open_ 2)]
    rfl
  have e1 : ¬ ((i : Int) = (l.length : Int)) := by omega
  have e2 : ¬ ((cap : Int) < (l.length : Int) + 1) := by omega
  have hb1 : (0 : Int) ≤ (i : Int) + 1 := by omega
  have hin : i ≤ l.length := by omega
  have htn : ((i : Int) + 1).toNat = i + 1 := by omega
  have hb2 : ¬ (cap = i + 1) := by omega
  have hb3 : (i : Int) ≤ (l.length : Int) + 1 := by omega
  have hb4 : ¬ (cap = i) := by omega
  have hdl : (cells (l.drop i)).length = (l.length - i) * 2 := by rw [cells_len]; simp
  have hct : cur.toList.take (i * 2) = cells (l.take i) := by
    rw [← cells_take, ← ht, List.take_take, Nat.min_eq_left (by omega)]
  obtain ⟨cu1, hcu1⟩ : ∃ c, c = (cur.toList.take ((i + 1) * 2) ++ cells (l.drop i) ++ cur.toList.drop ((i + 1) * 2 + (cells (l.drop i)).length)).toArray := ⟨_, rfl⟩
  have hs1 : cu1.size = cap * 2 := by rw [hcu1]; simp [hdl]; omega
  have hsrc : ∀ j v, (cells (l.drop i))[j]? = some v → w.drew.cell? ((⟨g, i * 2, none⟩ : Addr).add j) = some v := fun j v h => by
    rw [Addr.add_lit]
    show w.cell? _ = _
    rw [cell_of_row w g _ cur 34 (0, 0) hg]
    rw [← cells_drop, List.getElem?_drop, ← ht, List.getElem?_take] at h
    split at h
    · simpa using h
    · cases h
  have hcp1 : ∀ ty dc sc, (Builtin.copy_ #[22, 22] ty #[.slice (some ⟨g, (i + 1) * 2, none⟩) (l.length - i) dc, .slice (some ⟨g, i * 2, none⟩) (l.length + 1 - i) sc]).run Try.prog w.drew =
      .ok (goInt ((l.length - i : Nat) : Int)) (w.drew.setRow g cu1) := fun ty dc sc => by
    rw [hcu1]
    exact run_copy2 w.drew ty g ((i + 1) * 2) (l.length - i) dc ⟨g, i * 2, none⟩ (l.length + 1 - i) sc cur 34 (cells (l.drop i)) (l.length - i) hg (by simp only [Nat.min_def]; split <;> omega) hdl hsrc (by rw [hdl]; omega) (cells_one _)
  obtain ⟨cu2, hcu2⟩ : ∃ c, c = (cu1.toList.take (i * 2) ++ cells [(x, y)] ++ cu1.toList.drop (i * 2 + 2)).toArray := ⟨_, rfl⟩
  have hs2 : cu2.size = cap * 2 := by rw [hcu2]; simp [cells, hs1]; omega
  have hcp2 : ∀ (W : World), W.heap[g]? = some (.cells cu1 34 (0, 0)) → Has W vb 34 #[.int .i64 x, .int .i64 y] → ∀ ty dc, (Builtin.copy_ #[22, 22] ty #[.slice (some ⟨g, i * 2, none⟩) (l.length + 1 - i) dc, .slice (some ⟨vb, 0, none⟩) 1 1]).run Try.prog W =
      .ok (goInt 1) (W.setRow g cu2) := fun W hW hV ty dc => by
    rw [hcu2]
    exact run_copy2 W ty g (i * 2) (l.length + 1 - i) dc ⟨vb, 0, none⟩ 1 1 cu1 34 (cells [(x, y)]) 1 hW (by simp only [Nat.min_def]; split <;> omega) rfl (fun j v h => by
      rw [Addr.add_lit, Nat.zero_add, hV.read j]; simpa [cells] using h) (by simp [cells]; omega) (cells_one _)
  have hh1 : (w.drew.setRow g cu1).heap[g]? = some (.cells cu1 34 (0, 0)) := setRow_heap w.drew g cur cu1 34 (0, 0) hg
  have hv1 : Has (w.drew.setRow g cu1) vb 34 #[.int .i64 x, .int .i64 y] := by unfold Has; rw [setRow_other _ _ _ _ hne]; exact hv
  obtain ⟨W1, hW1⟩ : ∃ W1, W1 = w.drew.setRow g cu1 := ⟨_, rfl⟩
  rw [← hW1] at hcp1 hh1 hv1
  have hB1 : Below B w W1 := by rw [hW1]; exact below_setr (Below.refl B w).drew hBg cu1
  have hrow : cu2.toList.take ((l.length + 1) * 2) = cells (l.take i ++ (x, y) :: l.drop i) := by
    rw [hcu2, hcu1]
    have := ins_row l i x y cur.toList hin hct (by simp; omega)
    simpa using this
  clear hcu1 hcu2 hW1
  go_enter Try.func35, Try.ntmps35
  go_wp2_with (simp only [hov])
  go_region_law (refine step_copy2 rfl _ _ rfl _ _ (by simp [Act.eval, Act.put]) (by simp [Act.eval, Act.put]) (hcp1 _ _ _) ?_)
  go_wp2_with (at_builtin; refine wpList_copy2 rfl _ _ rfl _ _ rfl rfl (hcp2 _ hh1 hv1 _ _) ?_)
  go_ret
  refine ⟨_, rfl, ?_, below_setr hB1 hBg cu2⟩
  unfold OwnS
  rw [ins_len l i _ hin]
  refine ⟨by rw [cells_len, ins_len l i _ hin], .inr ⟨g, cap, cu2, rfl, hBg, setRow_heap W1 g cu1 cu2 34 (0, 0) hh1, hroom, hcm, hs2, hrow⟩⟩
/-- What stands at last in a new row. -/
theorem grow_row (l : List Stp) (i : Nat) (x y : Int) (z : List Value) (hi : i ≤ l.length) (hz : (l.length + 1 - i) * 2 ≤ z.length) :
    ((((cells (l.take i) ++ z).take (i * 2) ++ cells [(x, y)] ++ (cells (l.take i) ++ z).drop (i * 2 + 2)).take ((i + 1) * 2) ++ cells (l.drop i) ++ ((cells (l.take i) ++ z).take (i * 2) ++ cells [(x, y)] ++ (cells (l.take i) ++ z).drop (i * 2 + 2)).drop ((i + 1) * 2 + (cells (l.drop i)).length)).take ((l.length + 1) * 2)) = cells (l.take i ++ (x, y) :: l.drop i) := by
  have hct : (cells (l.take i)).length = i * 2 := by rw [cells_len]; simp; omega
  have e3 : cells (l.take i ++ (x, y) :: l.drop i) = cells (l.take i) ++ cells [(x, y)] ++ cells (l.drop i) := by
    rw [show l.take i ++ (x, y) :: l.drop i = l.take i ++ [(x, y)] ++ l.drop i by simp, cells_app, cells_app]
  have hl3 : (cells (l.take i) ++ cells [(x, y)] ++ cells (l.drop i)).length = (l.length + 1) * 2 := by rw [← e3, cells_len, ins_len l i _ hi]
  have e1 : (cells (l.take i) ++ z).take (i * 2) = cells (l.take i) := by rw [List.take_append_of_le_length (by omega), List.take_of_length_le (by omega)]
  have e2 : (cells (l.take i) ++ cells [(x, y)] ++ (cells (l.take i) ++ z).drop (i * 2 + 2)).take ((i + 1) * 2) = cells (l.take i) ++ cells [(x, y)] := by
    have : (cells (l.take i) ++ cells [(x, y)]).length = (i + 1) * 2 := by rw [List.length_append, hct]; simp [cells]; omega
    rw [List.take_append_of_le_length (by omega), List.take_of_length_le (by omega)]
  rw [e1, e2, e3, List.take_append_of_le_length (by omega), List.take_of_length_le (by omega)]
set_option maxHeartbeats 4000000 in
set_option maxRecDepth 100000 in
theorem insert_grow (B g : Nat) (l : List Stp) (i vb : Nat) (x y : Int) (w : World) (ho : OwnS B w (.slice (some ⟨g, 0, none⟩) l.length l.length) l) (hl : l.length ≤ 1000) (hv : Has w vb 34 #[.int .i64 x, .int .i64 y]) (hne : vb ≠ g) (hi : i < l.length) :
    Calls Try.prog 35 #[.slice (some ⟨g, 0, none⟩) l.length l.length, .int .i64 i, .slice (some ⟨vb, 0, none⟩) 1 1] w fun e w' => ∃ v', e = .returned v' ∧ OwnS B w' v' (l.take i ++ (x, y) :: l.drop i) ∧ Below B w w' := by
  obtain ⟨hcl, h0 | ⟨g', cap', cur, e, hBg, hg, hn, hcm, hsz, ht⟩⟩ := ho
  · cases h0.1
  simp only [Value.slice.injEq, Option.some.injEq, Addr.mk.injEq] at e
  obtain ⟨⟨rfl, -, -⟩, -, rfl⟩ := e
  obtain ⟨i0, hi0, hz0, hz1, hz2⟩ := info_parts info34
  have hgw : g < w.heap.size := (Array.getElem?_eq_some_iff.1 hg).1
  have hvw : vb < w.heap.size := hv.size_
  have hw2 : IntKind.i64.wrap ((l.length : Int) + 1) = (l.length : Int) + 1 := IntWalk.i64_in _ (by omega)
  have hw3 : IntKind.i64.wrap ((l.length : Int) + 1 - (i : Int)) = (l.length : Int) + 1 - (i : Int) := IntWalk.i64_in _ (by omega)
  have hw1 : IntKind.i64.wrap ((i : Int) + 1) = (i : Int) + 1 := IntWalk.i64_in _ (by omega)
  have e1 : ¬ ((i : Int) = (l.length : Int)) := by omega
  have e2 : (l.length : Int) < (l.length : Int) + 1 := by omega
  have hb1 : (0 : Int) ≤ (i : Int) + 1 := by omega
  have hin : i ≤ l.length := by omega
  have htn : ((i : Int) + 1).toNat = i + 1 := by omega
  have hkk : (l.length : Int) + 1 - (i : Int) = ((l.length + 1 - i : Nat) : Int) := by omega
  have hik : i + (l.length + 1 - i) = l.length + 1 := by omega
  have hdl : (cells (l.drop i)).length = (l.length - i) * 2 := by rw [cells_len]; simp
  have htl : (cells (l.take i)).length = i * 2 := by rw [cells_len]; simp; omega
  have hcc : ∀ j v, (cells l)[j]? = some v → w.cell? ⟨g, j, none⟩ = some v := fun j v h => by
    rw [cell_of_row w g _ cur 34 (0, 0) hg]
    rw [← ht, List.getElem?_take] at h
    split at h
    · simpa using h
    · cases h
  have hold : (Builtin.firstCells i0.size i (.slice (some ⟨g, 0, none⟩) i l.length)).run Try.prog w.drew = .ok (cells (l.take i)).toArray w.drew := by
    rw [hz1]
    exact run_firstCells_some w.drew 2 i ⟨g, 0, none⟩ i l.length (cells (l.take i)) htl (fun j v hj => by
      rw [Addr.add_lit, Nat.zero_add]
      rw [← cells_take, List.getElem?_take] at hj
      split at hj
      · exact hcc j v hj
      · cases hj)
  obtain ⟨Z, hZ⟩ : ∃ Z, Z = Builtin.zeroCells (Value.cells (.agg #[.int .i64 0, .int .i64 0])) (l.length + 1 - i) ++ Builtin.zeroCells (Value.cells (.agg #[.int .i64 0, .int .i64 0])) (grownCap w (l.length + 1) l.length 34 - (l.length + 1)) := ⟨_, rfl⟩
  obtain ⟨G, hG⟩ : ∃ G, G = grownCap w (l.length + 1) l.length 34 := ⟨_, rfl⟩
  have hGn : l.length + 1 ≤ G := by rw [hG]; exact grownCap_ge w _ _ _
  have hGm : G ≤ maxLen := by rw [hG]; exact grownCap_le_maxLen w (l.length + 1) l.length 34 (by unfold maxLen; omega)
  have hG63 : G ≤ 9223372036854775807 := by unfold maxLen at hGm; omega
  have hZs : Z.size = (G - i) * 2 := by
    rw [hZ, ← hG]; simp [size_zeroCells, Value.cells]; omega
  have hrz : ∀ ty, (Builtin.append_ #[22, 3] ty #[.slice (some ⟨g, 0, none⟩) i l.length, .int .i64 ((l.length : Int) + 1 - (i : Int))]).run Try.prog w =
      .ok (.slice (some ⟨w.heap.size, 0, none⟩) (l.length + 1) G) (w.drew.alloc (.cells (cells (l.take i) ++ Z.toList).toArray 34)) := fun ty => by
    have h := Lib.run_append_grow_zeros w 22 3 ty 34 i0 _ .i64 .i64 Try.underlying22 Try.underlying3 hi0 hz0 (some ⟨g, 0, none⟩) i l.length (cells (l.take i)) hold (l.length + 1 - i) (by omega) (by omega) (by omega) (by omega) (by rw [hz2]; omega) (by rw [hz2, hik]; exact growslice_fits (by omega) (by omega))
    rw [hik] at h
    have hl : ∀ (A B C : Array Value) (L : List Value), A = L.toArray → A ++ B ++ C = (L ++ (B ++ C).toList).toArray := fun A B C L h => by
      subst h; apply Array.ext'; simp
    rw [hkk, h, hG, hZ, hl _ _ _ (cells (l.take i)) rfl]
  obtain ⟨W1, hW1⟩ : ∃ W1, W1 = w.drew.alloc (.cells (cells (l.take i) ++ Z.toList).toArray 34) := ⟨_, rfl⟩
  have hN1 : W1.heap[w.heap.size]? = some (.cells (cells (l.take i) ++ Z.toList).toArray 34 (0, 0)) := by rw [hW1]; exact heap_alloc_new w.drew _
  have hO1 : ∀ k, k < w.heap.size → W1.heap[k]? = w.heap[k]? := fun k hk => by rw [hW1]; exact Below.heap_alloc w.drew _ k hk
  obtain ⟨cu1, hcu1⟩ : ∃ c, c = ((cells (l.take i) ++ Z.toList).take (i * 2) ++ cells [(x, y)] ++ (cells (l.take i) ++ Z.toList).drop (i * 2 + 2)).toArray := ⟨_, rfl⟩
  have hs1 : cu1.size = G * 2 := by rw [hcu1]; simp [cells, hZs] at *; omega
  have hv1 : Has W1 vb 34 #[.int .i64 x, .int .i64 y] := by unfold Has; rw [hO1 _ hvw]; exact hv
  have hcp1 : ∀ ty dc, (Builtin.copy_ #[22, 22] ty #[.slice (some ⟨w.heap.size, i * 2, none⟩) (l.length + 1 - i) dc, .slice (some ⟨vb, 0, none⟩) 1 1]).run Try.prog W1 =
      .ok (goInt 1) (W1.setRow w.heap.size cu1) := fun ty dc => by
    rw [hcu1]
    exact run_copy2 W1 ty w.heap.size (i * 2) (l.length + 1 - i) dc ⟨vb, 0, none⟩ 1 1 (cells (l.take i) ++ Z.toList).toArray 34 (cells [(x, y)]) 1 hN1 (by simp only [Nat.min_def]; split <;> omega) rfl (fun j v h => by
      rw [Addr.add_lit, Nat.zero_add, hv1.read j]; simpa [cells] using h) (by simp [cells, htl, hZs] at *; omega) (cells_one _)
  obtain ⟨W2, hW2⟩ : ∃ W2, W2 = W1.setRow w.heap.size cu1 := ⟨_, rfl⟩
  have hN2 : W2.heap[w.heap.size]? = some (.cells cu1 34 (0, 0)) := by rw [hW2]; exact setRow_heap W1 _ _ cu1 34 (0, 0) hN1
  have hO2 : ∀ k, k < w.heap.size → W2.heap[k]? = w.heap[k]? := fun k hk => by rw [hW2, setRow_other _ _ _ _ (by omega)]; exact hO1 k hk
  obtain ⟨cu2, hcu2⟩ : ∃ c, c = (cu1.toList.take ((i + 1) * 2) ++ cells (l.drop i) ++ cu1.toList.drop ((i + 1) * 2 + (cells (l.drop i)).length)).toArray := ⟨_, rfl⟩
  have hs2 : cu2.size = G * 2 := by rw [hcu2]; simp [hdl, hs1]; omega
  have hcp2 : ∀ ty dc sc, (Builtin.copy_ #[22, 22] ty #[.slice (some ⟨w.heap.size, (i + 1) * 2, none⟩) (l.length - i) dc, .slice (some ⟨g, i * 2, none⟩) (l.length - i) sc]).run Try.prog W2.drew =
      .ok (goInt ((l.length - i : Nat) : Int)) (W2.drew.setRow w.heap.size cu2) := fun ty dc sc => by
    rw [hcu2]
    exact run_copy2 W2.drew ty w.heap.size ((i + 1) * 2) (l.length - i) dc ⟨g, i * 2, none⟩ (l.length - i) sc cu1 34 (cells (l.drop i)) (l.length - i) hN2 (by simp) hdl (fun j v h => by
      rw [Addr.add_lit]
      show W2.cell? _ = _
      rw [World.cell?_of_block (hO2 g hgw)]
      rw [← cells_drop, List.getElem?_drop] at h
      exact hcc _ v h) (by rw [hdl]; omega) (cells_one _)
  have hrow : cu2.toList.take ((l.length + 1) * 2) = cells (l.take i ++ (x, y) :: l.drop i) := by
    rw [hcu2, hcu1]
    have := grow_row l i x y Z.toList hin (by simp [hZs]; omega)
    simpa using this
  have hB2 : W2.os = w.os ∧ W2.tape = w.tape ∧ W2.output = w.output ∧ W2.heap.size = w.heap.size + 1 := by
    rw [hW2, hW1]; exact ⟨rfl, rfl, rfl, by rw [setRow_size]; simp⟩
  have hB3 : Below B w (W2.drew.setRow w.heap.size cu2) := ⟨hB2.1, hB2.2.1, hB2.2.2.1, by rw [setRow_size]; show w.heap.size ≤ W2.heap.size; omega, fun k hk => by rw [setRow_other _ _ _ _ (by omega)]; exact hO2 k (by omega)⟩
  have hN3 : (W2.drew.setRow w.heap.size cu2).heap[w.heap.size]? = some (.cells cu2 34 (0, 0)) := setRow_heap W2.drew _ cu1 cu2 34 (0, 0) hN2
  have hGi : ¬ (G = i) := by omega
  have hGim : ¬ (G = i + 1) := by omega
  have hci : ¬ (l.length = i) := by omega
  have hBw : B ≤ w.heap.size := by omega
  rw [← hW1] at hrz
  rw [← hW2] at hcp1
  clear hkk hik hold hcu1 hcu2 hW1 hW2 hZ hG hZs hi0 hz0 hz1 hz2 htl hdl
  go_enter Try.func35, Try.ntmps35
  go_wp2_with (first
    | (at_builtin; refine Lib.wpList_append_run _ rfl _ _ _ _ rfl _ _ rfl rfl _ _ (hrz _) ?_)
    | (at_builtin; refine wpList_copy2 rfl _ _ rfl _ _ rfl rfl (hcp1 _ _) ?_))
  go_region_law (refine step_copy2 rfl _ _ rfl _ _ (by simp [Act.eval, Act.put]) (by simp [Act.eval, Act.put]) (hcp2 _ _ _) ?_)
  go_wp2
  go_ret
  refine ⟨_, rfl, ?_, hB3⟩
  unfold OwnS
  rw [ins_len l i _ hin]
  exact ⟨by rw [cells_len, ins_len l i _ hin], .inr ⟨w.heap.size, G, cu2, rfl, hBw, hN3, hGn, hGm, hs2, hrow⟩⟩
end Go.Proofs.Ytbohcedclnbcdaa
