/- The list of a set's indices: the program's and the reference's; the sum of a set. -/
import Derived.Test.YtepcokgpepcccaaDoorTz
import Derived.OwnWalk
import Derived.Laws.OwnMore
namespace Go.Proofs.YtepcokgpepcccaaDoor
open Go.ChangeShapes Go.WideShapes Go.ChangeAt Go.RowKit
set_option linter.unusedVariables false
set_option linter.unusedSimpArgs false

theorem info3 : (Tryd.prog.info? 3).map (fun i => (i.zero, i.size, i.bytes)) = some (some (.int .i64 0), 1, 8) := by kernel_rfl
theorem own_on {B : Nat} {w w' : World} {v : Value} {n : Nat} {e : TypeId} {s : Nat} {xs : List Value} (h : w.ownsRow B e s v n xs) (hb : Below w.heap.size w w') : w'.ownsRow B e s v n xs := by
  have k := h.lt
  obtain ⟨hl, h0 | ⟨g, cap, cur, rfl, hB, hg, r⟩⟩ := h
  · exact ⟨hl, .inl h0⟩
  · have := k g rfl
    exact ⟨hl, .inr ⟨g, cap, cur, rfl, hB, by rw [hb.block g this.2]; exact hg, r⟩⟩
/-- Whole numbers as values; a list of them in memory of the call's own. -/
def zv (zs : List Int) : List Value := zs.map fun z => Value.int .i64 z
theorem zv_app (xs ys : List Int) : zv (xs ++ ys) = zv xs ++ zv ys := by simp [zv]
def OwnZ (B : Nat) (w : World) (v : Value) (zs : List Int) : Prop := w.ownsRow B 3 1 v zs.length (zv zs)
theorem OwnZ.cell {B : Nat} {w : World} {v : Value} {zs : List Int} (h : OwnZ B w v zs) : ∃ q c, v = .slice q zs.length c ∧ ∀ j (hj : j < zs.length), ∃ a, q = some a ∧ w.cell? (a.add j) = some (.int .i64 zs[j]) := by
  obtain ⟨hl, ⟨rfl, h0⟩ | ⟨g, cap, cur, rfl, hB, hg, -, -, hs, ht⟩⟩ := h
  · refine ⟨none, 0, by rw [h0], fun j hj => by omega⟩
  · refine ⟨_, cap, rfl, fun j hj => ⟨_, rfl, ?_⟩⟩
    have e : cur.toList[j]? = some (.int .i64 zs[j]) := by
      have : (cur.toList.take (zs.length * 1))[j]? = (zv zs)[j]? := by rw [ht]
      rw [List.getElem?_take_of_lt (by omega)] at this
      rw [this]; simp [zv, hj]
    rw [Addr.add_lit, Nat.zero_add, cell_of_row w g j cur _ _ hg]
    simpa using e
theorem OwnZ.rd {B : Nat} {w : World} {v : Value} {zs : List Int} (h : OwnZ B w v zs) : Rdz w v zs := h.cell

def toZ (xs : List Nat) : List Int := xs.map fun (x : Nat) => (x : Int)
theorem toZ_len (xs : List Nat) : (toZ xs).length = xs.length := by simp [toZ]
theorem toZ_app (xs ys : List Nat) : toZ (xs ++ ys) = toZ xs ++ toZ ys := by simp [toZ]
/-- The indices of a set below n. -/
def ixs (n s : Nat) : List Nat := (List.range n).filter fun i => s.testBit i
theorem ixs_next (n s : Nat) : ixs (n + 1) s = ixs n s ++ (if s.testBit n then [n] else []) := by
  unfold ixs
  rw [List.range_succ, List.filter_append]
  cases h : s.testBit n <;> simp [h]
/-- The set without its least index. -/
def drp (s : Nat) : Nat := s - low s
theorem drps : ∀ s : Nat, s < 1024 → bits BinOp.andNot IntKind.u64 (s : Int) (low s : Int) = (drp s : Int) ∧ (s ≠ 0 → ixs 10 s = tz s :: ixs 10 (drp s) ∧ drp s < s) := by
  have h : chk (fun s => decide (bits BinOp.andNot IntKind.u64 (s : Int) (low s : Int) = (drp s : Int) ∧ (s ≠ 0 → ixs 10 s = tz s :: ixs 10 (drp s) ∧ drp s < s))) 10 0 = true := by decide +kernel
  intro s hs
  exact of_decide_eq_true (chk_all _ 10 0 h s (Nat.zero_le _) (by omega))
theorem below_own {B : Nat} {a w1 w2 : World} {v : Value} {row : Option Nat} (h : Below B a w1) (hg : w1.grownBy w2 row) (hB : B ≤ w1.heap.size) (hr : ∀ j, row = some j → B ≤ j) : Below B a w2 := h.grown hg hB hr
set_option maxRecDepth 100000 in
set_option maxHeartbeats 2000000 in
theorem indices_any (s0 : Nat) (w : World) (hs0 : s0 < 1024) (hT : Tab w) :
    Calls Tryd.prog 57 #[.int .u64 s0] w fun e w' => ∃ v, e = .returned v ∧ OwnZ w.heap.size w' v (toZ (ixs 10 s0)) ∧ Below w.heap.size w w' := by
  obtain ⟨i0, hi, hz0, hz1, hz2⟩ := info_parts info3
  go_enter Tryd.func57, Tryd.ntmps57
  go_wp2
  go_loopw [0, 3] (fun v0 v3 wr => ∃ s : Nat, ∃ xs : List Nat, v0 = .int .u64 s ∧ s < 1024 ∧ Hid (xs ++ ixs 10 s = ixs 10 s0) ∧ Hid (OwnZ w.heap.size wr v3 (toZ xs)) ∧ Below w.heap.size w wr) (fun v0 _ _ => (intOf v0).toNat)
  case atStart => exact ⟨s0, [], rfl, hs0, Lib.hid rfl, Lib.hid (World.ownsRow_nil _ _ _ _), Below.refl _ _⟩
  case round =>
    obtain ⟨s, xs, rfl, hs, hX, hO, hB⟩ := hrel
    by_cases h0 : s = 0
    · subst h0
      go_wp2
      go_ret
      have e : xs = ixs 10 s0 := by
        have := hX.out
        rw [show ixs 10 0 = [] from by decide, List.append_nil] at this
        exact this
      rw [← e]
      exact ⟨_, rfl, hO.out, hB⟩
    · have g : ((s : Int) != 0) = true := by simp; omega
      obtain ⟨D1, D2⟩ := drps s hs
      obtain ⟨D2, D3⟩ := D2 h0
      have D2 := Lib.hid D2
      have hlo := low_any s hs
      have htz := fun w h => tz_any s hs h0 w h
      have hlen : xs.length ≤ 10 := by
        have := congrArg List.length hX.out
        rw [List.length_append] at this
        have k : (ixs 10 s0).length ≤ 10 := by unfold ixs; exact Nat.le_trans (List.length_filter_le _ _) (by simp)
        omega
      have hlen2 : (toZ xs).length ≤ 10 := by rw [toZ_len]; exact hlen
      obtain ⟨y, ey⟩ : ∃ y, low s = y := ⟨_, rfl⟩
      obtain ⟨d, ed⟩ : ∃ d, drp s = d := ⟨_, rfl⟩
      obtain ⟨t, et⟩ : ∃ t, tz s = t := ⟨_, rfl⟩
      rw [ey] at D1 hlo
      rw [ed] at D1 D2 D3
      rw [et] at D2 htz
      clear ey ed et
      go_wp2_with (first
        | (go_at_call 71; (with_reducible refine (htz _ (hT.on hB)).mono ?_); rintro e1 w1 ⟨rfl, rfl⟩)
        | (go_at_call 59; (with_reducible refine (hlo _).mono ?_); rintro e1 w1 ⟨rfl, rfl⟩)
        | (at_builtin; refine wpList_append_own_at _ rfl _ _ 22 rfl w.heap.size 3 i0 _ 1 8 Tryd.underlying22 hi hz0 hz1 hz2 rfl (by decide) _ (toZ xs).length (zv (toZ xs)) rfl (own_on hO.out (al1 _ _)) ⟨_, 0, none⟩ 1 1 [.int .i64 (t : Int)] rfl rfl (cell_one_new _ _ _) (by simp [Value.oneCell']) (by unfold maxLen; omega) (by omega) (Nat.le_trans hB.size (al1 _ _).size) ?_))
      intro v' w2 o1 o2 o3 o4
      have O2 : OwnZ w.heap.size w2 v' (toZ (xs ++ [t])) := by
        unfold OwnZ
        rw [toZ_app, zv_app, List.length_append]
        exact o1
      have B2 : Below w.heap.size w w2 := (hB.alloc hB.size _).grown o2 (Nat.le_trans hB.size (al1 _ _).size) (fun j hj => (World.ownsRow.lt hO.out _ hj).1)
      clear o1 o2 o3 o4
      go_wp2_with (first
        | (go_at_call 59; (with_reducible refine (hlo _).mono ?_); rintro e1 w1 ⟨rfl, rfl⟩))
      exact ⟨⟨d, xs ++ [t], rfl, by omega, Lib.hid (by rw [List.append_assoc, ← hX.out, D2.out]; rfl), Lib.hid O2, B2⟩, by simp [intOf]; omega⟩
end Go.Proofs.YtepcokgpepcccaaDoor
