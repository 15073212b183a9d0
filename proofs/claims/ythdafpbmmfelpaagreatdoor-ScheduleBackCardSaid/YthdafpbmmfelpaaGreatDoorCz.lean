/- Clone of a list of whole numbers that is read (f29), wherever it lies. -/
import Derived.Test.YthdafpbmmfelpaaGreatDoorM2
import Derived.Lib.SliceRun
namespace Go.Proofs.YthdafpbmmfelpaaGreatDoor
open Go.ChangeShapes Go.WideShapes Go.ChangeAt Go.RowKit
set_option linter.unusedVariables false
set_option linter.unusedSimpArgs false

/-- A row of whole numbers of the call's own. -/
def OwnI (B : Nat) (w : World) (v : Value) (zs : List Int) : Prop := w.ownsRow B 3 1 v zs.length (zs.map (Value.int .i64))
theorem OwnI.rdz {B : Nat} {w : World} {v : Value} {zs : List Int} (h : OwnI B w v zs) : Rdz w v zs := by
  obtain ⟨hl2, ⟨rfl, h0⟩ | ⟨g, cap, cur, rfl, hB, hg, hn, hm, hs, ht⟩⟩ := h
  · exact ⟨none, 0, by rw [h0], fun j hj => by omega⟩
  · refine ⟨_, cap, rfl, fun j hj => ⟨_, rfl, ?_⟩⟩
    have ad : (⟨g, 0, none⟩ : Addr).add j = ⟨g, j, none⟩ := by unfold Addr.add; split <;> simp_all
    rw [ad, cell_of_row w g j cur 3 (0, 0) hg]
    have e : (zs.map (Value.int .i64))[j]? = some (.int .i64 zs[j]) := by simp [hj]
    rw [← e, ← ht, List.getElem?_take_of_lt (by omega), Array.getElem?_toList]
set_option maxRecDepth 100000 in
theorem zclone_any (q : Option Addr) (zs : List Int) (c : Nat) (w : World) (hO : Rdz w (.slice q zs.length c) zs) (hl : zs.length ≤ 1005) :
    Calls Tryz.prog 61 #[.slice q zs.length c] w fun e w' => ∃ v, e = .returned v ∧ OwnI w.heap.size w' v zs ∧ Below w.heap.size w w' := by
  obtain ⟨i0, hi, hz0, hz1, hz2⟩ := info_parts info3
  have q22 : ∀ (w : World) (a : Option Addr) (n c n' c' : Nat), (binOp .eql 58 (.slice a n c) (.slice none n' c')).run Tryz.prog w = .ok (.bool a.isNone) w := fun w a n c n' c' => Lib.run_eql_slice_nil w _ _ a n c n' c' Tryz.underlying58
  cases q with
  | none =>
    obtain ⟨q', c', e', k⟩ := hO
    simp only [Value.slice.injEq] at e'
    obtain ⟨rfl, -, rfl⟩ := e'
    have e : zs = [] := by
      cases zs with
      | nil => rfl
      | cons x t => obtain ⟨a, e, -⟩ := k 0 (by simp); cases e
    subst e
    go_enter Tryz.func61, Tryz.ntmps61
    go_wp2
    go_ret
    exact ⟨_, rfl, ⟨rfl, .inl ⟨rfl, rfl⟩⟩, Below.refl _ _⟩
  | some a =>
    have hR := hO.on (al1 w (.cells #[] 3))
    have HN : Hid (∀ j u, (zs.map (Value.int .i64))[j]? = some u → (w.alloc (.cells #[] 3)).cell? (a.add j) = some u) := Lib.hid fun j u hj => by
      obtain ⟨q', c', e', k⟩ := hR
      simp only [Value.slice.injEq] at e'
      obtain ⟨rfl, -, rfl⟩ := e'
      have hjl : j < zs.length := by have := (List.getElem?_eq_some_iff.1 hj).1; simpa using this
      obtain ⟨a', e, hc⟩ := k j hjl
      cases e
      rw [hc, ← hj]; simp [hjl]
    have HL : Hid ((zs.map (Value.int .i64)).length = zs.length * 1) := Lib.hid (by simp)
    have H1 : ∀ u ∈ zs.map (Value.int .i64), u.oneCell' = true := by
      intro u hu
      obtain ⟨x, -, rfl⟩ := List.mem_map.1 hu
      rfl
    clear hR hO
    go_enter Tryz.func61, Tryz.ntmps61
    go_wp2_with (at_builtin; refine wpList_append_own_at _ rfl _ _ 58 rfl w.heap.size 3 i0 _ 1 8 Tryz.underlying58 hi hz0 hz1 hz2 rfl (by decide) _ 0 [] rfl (World.ownsRow_made w #[] 0 (Nat.le_refl _) (Nat.zero_le _) rfl) a zs.length c (zs.map (Value.int .i64)) rfl HL.out HN.out H1 (by unfold maxLen; omega) (by omega) (by simp) ?_)
    intro v' w2 o1 o2 o3 o4
    have b2 : Below w.heap.size w w2 := ((Below.refl _ w).alloc (Nat.le_refl _) _).grown o2 (by simp) (by intro k hk; simp [Value.ownBlock] at hk; omega)
    have O1 : OwnI w.heap.size w2 v' zs := by
      unfold OwnI
      simpa using o1
    clear o1 o2 o3 o4
    go_wp2
    go_ret
    exact ⟨_, rfl, O1, b2⟩
end Go.Proofs.YthdafpbmmfelpaaGreatDoor
