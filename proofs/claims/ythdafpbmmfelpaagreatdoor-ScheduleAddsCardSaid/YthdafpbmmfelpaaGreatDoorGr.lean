/- slices.Grow, slices.Concat of pieces. -/
import Derived.Test.YthdafpbmmfelpaaGreatDoorSc
import Derived.Shelf.Spec.SlicesGrow
import Derived.Laws.AppendOwnNone
namespace Go.Proofs
def Tryz.grow_ren : Go.Shelf.Ren := ⟨fun | 4 => 63 | x => x, fun | 22 => 43 | 25 => 49 | x => x, fun x => x⟩
theorem Tryz.growP : Lays8.n4 Tryz.prog Tryz.grow_ren := {
  mixed := by kernel_rfl
  f4 := ⟨"slices.Grow[[]stirrup/api.Piece,stirrup/api.Piece]", by decide, Tryz.func63.trans (congrArg some (by kernel_rfl))⟩
  t0 := Tryz.underlying0
  a0 := Tryz.isAgg0
  z0 := Tryz.sizeOf0
  v0 := Tryz.zeroValue0
  t3 := Tryz.underlying3
  a3 := Tryz.isAgg3
  z3 := Tryz.sizeOf3
  v3 := Tryz.zeroValue3
  t4 := Tryz.underlying4
  a4 := Tryz.isAgg4
  z4 := Tryz.sizeOf4
  v4 := Tryz.zeroValue4
  t9 := Tryz.underlying9
  a9 := Tryz.isAgg9
  z9 := Tryz.sizeOf9
  v9 := Tryz.zeroValue9
  t20 := Tryz.underlying20
  a20 := Tryz.isAgg20
  z20 := Tryz.sizeOf20
  v20 := Tryz.zeroValue20
  t22 := Tryz.underlying43
  a22 := Tryz.isAgg43
  z22 := Tryz.sizeOf43
  v22 := Tryz.zeroValue43 }
end Go.Proofs
namespace Go.Proofs.YthdafpbmmfelpaaGreatDoor
open Go.ChangeShapes Go.WideShapes Go.ChangeAt Go.RowKit
set_option linter.unusedVariables false
set_option linter.unusedSimpArgs false

theorem own_empty (w : World) (C : Array Value) (G : Nat) (hG : G ≤ maxLen) (hC : C.size = G * 2) : Own sc 49 2 w.heap.size (w.drew.alloc (.cells C 49)) (.slice (some ⟨w.heap.size, 0, none⟩) 0 G) [] :=
  ⟨rfl, .inr ⟨w.heap.size, G, C, rfl, Nat.le_refl _, by show (w.heap.push _)[w.heap.size]? = _; simp, Nat.zero_le _, hG, hC, by simp⟩⟩
theorem grow_any (n : Nat) (w : World) (hn : n ≤ 1000) : Calls Tryz.prog 63 #[.slice none 0 0, .int .i64 n] w fun e w' => ∃ v, e = .returned v ∧ Own sc 49 2 w.heap.size w' v [] ∧ Below w.heap.size w w' := by
  rcases Nat.eq_zero_or_pos n with rfl | h0
  · refine (Any8.slices_Grow_room Tryz.growP none 0 0 0 w (Nat.le_refl _) (by omega) (by omega) (Nat.le_refl _)).mono ?_
    rintro e w' ⟨rfl, rfl⟩
    exact ⟨_, rfl, ⟨rfl, .inl ⟨rfl, rfl⟩⟩, Below.refl _ _⟩
  · obtain ⟨i0, hi, hz0, hz1, hz2⟩ := info_parts info49
    refine (Any8.slices_Grow_grow Tryz.growP i0 _ hi hz0 (by rw [hz1]; decide) none 0 0 n [] w (Nat.le_refl _) (by omega) (by rw [hz2]; omega) (by omega) (by simp) (fun _ => rfl) (fun a h => by cases h)).mono ?_
    rintro e w' ⟨rfl, rfl⟩
    have hG := grownCap_le_maxLen w (0 + n) 0 49 (by unfold maxLen; omega)
    have hg2 := grownCap_ge w (0 + n) 0 49
    refine ⟨_, rfl, own_empty w _ _ hG ?_, ((Below.refl _ w).drew).alloc (Nat.le_refl _) _⟩
    · show (#[] ++ Builtin.zeroCells #[Value.int .i64 0, Value.int .i64 0] (0 + n - 0) ++ Builtin.zeroCells #[Value.int .i64 0, Value.int .i64 0] (grownCap w (0 + n) 0 49 - (0 + n))).size = _
      rw [Array.size_append, Array.size_append, size_zeroCells, size_zeroCells]
      show 0 + (0 + n - 0) * 2 + (grownCap w (0 + n) 0 49 - (0 + n)) * 2 = grownCap w (0 + n) 0 49 * 2
      omega
end Go.Proofs.YthdafpbmmfelpaaGreatDoor
