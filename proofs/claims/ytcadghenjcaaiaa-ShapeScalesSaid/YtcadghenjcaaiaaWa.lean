/- ShapeWalks: along. -/
import Derived.Test.YtcadghenjcaaiaaEn1
namespace Go.Proofs.Ytcadghenjcaaiaa
open Go.ChangeShapes Go.WideShapes Go.ChangeAt Go.RowKit
set_option linter.unusedVariables false
set_option linter.unusedSimpArgs false

theorem three_at (a b c : Int) (w : World) (i : Nat) (hi : i < 3) : Sem.run Try.prog (Instr.index 58 (.agg #[.int .i64 a, .int .i64 b, .int .i64 c]) (.int .i64 i)) w = .ok (.int .i64 (if i = 0 then a else if i = 1 then b else c)) w := by
  rcases (by omega : i = 0 ∨ i = 1 ∨ i = 2) with rfl | rfl | rfl <;> simp [Instr.index, go_sem, Try.underlying58]
set_option maxHeartbeats 8000000 in
set_option maxRecDepth 100000 in
theorem along_any (p q : Pt) (s : Nat) (d n : Int) (w : World) (hn : 1 ≤ n ∧ n ≤ 1000000000) (hd : d = n ∨ d = -n)
    (hs : (s = 0 ∧ q.x - p.x = d ∧ q.y - p.y = 0 ∧ q.z - p.z = 0) ∨ (s = 1 ∧ q.x - p.x = 0 ∧ q.y - p.y = d ∧ q.z - p.z = 0) ∨ (s = 2 ∧ q.x - p.x = 0 ∧ q.y - p.y = 0 ∧ q.z - p.z = d)) :
    Calls Try.prog 28 #[p.val, q.val] w fun e w' => e = .returned (.tuple #[.int .i64 ((s + 1 : Nat) : Int), .int .i64 n]) ∧ Below w.heap.size w w' := by
  have E := ((Env.nil w).add w.heap.size 40 #[.int .i64 p.x, .int .i64 p.y, .int .i64 p.z] rfl).add (w.heap.size + 1) 40 #[.int .i64 q.x, .int .i64 q.y, .int .i64 q.z] (by simp)
  have hW : ∀ e : Int, -1000000000 ≤ e ∧ e ≤ 1000000000 → IntKind.i64.wrap e = e := fun e h => IntWalk.i64_in _ (by omega)
  have Wd : IntKind.i64.wrap d = d := hW _ (by omega)
  have Wn : IntKind.i64.wrap (-d) = -d := hW _ (by omega)
  have W0 : IntKind.i64.wrap 0 = 0 := hW _ (by omega)
  have hz : (d == 0) = false := by simp; omega
  have hm : (if d < -d then -d else d) = n := by split <;> omega
  have i0 := fun W => three_at (q.x - p.x) (q.y - p.y) (q.z - p.z) W 0 (by omega)
  have i1 := fun W => three_at (q.x - p.x) (q.y - p.y) (q.z - p.z) W 1 (by omega)
  have i2 := fun W => three_at (q.x - p.x) (q.y - p.y) (q.z - p.z) W 2 (by omega)
  unfold Pt.val
  have C := E.cells
  simp [BC, CF] at C
  simp at i0 i1 i2
  have HM := Lib.hid hm
  have HM2 : Hid (max d (-d) = n) := Lib.hid (by omega)
  clear hm hW hd hn
  rcases hs with ⟨rfl, h0, h1, h2⟩ | ⟨rfl, h0, h1, h2⟩ | ⟨rfl, h0, h1, h2⟩
  · rw [h0, h1, h2] at i0 i1 i2
    go_enter Try.func28, Try.ntmps28
    go_wp2
    go_loopw [4, 5, 24] (fun v4 v5 v24 wr => ∃ i : Nat, v24 = .int .i64 i ∧ i ≤ 3 ∧ v4 = .int .i64 (if 0 < i then 1 else 0) ∧ v5 = .int .i64 (if 0 < i then n else 0) ∧ Below w.heap.size w wr) (fun _ _ v _ => 3 - (intOf v).toNat)
    case atStart => exact ⟨0, rfl, by omega, rfl, rfl, envb E⟩
    case round =>
      clear E C
      obtain ⟨i, rfl, hi, rfl, rfl, E⟩ := hrel
      rcases (by omega : i = 0 ∨ i = 1 ∨ i = 2 ∨ i = 3) with rfl | rfl | rfl | rfl
      · go_wp2
        exact ⟨⟨1, rfl, by omega, by first | rfl | (simp; exact HM2.out) | (simp; done), by first | rfl | (simp; exact HM2.out) | (simp; done), E⟩, by simp [intOf]⟩
      · go_wp2
        exact ⟨⟨2, rfl, by omega, by first | rfl | (simp; exact HM2.out) | (simp; done), by first | rfl | (simp; exact HM2.out) | (simp; done), E⟩, by simp [intOf]⟩
      · go_wp2
        exact ⟨⟨3, rfl, by omega, by first | rfl | (simp; exact HM2.out) | (simp; done), by first | rfl | (simp; exact HM2.out) | (simp; done), E⟩, by simp [intOf]⟩
      · go_wp2
        exact bodyPost_ret (v := .tuple #[.int .i64 1, .int .i64 n]) (by simp [results, Try.results28, go_sem]) rfl ⟨rfl, E⟩
  · rw [h0, h1, h2] at i0 i1 i2
    go_enter Try.func28, Try.ntmps28
    go_wp2
    go_loopw [4, 5, 24] (fun v4 v5 v24 wr => ∃ i : Nat, v24 = .int .i64 i ∧ i ≤ 3 ∧ v4 = .int .i64 (if 1 < i then 2 else 0) ∧ v5 = .int .i64 (if 1 < i then n else 0) ∧ Below w.heap.size w wr) (fun _ _ v _ => 3 - (intOf v).toNat)
    case atStart => exact ⟨0, rfl, by omega, rfl, rfl, envb E⟩
    case round =>
      clear E C
      obtain ⟨i, rfl, hi, rfl, rfl, E⟩ := hrel
      rcases (by omega : i = 0 ∨ i = 1 ∨ i = 2 ∨ i = 3) with rfl | rfl | rfl | rfl
      · go_wp2
        exact ⟨⟨1, rfl, by omega, by first | rfl | (simp; exact HM2.out) | (simp; done), by first | rfl | (simp; exact HM2.out) | (simp; done), E⟩, by simp [intOf]⟩
      · go_wp2
        exact ⟨⟨2, rfl, by omega, by first | rfl | (simp; exact HM2.out) | (simp; done), by first | rfl | (simp; exact HM2.out) | (simp; done), E⟩, by simp [intOf]⟩
      · go_wp2
        exact ⟨⟨3, rfl, by omega, by first | rfl | (simp; exact HM2.out) | (simp; done), by first | rfl | (simp; exact HM2.out) | (simp; done), E⟩, by simp [intOf]⟩
      · go_wp2
        exact bodyPost_ret (v := .tuple #[.int .i64 2, .int .i64 n]) (by simp [results, Try.results28, go_sem]) rfl ⟨rfl, E⟩
  · rw [h0, h1, h2] at i0 i1 i2
    go_enter Try.func28, Try.ntmps28
    go_wp2
    go_loopw [4, 5, 24] (fun v4 v5 v24 wr => ∃ i : Nat, v24 = .int .i64 i ∧ i ≤ 3 ∧ v4 = .int .i64 (if 2 < i then 3 else 0) ∧ v5 = .int .i64 (if 2 < i then n else 0) ∧ Below w.heap.size w wr) (fun _ _ v _ => 3 - (intOf v).toNat)
    case atStart => exact ⟨0, rfl, by omega, rfl, rfl, envb E⟩
    case round =>
      clear E C
      obtain ⟨i, rfl, hi, rfl, rfl, E⟩ := hrel
      rcases (by omega : i = 0 ∨ i = 1 ∨ i = 2 ∨ i = 3) with rfl | rfl | rfl | rfl
      · go_wp2
        exact ⟨⟨1, rfl, by omega, by first | rfl | (simp; exact HM2.out) | (simp; done), by first | rfl | (simp; exact HM2.out) | (simp; done), E⟩, by simp [intOf]⟩
      · go_wp2
        exact ⟨⟨2, rfl, by omega, by first | rfl | (simp; exact HM2.out) | (simp; done), by first | rfl | (simp; exact HM2.out) | (simp; done), E⟩, by simp [intOf]⟩
      · go_wp2
        exact ⟨⟨3, rfl, by omega, by first | rfl | (simp; exact HM2.out) | (simp; done), by first | rfl | (simp; exact HM2.out) | (simp; done), E⟩, by simp [intOf]⟩
      · go_wp2
        exact bodyPost_ret (v := .tuple #[.int .i64 3, .int .i64 n]) (by simp [results, Try.results28, go_sem]) rfl ⟨rfl, E⟩
end Go.Proofs.Ytcadghenjcaaiaa
