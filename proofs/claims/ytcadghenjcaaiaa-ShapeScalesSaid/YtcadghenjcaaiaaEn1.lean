/- ShapeEnds. -/
import Derived.Test.YtcadghenjcaaiaaRv
namespace Go.Proofs.Ytcadghenjcaaiaa
open Go.ChangeShapes Go.WideShapes Go.ChangeAt Go.RowKit
set_option linter.unusedVariables false
set_option linter.unusedSimpArgs false

theorem rdz_fn {w : World} {p : Option Addr} {n cap : Nat} {l : List Int} (h : Rdz w (.slice p n cap) l) (hl : l.length = n) (hn : 0 < n) : ∃ a : Addr, p = some a ∧ ∀ j (hj : j < l.length), w.cell? (a.add j) = some (.int .i64 l[j]) := by
  obtain ⟨q, c, e, k⟩ := h
  simp only [Value.slice.injEq] at e
  obtain ⟨rfl, -, rfl⟩ := e
  obtain ⟨a, rfl, -⟩ := k 0 (by omega)
  refine ⟨a, rfl, fun j hj => ?_⟩
  obtain ⟨a', e, h⟩ := k j hj
  cases e; exact h
theorem eq40_same (x y z : Int) (W : World) : (binOp .eql 40 (.agg #[.int .i64 x, .int .i64 y, .int .i64 z]) (.agg #[.int .i64 x, .int .i64 y, .int .i64 z])).run Try.prog W = .ok (.bool true) W := by
  have h := eq40 ⟨x, y, z⟩ ⟨x, y, z⟩ W
  rw [decide_eq_true (show (⟨x, y, z⟩ : Pt) = ⟨x, y, z⟩ from rfl)] at h
  exact h
theorem Own.fn {B : Nat} {w : World} {v : Value} {l : List Pt} (h : Own pc 40 3 B w v l) (hl : 0 < l.length) : ∃ g cap, v = .slice (some ⟨g, 0, none⟩) l.length cap ∧ ∀ k (hk : k < l.length), w.cell? ⟨g, k * 3, none⟩ = some (.int .i64 l[k].x) ∧ w.cell? ⟨g, k * 3 + 1, none⟩ = some (.int .i64 l[k].y) ∧ w.cell? ⟨g, k * 3 + 2, none⟩ = some (.int .i64 l[k].z) := by
  obtain ⟨q, c, rfl, k⟩ := Own.rd pl h
  obtain ⟨g, rfl, -⟩ := k 0 hl
  refine ⟨g, c, rfl, fun i hi => ?_⟩
  obtain ⟨g', e, hc⟩ := k i hi
  cases e
  have h0 := hc 0 (by omega)
  have h1 := hc 1 (by omega)
  have h2 := hc 2 (by omega)
  simp [pc] at h0 h1 h2
  exact ⟨h0, h1, h2⟩
theorem Own.last {B : Nat} {w : World} {v : Value} {l : List Pt} {n m m1 m2 : Nat} {P : Pt} (h : Own pc 40 3 B w v l) (hl : l.length = n + 1) (hp : ∀ hh : n < l.length, l[n]'hh = P) (hm : n * 3 = m) (hm1 : n * 3 + 1 = m1) (hm2 : n * 3 + 2 = m2) : ∃ g cap, v = .slice (some ⟨g, 0, none⟩) (n + 1) cap ∧ w.cell? ⟨g, m, none⟩ = some (.int .i64 P.x) ∧ w.cell? ⟨g, m1, none⟩ = some (.int .i64 P.y) ∧ w.cell? ⟨g, m2, none⟩ = some (.int .i64 P.z) := by
  obtain ⟨g, cap, e, hc⟩ := h.fn (by omega)
  have h1 := hc n (by omega)
  rw [hp, hm1, hm2, hm] at h1
  rw [hl] at e
  exact ⟨g, cap, e, h1⟩
set_option maxHeartbeats 8000000 in
set_option maxRecDepth 100000 in
theorem ends_s (b : Bar) (w : World) (hk : b.Ok w) (h1 : (decide (b.ds.length ≤ 8) && decide (b.mark.size ≤ 60)) = false) : Calls Try.prog 7 #[b.val] w fun e w' => e = .returned (.bool true) ∧ Below w.heap.size w w' := by
  have h16 := fun W => Short_any b W
  rw [h1] at h16
  have E := (Env.nil w).add w.heap.size 32 b.cs rfl
  clear hk h1
  simp only [Bar.val, Bar.cs] at *
  have C := E.cells
  simp [BC, CF] at C
  go_enter Try.func7, Try.ntmps7
  go_wp2_with (first
    | (go_at_call 10; (with_reducible refine (awake_any _).mono ?_); rintro X w1 ⟨rfl, hb⟩; replace E := E.on hb; replace C := E.cells; simp [BC, CF] at C; clear hb)
    | (go_at_call 16; (with_reducible refine (h16 _).mono ?_); rintro X w2 ⟨rfl, hb⟩; replace E := E.on hb; replace C := E.cells; simp [BC, CF] at C; clear hb))
  go_ret
  exact ⟨rfl, envb E⟩
set_option maxHeartbeats 8000000 in
set_option maxRecDepth 100000 in
theorem ends_n (b : Bar) (w : World) (hk : b.Ok w) (h1 : (decide (b.ds.length ≤ 8) && decide (b.mark.size ≤ 60)) = true) (hv : barB b = false) : Calls Try.prog 7 #[b.val] w fun e w' => e = .returned (.bool true) ∧ Below w.heap.size w w' := by
  have h16 := fun W => Short_any b W
  have h18 := fun W (h : Below w.heap.size w W) => Path_no b W (hk.on h) hv
  rw [h1] at h16
  have E := (Env.nil w).add w.heap.size 32 b.cs rfl
  clear hk h1 hv
  simp only [Bar.val, Bar.cs] at *
  have C := E.cells
  simp [BC, CF] at C
  go_enter Try.func7, Try.ntmps7
  go_wp2_with (first
    | (go_at_call 10; (with_reducible refine (awake_any _).mono ?_); rintro X w1 ⟨rfl, hb⟩; replace E := E.on hb; replace C := E.cells; simp [BC, CF] at C; clear hb)
    | (go_at_call 16; (with_reducible refine (h16 _).mono ?_); rintro X w2 ⟨rfl, hb⟩; replace E := E.on hb; replace C := E.cells; simp [BC, CF] at C; clear hb)
    | (go_at_call 18; (with_reducible refine (h18 _ (envb E)).mono ?_); rintro X w3 ⟨rfl, hb⟩; replace E := E.on hb; replace C := E.cells; simp [BC, CF] at C; clear hb))
  go_ret
  exact ⟨by simp, envb E⟩
end Go.Proofs.Ytcadghenjcaaiaa
