/- The reference: coordinates. The reference: how far boxes are apart along an axis. The reference: Gap and Square. The reference: Nearest. The reference: Valid. -/
import Derived.Test.YtkgaahmehmbfjaaZ6
namespace Go.Proofs.Ytkgaahmehmbfjaa
open Go.ChangeShapes Go.WideShapes Go.ChangeAt Go.RowKit
set_option linter.unusedVariables false
set_option linter.unusedSimpArgs false

set_option maxHeartbeats 4000000 in
set_option maxRecDepth 100000 in
theorem rcoord0 (a b c : Int) (w : World) : Calls Try.prog 39 #[.agg #[.int .i64 a, .int .i64 b, .int .i64 c], .int .i64 0] w fun E w' => E = .returned (.int .i64 a) ∧ Below w.heap.size w w' := by
  go_enter Try.func39, Try.ntmps39
  go_wp2
  go_ret
  exact ⟨rfl, al1 w _⟩
set_option maxHeartbeats 4000000 in
set_option maxRecDepth 100000 in
theorem rcoord1 (a b c : Int) (w : World) : Calls Try.prog 39 #[.agg #[.int .i64 a, .int .i64 b, .int .i64 c], .int .i64 1] w fun E w' => E = .returned (.int .i64 b) ∧ Below w.heap.size w w' := by
  go_enter Try.func39, Try.ntmps39
  go_wp2
  go_ret
  exact ⟨rfl, al1 w _⟩
set_option maxHeartbeats 4000000 in
set_option maxRecDepth 100000 in
theorem rcoord2 (a b c : Int) (w : World) : Calls Try.prog 39 #[.agg #[.int .i64 a, .int .i64 b, .int .i64 c], .int .i64 2] w fun E w' => E = .returned (.int .i64 c) ∧ Below w.heap.size w w' := by
  go_enter Try.func39, Try.ntmps39
  go_wp2
  go_ret
  exact ⟨rfl, al1 w _⟩
def lenB (n : Int) : Bool := decide (-1048576 ≤ n) && decide (n ≤ 1048576)
theorem rlen_any (n : Int) (w : World) : Calls Try.prog 28 #[.int .i64 n] w fun E w' => E = .returned (.bool (lenB n)) ∧ w' = w := by
  unfold lenB
  by_cases h1 : -1048576 ≤ n
  · by_cases h2 : n ≤ 1048576
    · go_enter Try.func28, Try.ntmps28
      go_wp2
      go_ret
      exact ⟨by simp [h1, h2], rfl⟩
    · go_enter Try.func28, Try.ntmps28
      go_wp2
      go_ret
      exact ⟨by simp [h1, h2], rfl⟩
  · have g : decide (-1048576 ≤ n) = false := by simp; omega
    rw [g]
    go_enter Try.func28, Try.ntmps28
    go_wp2
    go_ret
    exact ⟨rfl, rfl⟩
theorem rlen_b (n : Int) (w : World) : Calls Try.prog 28 #[.int .i64 n] w fun E w' => E = .returned (.bool (lenB n)) ∧ Below w.heap.size w w' := (rlen_any n w).mono fun _ _ h => ⟨h.1, h.2 ▸ Below.refl _ _⟩
theorem sdV_len (lo hi : Int) : sdV lo hi = (lenB lo && lenB hi && !decide (hi < lo)) := by
  unfold sdV lenB
  rw [Bool.eq_iff_iff]
  simp only [Bool.and_eq_true, decide_eq_true_eq, Bool.not_eq_true', decide_eq_false_iff_not]
  omega
end Go.Proofs.Ytkgaahmehmbfjaa
namespace Go.Proofs.Ytkgaahmehmbfjaa
open Go.ChangeShapes Go.WideShapes Go.ChangeAt Go.RowKit
set_option linter.unusedVariables false
set_option linter.unusedSimpArgs false

theorem cells_xy {x y : Bx} {w W' : World} (h : Env w W' [⟨w.heap.size + 1, 30, #[.int .i64 y.a, .int .i64 y.b, .int .i64 y.c, .int .i64 y.d, .int .i64 y.e, .int .i64 y.f]⟩, ⟨w.heap.size, 30, #[.int .i64 x.a, .int .i64 x.b, .int .i64 x.c, .int .i64 x.d, .int .i64 x.e, .int .i64 x.f]⟩]) : W'.cell? ⟨w.heap.size, 0, none⟩ = some (.int .i64 x.a) ∧ W'.cell? ⟨w.heap.size, 1, none⟩ = some (.int .i64 x.b) ∧ W'.cell? ⟨w.heap.size, 2, none⟩ = some (.int .i64 x.c) ∧ W'.cell? ⟨w.heap.size, 3, none⟩ = some (.int .i64 x.d) ∧ W'.cell? ⟨w.heap.size, 4, none⟩ = some (.int .i64 x.e) ∧ W'.cell? ⟨w.heap.size, 5, none⟩ = some (.int .i64 x.f) ∧ W'.cell? ⟨w.heap.size + 1, 0, none⟩ = some (.int .i64 y.a) ∧ W'.cell? ⟨w.heap.size + 1, 1, none⟩ = some (.int .i64 y.b) ∧ W'.cell? ⟨w.heap.size + 1, 2, none⟩ = some (.int .i64 y.c) ∧ W'.cell? ⟨w.heap.size + 1, 3, none⟩ = some (.int .i64 y.d) ∧ W'.cell? ⟨w.heap.size + 1, 4, none⟩ = some (.int .i64 y.e) ∧ W'.cell? ⟨w.heap.size + 1, 5, none⟩ = some (.int .i64 y.f) ∧ Env w W' [⟨w.heap.size + 1, 30, #[.int .i64 y.a, .int .i64 y.b, .int .i64 y.c, .int .i64 y.d, .int .i64 y.e, .int .i64 y.f]⟩, ⟨w.heap.size, 30, #[.int .i64 x.a, .int .i64 x.b, .int .i64 x.c, .int .i64 x.d, .int .i64 x.e, .int .i64 x.f]⟩] := by
  have C := h.cells
  simp [BC, CF] at C
  simp [C, h]
end Go.Proofs.Ytkgaahmehmbfjaa
namespace Go.Proofs.Ytkgaahmehmbfjaa
open Go.ChangeShapes Go.WideShapes Go.ChangeAt Go.RowKit
set_option linter.unusedVariables false
set_option linter.unusedSimpArgs false

theorem pq_max (g : Int) : max 0 g * max 0 g = pq g := by
  unfold pq
  split
  · rename_i h; rw [Int.max_eq_right (by omega)]
  · rename_i h; rw [Int.max_eq_left (by omega)]; rfl
theorem pq_wrap {g : Int} (h : -2097152 ≤ g ∧ g ≤ 2097152) : IntKind.i64.wrap (max 0 g * max 0 g) = pq g := by
  rw [pq_max]
  exact IntWalk.i64_in _ (by have := pq_b h; omega)
end Go.Proofs.Ytkgaahmehmbfjaa
namespace Go.Proofs.Ytkgaahmehmbfjaa
open Go.ChangeShapes Go.WideShapes Go.ChangeAt Go.RowKit
set_option linter.unusedVariables false
set_option linter.unusedSimpArgs false

set_option maxHeartbeats 4000000 in
set_option maxRecDepth 100000 in
theorem rwith0 (a b c z : Int) (w : World) : Calls Try.prog 40 #[.agg #[.int .i64 a, .int .i64 b, .int .i64 c], .int .i64 0, .int .i64 z] w fun E w' => E = .returned (.agg #[.int .i64 z, .int .i64 b, .int .i64 c]) ∧ Below w.heap.size w w' := by
  have E := ((Env.nil w).add w.heap.size 28 #[.int .i64 a, .int .i64 b, .int .i64 c] rfl).add (w.heap.size + 1) 28 #[.int .i64 0, .int .i64 0, .int .i64 0] (by simp)
  have C := E.cells
  simp [BC, CF] at C
  go_enter Try.func40, Try.ntmps40
  go_wp2
  refine bodyPost_ret (v := .agg #[.int .i64 z, .int .i64 b, .int .i64 c]) (by simp [results, Try.results40, go_sem, C]) rfl ⟨rfl, ?_⟩
  first
    | with_reducible exact al (al1 w _) _
    | with_reducible exact ((al (al1 w _) _).setCell (by dsimp only; omega) _)
    | with_reducible exact (((((al (al1 w _) _).setCell (by dsimp only; omega) _).setCell (by dsimp only; omega) _).setCell (by dsimp only; omega) _).setCell (by dsimp only; omega) _)
    | with_reducible exact ((al ((al1 w _).setCell (by dsimp only; omega) _) _))
set_option maxHeartbeats 4000000 in
set_option maxRecDepth 100000 in
theorem rwith1 (a b c z : Int) (w : World) : Calls Try.prog 40 #[.agg #[.int .i64 a, .int .i64 b, .int .i64 c], .int .i64 1, .int .i64 z] w fun E w' => E = .returned (.agg #[.int .i64 a, .int .i64 z, .int .i64 c]) ∧ Below w.heap.size w w' := by
  have E := ((Env.nil w).add w.heap.size 28 #[.int .i64 a, .int .i64 b, .int .i64 c] rfl).add (w.heap.size + 1) 28 #[.int .i64 0, .int .i64 0, .int .i64 0] (by simp)
  have C := E.cells
  simp [BC, CF] at C
  go_enter Try.func40, Try.ntmps40
  go_wp2
  refine bodyPost_ret (v := .agg #[.int .i64 a, .int .i64 z, .int .i64 c]) (by simp [results, Try.results40, go_sem, C]) rfl ⟨rfl, ?_⟩
  first
    | with_reducible exact al (al1 w _) _
    | with_reducible exact ((al (al1 w _) _).setCell (by dsimp only; omega) _)
    | with_reducible exact (((((al (al1 w _) _).setCell (by dsimp only; omega) _).setCell (by dsimp only; omega) _).setCell (by dsimp only; omega) _).setCell (by dsimp only; omega) _)
    | with_reducible exact ((al ((al1 w _).setCell (by dsimp only; omega) _) _))
set_option maxHeartbeats 4000000 in
set_option maxRecDepth 100000 in
theorem rwith2 (a b c z : Int) (w : World) : Calls Try.prog 40 #[.agg #[.int .i64 a, .int .i64 b, .int .i64 c], .int .i64 2, .int .i64 z] w fun E w' => E = .returned (.agg #[.int .i64 a, .int .i64 b, .int .i64 z]) ∧ Below w.heap.size w w' := by
  have E := ((Env.nil w).add w.heap.size 28 #[.int .i64 a, .int .i64 b, .int .i64 c] rfl).add (w.heap.size + 1) 28 #[.int .i64 0, .int .i64 0, .int .i64 0] (by simp)
  have C := E.cells
  simp [BC, CF] at C
  go_enter Try.func40, Try.ntmps40
  go_wp2
  refine bodyPost_ret (v := .agg #[.int .i64 a, .int .i64 b, .int .i64 z]) (by simp [results, Try.results40, go_sem, C]) rfl ⟨rfl, ?_⟩
  first
    | with_reducible exact al (al1 w _) _
    | with_reducible exact ((al (al1 w _) _).setCell (by dsimp only; omega) _)
    | with_reducible exact (((((al (al1 w _) _).setCell (by dsimp only; omega) _).setCell (by dsimp only; omega) _).setCell (by dsimp only; omega) _).setCell (by dsimp only; omega) _)
    | with_reducible exact ((al ((al1 w _).setCell (by dsimp only; omega) _) _))
end Go.Proofs.Ytkgaahmehmbfjaa
namespace Go.Proofs.Ytkgaahmehmbfjaa
open Go.ChangeShapes Go.WideShapes Go.ChangeAt Go.RowKit
set_option linter.unusedVariables false
set_option linter.unusedSimpArgs false

theorem cells_x {x : Bx} {w W' : World} (h : Env w W' [⟨w.heap.size, 30, #[.int .i64 x.a, .int .i64 x.b, .int .i64 x.c, .int .i64 x.d, .int .i64 x.e, .int .i64 x.f]⟩]) : W'.cell? ⟨w.heap.size, 0, none⟩ = some (.int .i64 x.a) ∧ W'.cell? ⟨w.heap.size, 1, none⟩ = some (.int .i64 x.b) ∧ W'.cell? ⟨w.heap.size, 2, none⟩ = some (.int .i64 x.c) ∧ W'.cell? ⟨w.heap.size, 3, none⟩ = some (.int .i64 x.d) ∧ W'.cell? ⟨w.heap.size, 4, none⟩ = some (.int .i64 x.e) ∧ W'.cell? ⟨w.heap.size, 5, none⟩ = some (.int .i64 x.f) ∧ Env w W' [⟨w.heap.size, 30, #[.int .i64 x.a, .int .i64 x.b, .int .i64 x.c, .int .i64 x.d, .int .i64 x.e, .int .i64 x.f]⟩] := by
  have C := h.cells
  simp [BC, CF] at C
  simp [C, h]
set_option maxHeartbeats 16000000 in
set_option maxRecDepth 100000 in
theorem rvalid_any (x : Bx) (w : World) : Calls Try.prog 19 #[x.val] w fun E w' => E = .returned (.bool x.ok) ∧ Below w.heap.size w w' := by
  have E := (Env.nil w).add w.heap.size 30 #[.int .i64 x.a, .int .i64 x.b, .int .i64 x.c, .int .i64 x.d, .int .i64 x.e, .int .i64 x.f] rfl
  unfold Bx.val
  obtain ⟨RES, hRES⟩ : ∃ R, R = x.ok := ⟨_, rfl⟩
  rw [← hRES]
  unfold Bx.ok vB at hRES
  have HR := Lib.hid hRES
  clear hRES
  go_enter Try.func19, Try.ntmps19
  go_wp2
  go_loopw [3] (fun v wr => ∃ i : Nat, v = .int .i64 (i : Int) ∧ i ≤ 3 ∧ (0 < i → sdV x.a x.d = true) ∧ (1 < i → sdV x.b x.e = true) ∧ (2 < i → sdV x.c x.f = true) ∧ Env w wr [⟨w.heap.size, 30, #[.int .i64 x.a, .int .i64 x.b, .int .i64 x.c, .int .i64 x.d, .int .i64 x.e, .int .i64 x.f]⟩]) (fun v _ => 3 - (intOf v).toNat)
  case atStart => exact ⟨0, rfl, by omega, by omega, by omega, by omega, E⟩
  case round =>
    clear E
    obtain ⟨i, rfl, hi, h0, h1, h2, E⟩ := hrel
    rcases (by omega : i = 0 ∨ i = 1 ∨ i = 2 ∨ i = 3) with rfl | rfl | rfl | rfl
    · have C := E.cells
      simp [BC, CF] at C
      have c0 := fun W => rcoord0 x.a x.b x.c W
      have c1 := fun W => rcoord0 x.d x.e x.f W
      have k0 := fun W => rlen_b x.a W
      have k1 := fun W => rlen_b x.d W
      cases L1 : lenB x.a
      · rw [L1] at k0
        go_wp2
        first | go_region_law (first | (go_simp; go_at_call 39; (first | with_reducible refine (c0 _).mono ?_ | with_reducible refine (c1 _).mono ?_); rintro X w1 ⟨rfl, hb⟩; (first | have E := E.drw.on hb | have E := E.on hb); have C := E.cells; simp only [BC, CF] at C; clear hb) | (go_simp; go_at_call 28; (with_reducible refine (k0 _).mono ?_); rintro X w2 ⟨rfl, hb⟩; (first | have E := E.drw.on hb | have E := E.on hb); have C := E.cells; simp only [BC, CF] at C; clear hb; dsimp only; refine ‹∀ a w, wpAny _ _ _ _ _ _ a w → _› _ _ ?_; refine wpAny_take (i := 5) (v := .bool true) rfl (by kernel_rfl) (by kernel_rfl) (by kernel_rfl) (fun _ _ _ h => h) (Or.inl ⟨by kernel_rfl, fun w => by go_simp⟩) ?_; refine wpAny_take (i := 6) (v := .bool true) rfl (by kernel_rfl) (by kernel_rfl) (by kernel_rfl) (fun _ _ _ h => h) (Or.inl ⟨by kernel_rfl, fun w => by go_simp⟩) ?_; refine wpAny_take (i := 7) (v := undef) rfl (by kernel_rfl) (by kernel_rfl) (by kernel_rfl) (fun _ _ _ h => h) (Or.inr ⟨by kernel_rfl, rfl⟩) ?_; refine wpAny_take (i := 8) (v := undef) rfl (by kernel_rfl) (by kernel_rfl) (by kernel_rfl) (fun _ _ _ h => h) (Or.inr ⟨by kernel_rfl, rfl⟩) ?_; refine wpAny_take (i := 9) (v := undef) rfl (by kernel_rfl) (by kernel_rfl) (by kernel_rfl) (fun _ _ _ h => h) (Or.inr ⟨by kernel_rfl, rfl⟩) ?_; refine wpAny_take (i := 10) (v := undef) rfl (by kernel_rfl) (by kernel_rfl) (by kernel_rfl) (fun _ _ _ h => h) (Or.inr ⟨by kernel_rfl, rfl⟩) ?_; refine wpAny_take (i := 11) (v := undef) rfl (by kernel_rfl) (by kernel_rfl) (by kernel_rfl) (fun _ _ _ h => h) (Or.inr ⟨by kernel_rfl, rfl⟩) ?_; refine wpAny_take (i := 12) (v := undef) rfl (by kernel_rfl) (by kernel_rfl) (by kernel_rfl) (fun _ _ _ h => h) (Or.inr ⟨by kernel_rfl, rfl⟩) ?_; refine wpAny_take (i := 13) (v := .bool true) rfl (by kernel_rfl) (by kernel_rfl) (by kernel_rfl) (fun _ _ _ h => h) (Or.inl ⟨by kernel_rfl, fun w => by go_simp⟩) ?_; refine wpAny_take (i := 14) (v := .bool true) rfl (by kernel_rfl) (by kernel_rfl) (by kernel_rfl) (fun _ _ _ h => h) (Or.inl ⟨by kernel_rfl, fun w => by go_simp⟩) ?_; refine wpAny_take (i := 15) (v := undef) rfl (by kernel_rfl) (by kernel_rfl) (by kernel_rfl) (fun _ _ _ h => h) (Or.inr ⟨by kernel_rfl, rfl⟩) ?_; refine wpAny_take (i := 16) (v := undef) rfl (by kernel_rfl) (by kernel_rfl) (by kernel_rfl) (fun _ _ _ h => h) (Or.inr ⟨by kernel_rfl, rfl⟩) ?_; refine wpAny_take (i := 17) (v := undef) rfl (by kernel_rfl) (by kernel_rfl) (by kernel_rfl) (fun _ _ _ h => h) (Or.inr ⟨by kernel_rfl, rfl⟩) ?_; refine wpAny_take (i := 18) (v := undef) rfl (by kernel_rfl) (by kernel_rfl) (by kernel_rfl) (fun _ _ _ h => h) (Or.inr ⟨by kernel_rfl, rfl⟩) ?_; refine wpAny_take (i := 19) (v := undef) rfl (by kernel_rfl) (by kernel_rfl) (by kernel_rfl) (fun _ _ _ h => h) (Or.inr ⟨by kernel_rfl, rfl⟩) ?_; refine wpAny_take (i := 20) (v := undef) rfl (by kernel_rfl) (by kernel_rfl) (by kernel_rfl) (fun _ _ _ h => h) (Or.inr ⟨by kernel_rfl, rfl⟩) ?_; refine wpAny_take (i := 21) (v := undef) rfl (by kernel_rfl) (by kernel_rfl) (by kernel_rfl) (fun _ _ _ h => h) (Or.inr ⟨by kernel_rfl, rfl⟩) ?_; refine wpAny_take (i := 22) (v := undef) rfl (by kernel_rfl) (by kernel_rfl) (by kernel_rfl) (fun _ _ _ h => h) (Or.inr ⟨by kernel_rfl, rfl⟩) ?_; refine wpAny_take (i := 23) (v := undef) rfl (by kernel_rfl) (by kernel_rfl) (by kernel_rfl) (fun _ _ _ h => h) (Or.inr ⟨by kernel_rfl, rfl⟩) ?_)) | fail
        all_goals go_wp2
        all_goals go_ret
        all_goals exact ⟨by rw [HR.out]; simp [sdV_len, L1], E.1⟩
      · rw [L1] at k0
        cases L2 : lenB x.d
        · rw [L2] at k1
          go_wp2
          first | go_region_law (first | (go_simp; go_at_call 39; (first | with_reducible refine (c0 _).mono ?_ | with_reducible refine (c1 _).mono ?_); rintro X w1 ⟨rfl, hb⟩; (first | have E := E.drw.on hb | have E := E.on hb); have C := E.cells; simp only [BC, CF] at C; clear hb) | (go_simp; go_at_call 28; (with_reducible refine (k1 _).mono ?_); rintro X w2 ⟨rfl, hb⟩; (first | have E := E.drw.on hb | have E := E.on hb); have C := E.cells; simp only [BC, CF] at C; clear hb; dsimp only; refine ‹∀ a w, wpAny _ _ _ _ _ _ a w → _› _ _ ?_; refine wpAny_take (i := 12) (v := .bool true) rfl (by kernel_rfl) (by kernel_rfl) (by kernel_rfl) (fun _ _ _ h => h) (Or.inl ⟨by kernel_rfl, fun w => by go_simp⟩) ?_; refine wpAny_take (i := 13) (v := .bool true) rfl (by kernel_rfl) (by kernel_rfl) (by kernel_rfl) (fun _ _ _ h => h) (Or.inl ⟨by kernel_rfl, fun w => by go_simp⟩) ?_; refine wpAny_take (i := 14) (v := .bool true) rfl (by kernel_rfl) (by kernel_rfl) (by kernel_rfl) (fun _ _ _ h => h) (Or.inl ⟨by kernel_rfl, fun w => by go_simp⟩) ?_; refine wpAny_take (i := 15) (v := undef) rfl (by kernel_rfl) (by kernel_rfl) (by kernel_rfl) (fun _ _ _ h => h) (Or.inr ⟨by kernel_rfl, rfl⟩) ?_; refine wpAny_take (i := 16) (v := undef) rfl (by kernel_rfl) (by kernel_rfl) (by kernel_rfl) (fun _ _ _ h => h) (Or.inr ⟨by kernel_rfl, rfl⟩) ?_; refine wpAny_take (i := 17) (v := undef) rfl (by kernel_rfl) (by kernel_rfl) (by kernel_rfl) (fun _ _ _ h => h) (Or.inr ⟨by kernel_rfl, rfl⟩) ?_; refine wpAny_take (i := 18) (v := undef) rfl (by kernel_rfl) (by kernel_rfl) (by kernel_rfl) (fun _ _ _ h => h) (Or.inr ⟨by kernel_rfl, rfl⟩) ?_; refine wpAny_take (i := 19) (v := undef) rfl (by kernel_rfl) (by kernel_rfl) (by kernel_rfl) (fun _ _ _ h => h) (Or.inr ⟨by kernel_rfl, rfl⟩) ?_; refine wpAny_take (i := 20) (v := undef) rfl (by kernel_rfl) (by kernel_rfl) (by kernel_rfl) (fun _ _ _ h => h) (Or.inr ⟨by kernel_rfl, rfl⟩) ?_; refine wpAny_take (i := 21) (v := undef) rfl (by kernel_rfl) (by kernel_rfl) (by kernel_rfl) (fun _ _ _ h => h) (Or.inr ⟨by kernel_rfl, rfl⟩) ?_; refine wpAny_take (i := 22) (v := undef) rfl (by kernel_rfl) (by kernel_rfl) (by kernel_rfl) (fun _ _ _ h => h) (Or.inr ⟨by kernel_rfl, rfl⟩) ?_; refine wpAny_take (i := 23) (v := undef) rfl (by kernel_rfl) (by kernel_rfl) (by kernel_rfl) (fun _ _ _ h => h) (Or.inr ⟨by kernel_rfl, rfl⟩) ?_) | (go_simp; go_at_call 28; (first | with_reducible refine (k0 _).mono ?_ | with_reducible refine (k1 _).mono ?_); rintro X w2 ⟨rfl, hb⟩; (first | have E := E.drw.on hb | have E := E.on hb); have C := E.cells; simp only [BC, CF] at C; clear hb)) | fail
          all_goals go_wp2
          all_goals go_ret
          all_goals exact ⟨by rw [HR.out]; simp [sdV_len, L1, L2], E.1⟩
        · rw [L2] at k1
          by_cases hlt : x.d < x.a
          · have g : decide (x.d < x.a) = true := by simp [hlt]
            go_wp2
            first | go_region_law (first | (go_simp; go_at_call 39; (first | with_reducible refine (c0 _).mono ?_ | with_reducible refine (c1 _).mono ?_); rintro X w1 ⟨rfl, hb⟩; (first | have E := E.drw.on hb | have E := E.on hb); have C := E.cells; simp only [BC, CF] at C; clear hb) | (go_simp; go_at_call 28; (first | with_reducible refine (k0 _).mono ?_ | with_reducible refine (k1 _).mono ?_); rintro X w2 ⟨rfl, hb⟩; (first | have E := E.drw.on hb | have E := E.on hb); have C := E.cells; simp only [BC, CF] at C; clear hb)) | fail
            all_goals go_wp2
            all_goals go_ret
            all_goals exact ⟨by rw [HR.out]; simp [sdV_len, L1, L2, g], E.1⟩
          · have g : decide (x.d < x.a) = false := by simp; omega
            have hs : sdV x.a x.d = true := by rw [sdV_len, L1, L2, g]; rfl
            have HS := Lib.hid hs
            clear hs
            go_wp2
            first | go_region_law (first | (go_simp; go_at_call 39; (first | with_reducible refine (c0 _).mono ?_ | with_reducible refine (c1 _).mono ?_); rintro X w1 ⟨rfl, hb⟩; (first | have E := E.drw.on hb | have E := E.on hb); have C := E.cells; simp only [BC, CF] at C; clear hb) | (go_simp; go_at_call 28; (first | with_reducible refine (k0 _).mono ?_ | with_reducible refine (k1 _).mono ?_); rintro X w2 ⟨rfl, hb⟩; (first | have E := E.drw.on hb | have E := E.on hb); have C := E.cells; simp only [BC, CF] at C; clear hb)) | fail
            all_goals go_wp2
            all_goals exact ⟨⟨1, rfl, by omega, fun _ => HS.out, fun h => by omega, fun h => by omega, E⟩, by simp [intOf]⟩
    · have C := E.cells
      simp [BC, CF] at C
      have c0 := fun W => rcoord1 x.a x.b x.c W
      have c1 := fun W => rcoord1 x.d x.e x.f W
      have k0 := fun W => rlen_b x.b W
      have k1 := fun W => rlen_b x.e W
      cases L1 : lenB x.b
      · rw [L1] at k0
        go_wp2
        first | go_region_law (first | (go_simp; go_at_call 39; (first | with_reducible refine (c0 _).mono ?_ | with_reducible refine (c1 _).mono ?_); rintro X w1 ⟨rfl, hb⟩; (first | have E := E.drw.on hb | have E := E.on hb); have C := E.cells; simp only [BC, CF] at C; clear hb) | (go_simp; go_at_call 28; (with_reducible refine (k0 _).mono ?_); rintro X w2 ⟨rfl, hb⟩; (first | have E := E.drw.on hb | have E := E.on hb); have C := E.cells; simp only [BC, CF] at C; clear hb; dsimp only; refine ‹∀ a w, wpAny _ _ _ _ _ _ a w → _› _ _ ?_; refine wpAny_take (i := 5) (v := .bool true) rfl (by kernel_rfl) (by kernel_rfl) (by kernel_rfl) (fun _ _ _ h => h) (Or.inl ⟨by kernel_rfl, fun w => by go_simp⟩) ?_; refine wpAny_take (i := 6) (v := .bool true) rfl (by kernel_rfl) (by kernel_rfl) (by kernel_rfl) (fun _ _ _ h => h) (Or.inl ⟨by kernel_rfl, fun w => by go_simp⟩) ?_; refine wpAny_take (i := 7) (v := undef) rfl (by kernel_rfl) (by kernel_rfl) (by kernel_rfl) (fun _ _ _ h => h) (Or.inr ⟨by kernel_rfl, rfl⟩) ?_; refine wpAny_take (i := 8) (v := undef) rfl (by kernel_rfl) (by kernel_rfl) (by kernel_rfl) (fun _ _ _ h => h) (Or.inr ⟨by kernel_rfl, rfl⟩) ?_; refine wpAny_take (i := 9) (v := undef) rfl (by kernel_rfl) (by kernel_rfl) (by kernel_rfl) (fun _ _ _ h => h) (Or.inr ⟨by kernel_rfl, rfl⟩) ?_; refine wpAny_take (i := 10) (v := undef) rfl (by kernel_rfl) (by kernel_rfl) (by kernel_rfl) (fun _ _ _ h => h) (Or.inr ⟨by kernel_rfl, rfl⟩) ?_; refine wpAny_take (i := 11) (v := undef) rfl (by kernel_rfl) (by kernel_rfl) (by kernel_rfl) (fun _ _ _ h => h) (Or.inr ⟨by kernel_rfl, rfl⟩) ?_; refine wpAny_take (i := 12) (v := undef) rfl (by kernel_rfl) (by kernel_rfl) (by kernel_rfl) (fun _ _ _ h => h) (Or.inr ⟨by kernel_rfl, rfl⟩) ?_; refine wpAny_take (i := 13) (v := .bool true) rfl (by kernel_rfl) (by kernel_rfl) (by kernel_rfl) (fun _ _ _ h => h) (Or.inl ⟨by kernel_rfl, fun w => by go_simp⟩) ?_; refine wpAny_take (i := 14) (v := .bool true) rfl (by kernel_rfl) (by kernel_rfl) (by kernel_rfl) (fun _ _ _ h => h) (Or.inl ⟨by kernel_rfl, fun w => by go_simp⟩) ?_; refine wpAny_take (i := 15) (v := undef) rfl (by kernel_rfl) (by kernel_rfl) (by kernel_rfl) (fun _ _ _ h => h) (Or.inr ⟨by kernel_rfl, rfl⟩) ?_; refine wpAny_take (i := 16) (v := undef) rfl (by kernel_rfl) (by kernel_rfl) (by kernel_rfl) (fun _ _ _ h => h) (Or.inr ⟨by kernel_rfl, rfl⟩) ?_; refine wpAny_take (i := 17) (v := undef) rfl (by kernel_rfl) (by kernel_rfl) (by kernel_rfl) (fun _ _ _ h => h) (Or.inr ⟨by kernel_rfl, rfl⟩) ?_; refine wpAny_take (i := 18) (v := undef) rfl (by kernel_rfl) (by kernel_rfl) (by kernel_rfl) (fun _ _ _ h => h) (Or.inr ⟨by kernel_rfl, rfl⟩) ?_; refine wpAny_take (i := 19) (v := undef) rfl (by kernel_rfl) (by kernel_rfl) (by kernel_rfl) (fun _ _ _ h => h) (Or.inr ⟨by kernel_rfl, rfl⟩) ?_; refine wpAny_take (i := 20) (v := undef) rfl (by kernel_rfl) (by kernel_rfl) (by kernel_rfl) (fun _ _ _ h => h) (Or.inr ⟨by kernel_rfl, rfl⟩) ?_; refine wpAny_take (i := 21) (v := undef) rfl (by kernel_rfl) (by kernel_rfl) (by kernel_rfl) (fun _ _ _ h => h) (Or.inr ⟨by kernel_rfl, rfl⟩) ?_; refine wpAny_take (i := 22) (v := undef) rfl (by kernel_rfl) (by kernel_rfl) (by kernel_rfl) (fun _ _ _ h => h) (Or.inr ⟨by kernel_rfl, rfl⟩) ?_; refine wpAny_take (i := 23) (v := undef) rfl (by kernel_rfl) (by kernel_rfl) (by kernel_rfl) (fun _ _ _ h => h) (Or.inr ⟨by kernel_rfl, rfl⟩) ?_)) | fail
        all_goals go_wp2
        all_goals go_ret
        all_goals exact ⟨by rw [HR.out]; simp [sdV_len, L1], E.1⟩
      · rw [L1] at k0
        cases L2 : lenB x.e
        · rw [L2] at k1
          go_wp2
          first | go_region_law (first | (go_simp; go_at_call 39; (first | with_reducible refine (c0 _).mono ?_ | with_reducible refine (c1 _).mono ?_); rintro X w1 ⟨rfl, hb⟩; (first | have E := E.drw.on hb | have E := E.on hb); have C := E.cells; simp only [BC, CF] at C; clear hb) | (go_simp; go_at_call 28; (with_reducible refine (k1 _).mono ?_); rintro X w2 ⟨rfl, hb⟩; (first | have E := E.drw.on hb | have E := E.on hb); have C := E.cells; simp only [BC, CF] at C; clear hb; dsimp only; refine ‹∀ a w, wpAny _ _ _ _ _ _ a w → _› _ _ ?_; refine wpAny_take (i := 12) (v := .bool true) rfl (by kernel_rfl) (by kernel_rfl) (by kernel_rfl) (fun _ _ _ h => h) (Or.inl ⟨by kernel_rfl, fun w => by go_simp⟩) ?_; refine wpAny_take (i := 13) (v := .bool true) rfl (by kernel_rfl) (by kernel_rfl) (by kernel_rfl) (fun _ _ _ h => h) (Or.inl ⟨by kernel_rfl, fun w => by go_simp⟩) ?_; refine wpAny_take (i := 14) (v := .bool true) rfl (by kernel_rfl) (by kernel_rfl) (by kernel_rfl) (fun _ _ _ h => h) (Or.inl ⟨by kernel_rfl, fun w => by go_simp⟩) ?_; refine wpAny_take (i := 15) (v := undef) rfl (by kernel_rfl) (by kernel_rfl) (by kernel_rfl) (fun _ _ _ h => h) (Or.inr ⟨by kernel_rfl, rfl⟩) ?_; refine wpAny_take (i := 16) (v := undef) rfl (by kernel_rfl) (by kernel_rfl) (by kernel_rfl) (fun _ _ _ h => h) (Or.inr ⟨by kernel_rfl, rfl⟩) ?_; refine wpAny_take (i := 17) (v := undef) rfl (by kernel_rfl) (by kernel_rfl) (by kernel_rfl) (fun _ _ _ h => h) (Or.inr ⟨by kernel_rfl, rfl⟩) ?_; refine wpAny_take (i := 18) (v := undef) rfl (by kernel_rfl) (by kernel_rfl) (by kernel_rfl) (fun _ _ _ h => h) (Or.inr ⟨by kernel_rfl, rfl⟩) ?_; refine wpAny_take (i := 19) (v := undef) rfl (by kernel_rfl) (by kernel_rfl) (by kernel_rfl) (fun _ _ _ h => h) (Or.inr ⟨by kernel_rfl, rfl⟩) ?_; refine wpAny_take (i := 20) (v := undef) rfl (by kernel_rfl) (by kernel_rfl) (by kernel_rfl) (fun _ _ _ h => h) (Or.inr ⟨by kernel_rfl, rfl⟩) ?_; refine wpAny_take (i := 21) (v := undef) rfl (by kernel_rfl) (by kernel_rfl) (by kernel_rfl) (fun _ _ _ h => h) (Or.inr ⟨by kernel_rfl, rfl⟩) ?_; refine wpAny_take (i := 22) (v := undef) rfl (by kernel_rfl) (by kernel_rfl) (by kernel_rfl) (fun _ _ _ h => h) (Or.inr ⟨by kernel_rfl, rfl⟩) ?_; refine wpAny_take (i := 23) (v := undef) rfl (by kernel_rfl) (by kernel_rfl) (by kernel_rfl) (fun _ _ _ h => h) (Or.inr ⟨by kernel_rfl, rfl⟩) ?_) | (go_simp; go_at_call 28; (first | with_reducible refine (k0 _).mono ?_ | with_reducible refine (k1 _).mono ?_); rintro X w2 ⟨rfl, hb⟩; (first | have E := E.drw.on hb | have E := E.on hb); have C := E.cells; simp only [BC, CF] at C; clear hb)) | fail
          all_goals go_wp2
          all_goals go_ret
          all_goals exact ⟨by rw [HR.out]; simp [sdV_len, L1, L2], E.1⟩
        · rw [L2] at k1
          by_cases hlt : x.e < x.b
          · have g : decide (x.e < x.b) = true := by simp [hlt]
            go_wp2
            first | go_region_law (first | (go_simp; go_at_call 39; (first | with_reducible refine (c0 _).mono ?_ | with_reducible refine (c1 _).mono ?_); rintro X w1 ⟨rfl, hb⟩; (first | have E := E.drw.on hb | have E := E.on hb); have C := E.cells; simp only [BC, CF] at C; clear hb) | (go_simp; go_at_call 28; (first | with_reducible refine (k0 _).mono ?_ | with_reducible refine (k1 _).mono ?_); rintro X w2 ⟨rfl, hb⟩; (first | have E := E.drw.on hb | have E := E.on hb); have C := E.cells; simp only [BC, CF] at C; clear hb)) | fail
            all_goals go_wp2
            all_goals go_ret
            all_goals exact ⟨by rw [HR.out]; simp [sdV_len, L1, L2, g], E.1⟩
          · have g : decide (x.e < x.b) = false := by simp; omega
            have hs : sdV x.b x.e = true := by rw [sdV_len, L1, L2, g]; rfl
            have HS := Lib.hid hs
            clear hs
            go_wp2
            first | go_region_law (first | (go_simp; go_at_call 39; (first | with_reducible refine (c0 _).mono ?_ | with_reducible refine (c1 _).mono ?_); rintro X w1 ⟨rfl, hb⟩; (first | have E := E.drw.on hb | have E := E.on hb); have C := E.cells; simp only [BC, CF] at C; clear hb) | (go_simp; go_at_call 28; (first | with_reducible refine (k0 _).mono ?_ | with_reducible refine (k1 _).mono ?_); rintro X w2 ⟨rfl, hb⟩; (first | have E := E.drw.on hb | have E := E.on hb); have C := E.cells; simp only [BC, CF] at C; clear hb)) | fail
            all_goals go_wp2
            all_goals exact ⟨⟨2, rfl, by omega, fun _ => h0 (by omega), fun _ => HS.out, fun h => by omega, E⟩, by simp [intOf]⟩
    · have C := E.cells
      simp [BC, CF] at C
      have c0 := fun W => rcoord2 x.a x.b x.c W
      have c1 := fun W => rcoord2 x.d x.e x.f W
      have k0 := fun W => rlen_b x.c W
      have k1 := fun W => rlen_b x.f W
      cases L1 : lenB x.c
      · rw [L1] at k0
        go_wp2
        first | go_region_law (first | (go_simp; go_at_call 39; (first | with_reducible refine (c0 _).mono ?_ | with_reducible refine (c1 _).mono ?_); rintro X w1 ⟨rfl, hb⟩; (first | have E := E.drw.on hb | have E := E.on hb); have C := E.cells; simp only [BC, CF] at C; clear hb) | (go_simp; go_at_call 28; (with_reducible refine (k0 _).mono ?_); rintro X w2 ⟨rfl, hb⟩; (first | have E := E.drw.on hb | have E := E.on hb); have C := E.cells; simp only [BC, CF] at C; clear hb; dsimp only; refine ‹∀ a w, wpAny _ _ _ _ _ _ a w → _› _ _ ?_; refine wpAny_take (i := 5) (v := .bool true) rfl (by kernel_rfl) (by kernel_rfl) (by kernel_rfl) (fun _ _ _ h => h) (Or.inl ⟨by kernel_rfl, fun w => by go_simp⟩) ?_; refine wpAny_take (i := 6) (v := .bool true) rfl (by kernel_rfl) (by kernel_rfl) (by kernel_rfl) (fun _ _ _ h => h) (Or.inl ⟨by kernel_rfl, fun w => by go_simp⟩) ?_; refine wpAny_take (i := 7) (v := undef) rfl (by kernel_rfl) (by kernel_rfl) (by kernel_rfl) (fun _ _ _ h => h) (Or.inr ⟨by kernel_rfl, rfl⟩) ?_; refine wpAny_take (i := 8) (v := undef) rfl (by kernel_rfl) (by kernel_rfl) (by kernel_rfl) (fun _ _ _ h => h) (Or.inr ⟨by kernel_rfl, rfl⟩) ?_; refine wpAny_take (i := 9) (v := undef) rfl (by kernel_rfl) (by kernel_rfl) (by kernel_rfl) (fun _ _ _ h => h) (Or.inr ⟨by kernel_rfl, rfl⟩) ?_; refine wpAny_take (i := 10) (v := undef) rfl (by kernel_rfl) (by kernel_rfl) (by kernel_rfl) (fun _ _ _ h => h) (Or.inr ⟨by kernel_rfl, rfl⟩) ?_; refine wpAny_take (i := 11) (v := undef) rfl (by kernel_rfl) (by kernel_rfl) (by kernel_rfl) (fun _ _ _ h => h) (Or.inr ⟨by kernel_rfl, rfl⟩) ?_; refine wpAny_take (i := 12) (v := undef) rfl (by kernel_rfl) (by kernel_rfl) (by kernel_rfl) (fun _ _ _ h => h) (Or.inr ⟨by kernel_rfl, rfl⟩) ?_; refine wpAny_take (i := 13) (v := .bool true) rfl (by kernel_rfl) (by kernel_rfl) (by kernel_rfl) (fun _ _ _ h => h) (Or.inl ⟨by kernel_rfl, fun w => by go_simp⟩) ?_; refine wpAny_take (i := 14) (v := .bool true) rfl (by kernel_rfl) (by kernel_rfl) (by kernel_rfl) (fun _ _ _ h => h) (Or.inl ⟨by kernel_rfl, fun w => by go_simp⟩) ?_; refine wpAny_take (i := 15) (v := undef) rfl (by kernel_rfl) (by kernel_rfl) (by kernel_rfl) (fun _ _ _ h => h) (Or.inr ⟨by kernel_rfl, rfl⟩) ?_; refine wpAny_take (i := 16) (v := undef) rfl (by kernel_rfl) (by kernel_rfl) (by kernel_rfl) (fun _ _ _ h => h) (Or.inr ⟨by kernel_rfl, rfl⟩) ?_; refine wpAny_take (i := 17) (v := undef) rfl (by kernel_rfl) (by kernel_rfl) (by kernel_rfl) (fun _ _ _ h => h) (Or.inr ⟨by kernel_rfl, rfl⟩) ?_; refine wpAny_take (i := 18) (v := undef) rfl (by kernel_rfl) (by kernel_rfl) (by kernel_rfl) (fun _ _ _ h => h) (Or.inr ⟨by kernel_rfl, rfl⟩) ?_; refine wpAny_take (i := 19) (v := undef) rfl (by kernel_rfl) (by kernel_rfl) (by kernel_rfl) (fun _ _ _ h => h) (Or.inr ⟨by kernel_rfl, rfl⟩) ?_; refine wpAny_take (i := 20) (v := undef) rfl (by kernel_rfl) (by kernel_rfl) (by kernel_rfl) (fun _ _ _ h => h) (Or.inr ⟨by kernel_rfl, rfl⟩) ?_; refine wpAny_take (i := 21) (v := undef) rfl (by kernel_rfl) (by kernel_rfl) (by kernel_rfl) (fun _ _ _ h => h) (Or.inr ⟨by kernel_rfl, rfl⟩) ?_; refine wpAny_take (i := 22) (v := undef) rfl (by kernel_rfl) (by kernel_rfl) (by kernel_rfl) (fun _ _ _ h => h) (Or.inr ⟨by kernel_rfl, rfl⟩) ?_; refine wpAny_take (i := 23) (v := undef) rfl (by kernel_rfl) (by kernel_rfl) (by kernel_rfl) (fun _ _ _ h => h) (Or.inr ⟨by kernel_rfl, rfl⟩) ?_)) | fail
        all_goals go_wp2
        all_goals go_ret
        all_goals exact ⟨by rw [HR.out]; simp [sdV_len, L1], E.1⟩
      · rw [L1] at k0
        cases L2 : lenB x.f
        · rw [L2] at k1
          go_wp2
          first | go_region_law (first | (go_simp; go_at_call 39; (first | with_reducible refine (c0 _).mono ?_ | with_reducible refine (c1 _).mono ?_); rintro X w1 ⟨rfl, hb⟩; (first | have E := E.drw.on hb | have E := E.on hb); have C := E.cells; simp only [BC, CF] at C; clear hb) | (go_simp; go_at_call 28; (with_reducible refine (k1 _).mono ?_); rintro X w2 ⟨rfl, hb⟩; (first | have E := E.drw.on hb | have E := E.on hb); have C := E.cells; simp only [BC, CF] at C; clear hb; dsimp only; refine ‹∀ a w, wpAny _ _ _ _ _ _ a w → _› _ _ ?_; refine wpAny_take (i := 12) (v := .bool true) rfl (by kernel_rfl) (by kernel_rfl) (by kernel_rfl) (fun _ _ _ h => h) (Or.inl ⟨by kernel_rfl, fun w => by go_simp⟩) ?_; refine wpAny_take (i := 13) (v := .bool true) rfl (by kernel_rfl) (by kernel_rfl) (by kernel_rfl) (fun _ _ _ h => h) (Or.inl ⟨by kernel_rfl, fun w => by go_simp⟩) ?_; refine wpAny_take (i := 14) (v := .bool true) rfl (by kernel_rfl) (by kernel_rfl) (by kernel_rfl) (fun _ _ _ h => h) (Or.inl ⟨by kernel_rfl, fun w => by go_simp⟩) ?_; refine wpAny_take (i := 15) (v := undef) rfl (by kernel_rfl) (by kernel_rfl) (by kernel_rfl) (fun _ _ _ h => h) (Or.inr ⟨by kernel_rfl, rfl⟩) ?_; refine wpAny_take (i := 16) (v := undef) rfl (by kernel_rfl) (by kernel_rfl) (by kernel_rfl) (fun _ _ _ h => h) (Or.inr ⟨by kernel_rfl, rfl⟩) ?_; refine wpAny_take (i := 17) (v := undef) rfl (by kernel_rfl) (by kernel_rfl) (by kernel_rfl) (fun _ _ _ h => h) (Or.inr ⟨by kernel_rfl, rfl⟩) ?_; refine wpAny_take (i := 18) (v := undef) rfl (by kernel_rfl) (by kernel_rfl) (by kernel_rfl) (fun _ _ _ h => h) (Or.inr ⟨by kernel_rfl, rfl⟩) ?_; refine wpAny_take (i := 19) (v := undef) rfl (by kernel_rfl) (by kernel_rfl) (by kernel_rfl) (fun _ _ _ h => h) (Or.inr ⟨by kernel_rfl, rfl⟩) ?_; refine wpAny_take (i := 20) (v := undef) rfl (by kernel_rfl) (by kernel_rfl) (by kernel_rfl) (fun _ _ _ h => h) (Or.inr ⟨by kernel_rfl, rfl⟩) ?_; refine wpAny_take (i := 21) (v := undef) rfl (by kernel_rfl) (by kernel_rfl) (by kernel_rfl) (fun _ _ _ h => h) (Or.inr ⟨by kernel_rfl, rfl⟩) ?_; refine wpAny_take (i := 22) (v := undef) rfl (by kernel_rfl) (by kernel_rfl) (by kernel_rfl) (fun _ _ _ h => h) (Or.inr ⟨by kernel_rfl, rfl⟩) ?_; refine wpAny_take (i := 23) (v := undef) rfl (by kernel_rfl) (by kernel_rfl) (by kernel_rfl) (fun _ _ _ h => h) (Or.inr ⟨by kernel_rfl, rfl⟩) ?_) | (go_simp; go_at_call 28; (first | with_reducible refine (k0 _).mono ?_ | with_reducible refine (k1 _).mono ?_); rintro X w2 ⟨rfl, hb⟩; (first | have E := E.drw.on hb | have E := E.on hb); have C := E.cells; simp only [BC, CF] at C; clear hb)) | fail
          all_goals go_wp2
          all_goals go_ret
          all_goals exact ⟨by rw [HR.out]; simp [sdV_len, L1, L2], E.1⟩
        · rw [L2] at k1
          by_cases hlt : x.f < x.c
          · have g : decide (x.f < x.c) = true := by simp [hlt]
            go_wp2
            first | go_region_law (first | (go_simp; go_at_call 39; (first | with_reducible refine (c0 _).mono ?_ | with_reducible refine (c1 _).mono ?_); rintro X w1 ⟨rfl, hb⟩; (first | have E := E.drw.on hb | have E := E.on hb); have C := E.cells; simp only [BC, CF] at C; clear hb) | (go_simp; go_at_call 28; (first | with_reducible refine (k0 _).mono ?_ | with_reducible refine (k1 _).mono ?_); rintro X w2 ⟨rfl, hb⟩; (first | have E := E.drw.on hb | have E := E.on hb); have C := E.cells; simp only [BC, CF] at C; clear hb)) | fail
            all_goals go_wp2
            all_goals go_ret
            all_goals exact ⟨by rw [HR.out]; simp [sdV_len, L1, L2, g], E.1⟩
          · have g : decide (x.f < x.c) = false := by simp; omega
            have hs : sdV x.c x.f = true := by rw [sdV_len, L1, L2, g]; rfl
            have HS := Lib.hid hs
            clear hs
            go_wp2
            first | go_region_law (first | (go_simp; go_at_call 39; (first | with_reducible refine (c0 _).mono ?_ | with_reducible refine (c1 _).mono ?_); rintro X w1 ⟨rfl, hb⟩; (first | have E := E.drw.on hb | have E := E.on hb); have C := E.cells; simp only [BC, CF] at C; clear hb) | (go_simp; go_at_call 28; (first | with_reducible refine (k0 _).mono ?_ | with_reducible refine (k1 _).mono ?_); rintro X w2 ⟨rfl, hb⟩; (first | have E := E.drw.on hb | have E := E.on hb); have C := E.cells; simp only [BC, CF] at C; clear hb)) | fail
            all_goals go_wp2
            all_goals exact ⟨⟨3, rfl, by omega, fun _ => h0 (by omega), fun _ => h1 (by omega), fun _ => HS.out, E⟩, by simp [intOf]⟩
    · go_wp2
      go_ret
      exact ⟨by rw [HR.out, h0 (by omega), h1 (by omega), h2 (by omega)]; rfl, E.1⟩
end Go.Proofs.Ytkgaahmehmbfjaa
