/- The reference: Gap and Square. -/
import Derived.Test.YtffigpkkdljaiaaRa
namespace Go.Proofs.Ytffigpkkdljaiaa
open Go.ChangeShapes Go.WideShapes Go.ChangeAt Go.RowKit
set_option linter.unusedVariables false
set_option linter.unusedSimpArgs false

theorem pq_max (g : Int) : max 0 g * max 0 g = pq g := by
  unfold pq
  split
  · rename_i h; rw [Int.max_eq_right (by omega)]
  · rename_i h; rw [Int.max_eq_left (by omega)]; rfl
theorem pq_wrap {g : Int} (h : -2097152 ≤ g ∧ g ≤ 2097152) : IntKind.i64.wrap (max 0 g * max 0 g) = pq g := by
  rw [pq_max]
  exact IntWalk.i64_in _ (by have := pq_b h; omega)
set_option maxHeartbeats 16000000 in
set_option maxRecDepth 100000 in
theorem rgap_any (x y : Bx) (w : World) (hx : x.ok = true) (hy : y.ok = true) : Calls Try.prog 16 #[x.val, y.val] w fun E w' => E = .returned (.int .i64 (gapB x y)) ∧ Below w.heap.size w w' := by
  have E := ((Env.nil w).add w.heap.size 25 #[.int .i64 x.a, .int .i64 x.b, .int .i64 x.c, .int .i64 x.d, .int .i64 x.e, .int .i64 x.f] rfl).add (w.heap.size + 1) 25 #[.int .i64 y.a, .int .i64 y.b, .int .i64 y.c, .int .i64 y.d, .int .i64 y.e, .int .i64 y.f] (by simp)
  have k0 := fun W => ralong0 x y W hx hy
  have k1 := fun W => ralong1 x y W hx hy
  have k2 := fun W => ralong2 x y W hx hy
  rw [show gapB x y = max (gp x y 0) (max (gp x y 1) (gp x y 2)) by unfold gapB mx; split <;> split <;> omega]
  unfold Bx.val at *
  generalize gp x y 0 = g0 at *
  generalize gp x y 1 = g1 at *
  generalize gp x y 2 = g2 at *
  have C := E.cells
  simp [BC, CF] at C
  go_enter Try.func16, Try.ntmps16
  go_upto_region 1 with fail
  go_region_held3 (fun W' => W'.cell? ⟨w.heap.size, 0, none⟩ = some (.int .i64 x.a) ∧ W'.cell? ⟨w.heap.size, 1, none⟩ = some (.int .i64 x.b) ∧ W'.cell? ⟨w.heap.size, 2, none⟩ = some (.int .i64 x.c) ∧ W'.cell? ⟨w.heap.size, 3, none⟩ = some (.int .i64 x.d) ∧ W'.cell? ⟨w.heap.size, 4, none⟩ = some (.int .i64 x.e) ∧ W'.cell? ⟨w.heap.size, 5, none⟩ = some (.int .i64 x.f) ∧ W'.cell? ⟨w.heap.size + 1, 0, none⟩ = some (.int .i64 y.a) ∧ W'.cell? ⟨w.heap.size + 1, 1, none⟩ = some (.int .i64 y.b) ∧ W'.cell? ⟨w.heap.size + 1, 2, none⟩ = some (.int .i64 y.c) ∧ W'.cell? ⟨w.heap.size + 1, 3, none⟩ = some (.int .i64 y.d) ∧ W'.cell? ⟨w.heap.size + 1, 4, none⟩ = some (.int .i64 y.e) ∧ W'.cell? ⟨w.heap.size + 1, 5, none⟩ = some (.int .i64 y.f) ∧ Env w W' [⟨w.heap.size + 1, 25, #[.int .i64 y.a, .int .i64 y.b, .int .i64 y.c, .int .i64 y.d, .int .i64 y.e, .int .i64 y.f]⟩, ⟨w.heap.size, 25, #[.int .i64 x.a, .int .i64 x.b, .int .i64 x.c, .int .i64 x.d, .int .i64 x.e, .int .i64 x.f]⟩]) (first | exact cells_xy (by go_split_ands; assumption) | exact cells_xy E | exact cells_xy E.drw  ) (((go_at_call 46; first | with_reducible refine (k0 _).mono ?_ | with_reducible refine (k1 _).mono ?_ | with_reducible refine (k2 _).mono ?_); rintro X w1 ⟨rfl, hb⟩; (first | have E := E.drw.on hb | have E := E.on hb); clear hb))
  all_goals go_wp2
  all_goals go_ret
  all_goals exact ⟨ret_one (by rfl), E.1⟩
set_option maxHeartbeats 16000000 in
set_option maxRecDepth 100000 in
theorem rsquare_any (x y : Bx) (w : World) (hx : x.ok = true) (hy : y.ok = true) : Calls Try.prog 17 #[x.val, y.val] w fun E w' => E = .returned (.int .i64 (sqB x y)) ∧ Below w.heap.size w w' := by
  have E := ((Env.nil w).add w.heap.size 25 #[.int .i64 x.a, .int .i64 x.b, .int .i64 x.c, .int .i64 x.d, .int .i64 x.e, .int .i64 x.f] rfl).add (w.heap.size + 1) 25 #[.int .i64 y.a, .int .i64 y.b, .int .i64 y.c, .int .i64 y.d, .int .i64 y.e, .int .i64 y.f] (by simp)
  have p0 := pq_b (gp_b hx hy 0)
  have p1 := pq_b (gp_b hx hy 1)
  have p2 := pq_b (gp_b hx hy 2)
  obtain ⟨S, s0, hS0, hS1, hS2, e, hS⟩ : ∃ S : Nat → Int, S 0 = 0 ∧ S 0 + pq (gp x y 0) = S 1 ∧ S 1 + pq (gp x y 1) = S 2 ∧ S 2 + pq (gp x y 2) = S 3 ∧ sqB x y = S 3 ∧ Hid (∀ i, i ≤ 3 → 0 ≤ S i ∧ S i ≤ 9000000000000000000) :=
    ⟨fun i => match i with | 0 => 0 | 1 => pq (gp x y 0) | 2 => pq (gp x y 0) + pq (gp x y 1) | _ => pq (gp x y 0) + pq (gp x y 1) + pq (gp x y 2), rfl, by simp, rfl, rfl, rfl, Lib.hid (fun i hi => by
      rcases (by omega : i = 0 ∨ i = 1 ∨ i = 2 ∨ i = 3) with rfl | rfl | rfl | rfl
      all_goals (simp only; omega))⟩
  rw [e]
  clear e p0 p1 p2
  have e0 := s0
  unfold Bx.val
  go_enter Try.func17, Try.ntmps17
  go_wp2
  go_loopw [5, 6] (fun v5 v6 wr => ∃ i : Nat, v6 = .int .i64 (i : Int) ∧ v5 = .int .i64 (S i) ∧ i ≤ 3 ∧ Env w wr [⟨w.heap.size + 1, 25, #[.int .i64 y.a, .int .i64 y.b, .int .i64 y.c, .int .i64 y.d, .int .i64 y.e, .int .i64 y.f]⟩, ⟨w.heap.size, 25, #[.int .i64 x.a, .int .i64 x.b, .int .i64 x.c, .int .i64 x.d, .int .i64 x.e, .int .i64 x.f]⟩]) (fun _ v _ => 3 - (intOf v).toNat)
  case atStart => exact ⟨0, rfl, by rw [e0], by omega, E⟩
  case round =>
    clear E
    obtain ⟨i, rfl, rfl, hi, E⟩ := hrel
    clear s0 e0
    rcases (by omega : i = 0 ∨ i = 1 ∨ i = 2 ∨ i = 3) with rfl | rfl | rfl | rfl
    · have C := E.cells
      simp [BC, CF] at C
      have k0 := fun W => ralong0 x y W hx hy
      unfold Bx.val at k0
      have W1 := pq_wrap (gp_b hx hy 0)
      have q := pq_b (gp_b hx hy 0)
      have W2 : IntKind.i64.wrap (S 0 + pq (gp x y 0)) = S 1 := by rw [IntWalk.i64_in _ (by rw [hS0]; have := hS.out 1 (by omega); omega)]; exact hS0
      generalize pq (gp x y 0) = Q at *
      generalize gp x y 0 = G at *
      clear q hS0 hS1 hS2
      go_wp2_with (go_at_call 46; (with_reducible refine (k0 _).mono ?_); rintro X w1 ⟨rfl, hb⟩; replace E := E.on hb; clear hb)
      exact ⟨⟨1, rfl, rfl, by omega, E⟩, by simp [intOf]⟩
    · have C := E.cells
      simp [BC, CF] at C
      have k0 := fun W => ralong1 x y W hx hy
      unfold Bx.val at k0
      have W1 := pq_wrap (gp_b hx hy 1)
      have q := pq_b (gp_b hx hy 1)
      have W2 : IntKind.i64.wrap (S 1 + pq (gp x y 1)) = S 2 := by rw [IntWalk.i64_in _ (by rw [hS1]; have := hS.out 2 (by omega); omega)]; exact hS1
      generalize pq (gp x y 1) = Q at *
      generalize gp x y 1 = G at *
      clear q hS0 hS1 hS2
      go_wp2_with (go_at_call 46; (with_reducible refine (k0 _).mono ?_); rintro X w1 ⟨rfl, hb⟩; replace E := E.on hb; clear hb)
      exact ⟨⟨2, rfl, rfl, by omega, E⟩, by simp [intOf]⟩
    · have C := E.cells
      simp [BC, CF] at C
      have k0 := fun W => ralong2 x y W hx hy
      unfold Bx.val at k0
      have W1 := pq_wrap (gp_b hx hy 2)
      have q := pq_b (gp_b hx hy 2)
      have W2 : IntKind.i64.wrap (S 2 + pq (gp x y 2)) = S 3 := by rw [IntWalk.i64_in _ (by rw [hS2]; have := hS.out 3 (by omega); omega)]; exact hS2
      generalize pq (gp x y 2) = Q at *
      generalize gp x y 2 = G at *
      clear q hS0 hS1 hS2
      go_wp2_with (go_at_call 46; (with_reducible refine (k0 _).mono ?_); rintro X w1 ⟨rfl, hb⟩; replace E := E.on hb; clear hb)
      exact ⟨⟨3, rfl, rfl, by omega, E⟩, by simp [intOf]⟩
    · go_wp2
      go_ret
      exact ⟨rfl, E.1⟩
end Go.Proofs.Ytffigpkkdljaiaa
