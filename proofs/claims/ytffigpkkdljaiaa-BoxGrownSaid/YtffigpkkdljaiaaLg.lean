/- BoxGrown. -/
import Derived.Test.YtffigpkkdljaiaaRf
import Derived.Test.YtffigpkkdljaiaaLm0
namespace Go.Proofs.Ytffigpkkdljaiaa
open Go.ChangeShapes Go.WideShapes Go.ChangeAt Go.RowKit
set_option linter.unusedVariables false
set_option linter.unusedSimpArgs false

theorem grow_gap (x y : Bx) (n : Int) : gapB (growB x n) y = gapB x y - n := by
  rw [gapB_max, gapB_max]; simp only [growB]; omega
theorem grow_con (x : Bx) (n : Int) (hn : 0 ≤ n) : conB (growB x n) x = true := by
  rw [con_i]; simp only [growB]; omega
theorem grow_twice (x : Bx) (n k : Int) : growB (growB x n) k = growB x (n + k) := by
  simp only [growB, Bx.mk.injEq]; omega
theorem gap_small {x y : Bx} (hx : x.ok = true) (hy : y.ok = true) : -2097152 ≤ gapB x y ∧ gapB x y ≤ 2097152 := by
  have h1 := gp_b hx hy 0
  have h2 := gp_b hx hy 1
  have h3 := gp_b hx hy 2
  unfold gapB; rw [mx_mx, mx_mx]; omega
set_option maxHeartbeats 16000000 in
set_option maxRecDepth 100000 in
theorem grown_no (x y : Bx) (n k : Int) (w : World) (hn : 0 ≤ n ∧ n ≤ 65535) (hk : 0 ≤ k ∧ k ≤ 65535) (hx : x.ok = true) (hy : y.ok = true) (hg : (growB x n).ok = false) : Calls Try.prog 5 #[x.val, y.val, .int .u16 n, .int .u16 k] w fun e w' => e = .returned (.bool true) ∧ Below w.heap.size w w' := by
  have E := ((Env.nil w).add w.heap.size 25 #[.int .i64 x.a, .int .i64 x.b, .int .i64 x.c, .int .i64 x.d, .int .i64 x.e, .int .i64 x.f] rfl).add (w.heap.size + 1) 25 #[.int .i64 y.a, .int .i64 y.b, .int .i64 y.c, .int .i64 y.d, .int .i64 y.e, .int .i64 y.f] (by simp)
  have h10 := fun W => awake_any W
  have h14x := fun W => rvalid_any x W
  have h14y := fun W => rvalid_any y W
  rw [hx] at h14x
  rw [hy] at h14y
  have W1 : IntKind.i64.wrap n = n := IntWalk.i64_in _ (by omega)
  have W2 : IntKind.i64.wrap k = k := IntWalk.i64_in _ (by omega)
  have W3 : IntKind.i64.wrap (n + k) = n + k := IntWalk.i64_in _ (by omega)
  have h21a := fun W => Grown_rng x n W hx (.inr hg)
  unfold zB at h21a
  clear hg W3
  unfold Bx.val at *
  have C := E.cells
  simp [BC, CF] at C
  go_enter Try.func5, Try.ntmps5
  go_wp2_with (first
    | (go_at_call 10; (with_reducible refine (h10 _).mono ?_); rintro X w10 ⟨rfl, hb⟩; replace E := E.on hb; replace C := E.cells; simp [BC, CF] at C; clear hb)
    | (go_at_call 14; (with_reducible refine (h14x _).mono ?_); rintro X w14 ⟨rfl, hb⟩; replace E := E.on hb; replace C := E.cells; simp [BC, CF] at C; clear hb)
    | (go_at_call 14; (with_reducible refine (h14y _).mono ?_); rintro X w15 ⟨rfl, hb⟩; replace E := E.on hb; replace C := E.cells; simp [BC, CF] at C; clear hb)
    | (go_at_call 21; (with_reducible refine (h21a _).mono ?_); rintro X w21 ⟨rfl, hb⟩; replace E := (E.on hb).add w21.heap.size 25 #[.int .i64 0, .int .i64 0, .int .i64 0, .int .i64 0, .int .i64 0, .int .i64 0] rfl; replace C := E.cells; simp [BC, CF] at C; clear hb))
  go_ret
  exact ⟨rfl, E.1⟩
set_option maxHeartbeats 16000000 in
set_option maxRecDepth 100000 in
theorem grown_yes (x y : Bx) (n k : Int) (w : World) (hn : 0 ≤ n ∧ n ≤ 65535) (hk : 0 ≤ k ∧ k ≤ 65535) (hx : x.ok = true) (hy : y.ok = true) (hg : (growB x n).ok = true) (hq : (growB x (n + k)).ok = true) : Calls Try.prog 5 #[x.val, y.val, .int .u16 n, .int .u16 k] w fun e w' => e = .returned (.bool true) ∧ Below w.heap.size w w' := by
  have E := ((Env.nil w).add w.heap.size 25 #[.int .i64 x.a, .int .i64 x.b, .int .i64 x.c, .int .i64 x.d, .int .i64 x.e, .int .i64 x.f] rfl).add (w.heap.size + 1) 25 #[.int .i64 y.a, .int .i64 y.b, .int .i64 y.c, .int .i64 y.d, .int .i64 y.e, .int .i64 y.f] (by simp)
  have h10 := fun W => awake_any W
  have h14x := fun W => rvalid_any x W
  have h14y := fun W => rvalid_any y W
  rw [hx] at h14x
  rw [hy] at h14y
  have W1 : IntKind.i64.wrap n = n := IntWalk.i64_in _ (by omega)
  have W2 : IntKind.i64.wrap k = k := IntWalk.i64_in _ (by omega)
  have W3 : IntKind.i64.wrap (n + k) = n + k := IntWalk.i64_in _ (by omega)
  have h21a := fun W => Grown_ok x n W hx hn.1 (by omega) hg
  have h11a := fun W => Gap_ok x y W hx hy
  have h11b := fun W => Gap_ok (growB x n) y W hg hy
  have h20 := fun W => Con_ok (growB x n) x W hg hx
  rw [grow_con x n hn.1] at h20
  rw [grow_gap] at h11b
  have hb := gap_small hx hy
  have W4 : IntKind.i64.wrap (gapB x y - n) = gapB x y - n := IntWalk.i64_in _ (by omega)
  have h21b := fun W => Grown_ok x (n + k) W hx (by omega) (by omega) hq
  have h21c := fun W => Grown_ok (growB x n) k W hg hk.1 (by omega) (by rw [grow_twice]; exact hq)
  rw [grow_twice] at h21c
  generalize growB x (n + k) = q at *
  generalize growB x n = g at *
  generalize gapB x y = G at *
  clear hb hg hq
  unfold Bx.val at *
  have C := E.cells
  simp [BC, CF] at C
  go_enter Try.func5, Try.ntmps5
  go_wp2_with (first
    | (go_at_call 10; (with_reducible refine (h10 _).mono ?_); rintro X w10 ⟨rfl, hb⟩; replace E := E.on hb; replace C := E.cells; simp [BC, CF] at C; clear hb)
    | (go_at_call 14; (with_reducible refine (h14x _).mono ?_); rintro X w14 ⟨rfl, hb⟩; replace E := E.on hb; replace C := E.cells; simp [BC, CF] at C; clear hb)
    | (go_at_call 14; (with_reducible refine (h14y _).mono ?_); rintro X w15 ⟨rfl, hb⟩; replace E := E.on hb; replace C := E.cells; simp [BC, CF] at C; clear hb)
    | (go_at_call 21; (with_reducible refine (h21a _).mono ?_); rintro X w21 ⟨rfl, hb⟩; replace E := (E.on hb).add w21.heap.size 25 #[.int .i64 g.a, .int .i64 g.b, .int .i64 g.c, .int .i64 g.d, .int .i64 g.e, .int .i64 g.f] rfl; replace C := E.cells; simp [BC, CF] at C; clear hb)
    | (go_at_call 11; (with_reducible refine (h11a _).mono ?_); rintro X w11 ⟨rfl, hb⟩; replace E := E.on hb; replace C := E.cells; simp [BC, CF] at C; clear hb)
    | (go_at_call 11; (with_reducible refine (h11b _).mono ?_); rintro X w12 ⟨rfl, hb⟩; replace E := E.on hb; replace C := E.cells; simp [BC, CF] at C; clear hb)
    | (go_at_call 20; (with_reducible refine (h20 _).mono ?_); rintro X w20 ⟨rfl, hb⟩; replace E := E.on hb; replace C := E.cells; simp [BC, CF] at C; clear hb)
    | (go_at_call 21; (with_reducible refine (h21b _).mono ?_); rintro X w22 ⟨rfl, hb⟩; replace E := (E.on hb).add w22.heap.size 25 #[.int .i64 q.a, .int .i64 q.b, .int .i64 q.c, .int .i64 q.d, .int .i64 q.e, .int .i64 q.f] rfl; replace C := E.cells; simp [BC, CF] at C; clear hb)
    | (go_at_call 21; (with_reducible refine (h21c _).mono ?_); rintro X w23 ⟨rfl, hb⟩; replace E := (E.on hb).add w23.heap.size 25 #[.int .i64 q.a, .int .i64 q.b, .int .i64 q.c, .int .i64 q.d, .int .i64 q.e, .int .i64 q.f] rfl; replace C := E.cells; simp [BC, CF] at C; clear hb))
  go_ret
  exact ⟨rfl, E.1⟩
set_option maxHeartbeats 16000000 in
set_option maxRecDepth 100000 in
theorem grown_part (x y : Bx) (n k : Int) (w : World) (hn : 0 ≤ n ∧ n ≤ 65535) (hk : 0 ≤ k ∧ k ≤ 65535) (hx : x.ok = true) (hy : y.ok = true) (hg : (growB x n).ok = true) (hq : (growB x (n + k)).ok = false) : Calls Try.prog 5 #[x.val, y.val, .int .u16 n, .int .u16 k] w fun e w' => e = .returned (.bool true) ∧ Below w.heap.size w w' := by
  have E := ((Env.nil w).add w.heap.size 25 #[.int .i64 x.a, .int .i64 x.b, .int .i64 x.c, .int .i64 x.d, .int .i64 x.e, .int .i64 x.f] rfl).add (w.heap.size + 1) 25 #[.int .i64 y.a, .int .i64 y.b, .int .i64 y.c, .int .i64 y.d, .int .i64 y.e, .int .i64 y.f] (by simp)
  have h10 := fun W => awake_any W
  have h14x := fun W => rvalid_any x W
  have h14y := fun W => rvalid_any y W
  rw [hx] at h14x
  rw [hy] at h14y
  have W1 : IntKind.i64.wrap n = n := IntWalk.i64_in _ (by omega)
  have W2 : IntKind.i64.wrap k = k := IntWalk.i64_in _ (by omega)
  have W3 : IntKind.i64.wrap (n + k) = n + k := IntWalk.i64_in _ (by omega)
  have h21a := fun W => Grown_ok x n W hx hn.1 (by omega) hg
  have h11a := fun W => Gap_ok x y W hx hy
  have h11b := fun W => Gap_ok (growB x n) y W hg hy
  have h20 := fun W => Con_ok (growB x n) x W hg hx
  rw [grow_con x n hn.1] at h20
  rw [grow_gap] at h11b
  have hb := gap_small hx hy
  have W4 : IntKind.i64.wrap (gapB x y - n) = gapB x y - n := IntWalk.i64_in _ (by omega)
  have h21b := fun W => Grown_rng x (n + k) W hx (.inr hq)
  have h21c := fun W => Grown_rng (growB x n) k W hg (.inr (by rw [grow_twice]; exact hq))
  unfold zB at h21b h21c
  generalize growB x n = g at *
  generalize gapB x y = G at *
  clear hb hg hq
  unfold Bx.val at *
  have C := E.cells
  simp [BC, CF] at C
  go_enter Try.func5, Try.ntmps5
  go_wp2_with (first
    | (go_at_call 10; (with_reducible refine (h10 _).mono ?_); rintro X w10 ⟨rfl, hb⟩; replace E := E.on hb; replace C := E.cells; simp [BC, CF] at C; clear hb)
    | (go_at_call 14; (with_reducible refine (h14x _).mono ?_); rintro X w14 ⟨rfl, hb⟩; replace E := E.on hb; replace C := E.cells; simp [BC, CF] at C; clear hb)
    | (go_at_call 14; (with_reducible refine (h14y _).mono ?_); rintro X w15 ⟨rfl, hb⟩; replace E := E.on hb; replace C := E.cells; simp [BC, CF] at C; clear hb)
    | (go_at_call 21; (with_reducible refine (h21a _).mono ?_); rintro X w21 ⟨rfl, hb⟩; replace E := (E.on hb).add w21.heap.size 25 #[.int .i64 g.a, .int .i64 g.b, .int .i64 g.c, .int .i64 g.d, .int .i64 g.e, .int .i64 g.f] rfl; replace C := E.cells; simp [BC, CF] at C; clear hb)
    | (go_at_call 11; (with_reducible refine (h11a _).mono ?_); rintro X w11 ⟨rfl, hb⟩; replace E := E.on hb; replace C := E.cells; simp [BC, CF] at C; clear hb)
    | (go_at_call 11; (with_reducible refine (h11b _).mono ?_); rintro X w12 ⟨rfl, hb⟩; replace E := E.on hb; replace C := E.cells; simp [BC, CF] at C; clear hb)
    | (go_at_call 20; (with_reducible refine (h20 _).mono ?_); rintro X w20 ⟨rfl, hb⟩; replace E := E.on hb; replace C := E.cells; simp [BC, CF] at C; clear hb)
    | (go_at_call 21; (with_reducible refine (h21b _).mono ?_); rintro X w22 ⟨rfl, hb⟩; replace E := (E.on hb).add w22.heap.size 25 #[.int .i64 0, .int .i64 0, .int .i64 0, .int .i64 0, .int .i64 0, .int .i64 0] rfl; replace C := E.cells; simp [BC, CF] at C; clear hb)
    | (go_at_call 21; (with_reducible refine (h21c _).mono ?_); rintro X w23 ⟨rfl, hb⟩; replace E := (E.on hb).add w23.heap.size 25 #[.int .i64 0, .int .i64 0, .int .i64 0, .int .i64 0, .int .i64 0, .int .i64 0] rfl; replace C := E.cells; simp [BC, CF] at C; clear hb))
  go_ret
  exact ⟨rfl, E.1⟩
set_option maxHeartbeats 8000000 in
set_option maxRecDepth 100000 in
theorem grown_bad (x y : Bx) (n k : Int) (w : World) (h : x.ok = false ∨ y.ok = false) : Calls Try.prog 5 #[x.val, y.val, .int .u16 n, .int .u16 k] w fun e w' => e = .returned (.bool true) ∧ Below w.heap.size w w' := by
  have E := ((Env.nil w).add w.heap.size 25 #[.int .i64 x.a, .int .i64 x.b, .int .i64 x.c, .int .i64 x.d, .int .i64 x.e, .int .i64 x.f] rfl).add (w.heap.size + 1) 25 #[.int .i64 y.a, .int .i64 y.b, .int .i64 y.c, .int .i64 y.d, .int .i64 y.e, .int .i64 y.f] (by simp)
  have h10 := fun W => awake_any W
  have h14x := fun W => rvalid_any x W
  have h14y := fun W => rvalid_any y W
  have C := E.cells
  simp [BC, CF] at C
  cases hx : x.ok
  · rw [hx] at h14x
    clear h14y hx h
    unfold Bx.val at *
    go_enter Try.func5, Try.ntmps5
    go_wp2_with (first
      | (go_at_call 10; (with_reducible refine (h10 _).mono ?_); rintro X w10 ⟨rfl, hb⟩; replace E := E.on hb; replace C := E.cells; simp [BC, CF] at C; clear hb)
      | (go_at_call 14; (with_reducible refine (h14x _).mono ?_); rintro X w14 ⟨rfl, hb⟩; replace E := E.on hb; replace C := E.cells; simp [BC, CF] at C; clear hb))
    go_ret
    exact ⟨rfl, E.1⟩
  · have hy : y.ok = false := by rcases h with h | h; rw [hx] at h; cases h; exact h
    rw [hx] at h14x
    rw [hy] at h14y
    clear hx hy h
    unfold Bx.val at *
    go_enter Try.func5, Try.ntmps5
    go_wp2_with (first
      | (go_at_call 10; (with_reducible refine (h10 _).mono ?_); rintro X w10 ⟨rfl, hb⟩; replace E := E.on hb; replace C := E.cells; simp [BC, CF] at C; clear hb)
      | (go_at_call 14; (with_reducible refine (h14x _).mono ?_); rintro X w14 ⟨rfl, hb⟩; replace E := E.on hb; replace C := E.cells; simp [BC, CF] at C; clear hb)
      | (go_at_call 14; (with_reducible refine (h14y _).mono ?_); rintro X w15 ⟨rfl, hb⟩; replace E := E.on hb; replace C := E.cells; simp [BC, CF] at C; clear hb))
    go_ret
    exact ⟨rfl, E.1⟩
theorem grown_walk (x y : Bx) (n k : Int) (w : World) (hn : 0 ≤ n ∧ n ≤ 65535) (hk : 0 ≤ k ∧ k ≤ 65535) : Calls Try.prog 5 #[x.val, y.val, .int .u16 n, .int .u16 k] w fun e w' => e = .returned (.bool true) ∧ Below w.heap.size w w' := by
  cases hx : x.ok
  · exact grown_bad x y n k w (.inl hx)
  · cases hy : y.ok
    · exact grown_bad x y n k w (.inr hy)
    · cases hg : (growB x n).ok
      · exact grown_no x y n k w hn hk hx hy hg
      · cases hq : (growB x (n + k)).ok
        · exact grown_part x y n k w hn hk hx hy hg hq
        · exact grown_yes x y n k w hn hk hx hy hg hq
end Go.Proofs.Ytffigpkkdljaiaa
