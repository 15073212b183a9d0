/- BoxDistances. -/
import Derived.Test.YtffigpkkdljaiaaRf
import Derived.Test.YtffigpkkdljaiaaRn
namespace Go.Proofs.Ytffigpkkdljaiaa
open Go.ChangeShapes Go.WideShapes Go.ChangeAt Go.RowKit
set_option linter.unusedVariables false
set_option linter.unusedSimpArgs false

set_option maxHeartbeats 16000000 in
set_option maxRecDepth 100000 in
theorem distances_ok (x y : Bx) (w : World) (hx : x.ok = true) (hy : y.ok = true) : Calls Try.prog 3 #[x.val, y.val] w fun e w' => e = .returned (.bool true) ∧ Below w.heap.size w w' := by
  have E := ((Env.nil w).add w.heap.size 25 #[.int .i64 x.a, .int .i64 x.b, .int .i64 x.c, .int .i64 x.d, .int .i64 x.e, .int .i64 x.f] rfl).add (w.heap.size + 1) 25 #[.int .i64 y.a, .int .i64 y.b, .int .i64 y.c, .int .i64 y.d, .int .i64 y.e, .int .i64 y.f] (by simp)
  have h10 := fun W => awake_any W
  have h11 := fun W => Gap_ok x y W hx hy
  have h12 := fun W => Square_ok x y W hx hy
  have h13 := fun W => Near_ok x y W hx hy
  have h14x := fun W => rvalid_any x W
  have h14y := fun W => rvalid_any y W
  have h15 := fun W => rnearest_any x y W hx hy
  have h16 := fun W => rgap_any x y W hx hy
  have h17 := fun W => rsquare_any x y W hx hy
  rw [hx] at h14x
  rw [hy] at h14y
  unfold ptv at h13 h15
  unfold Bx.val at *
  generalize gapB x y = G at *
  generalize sqB x y = S at *
  generalize (nr x y 0).1 = p0 at *
  generalize (nr x y 1).1 = p1 at *
  generalize (nr x y 2).1 = p2 at *
  generalize (nr x y 0).2 = q0 at *
  generalize (nr x y 1).2 = q1 at *
  generalize (nr x y 2).2 = q2 at *
  clear hx hy
  have C := E.cells
  simp [BC, CF] at C
  go_enter Try.func3, Try.ntmps3
  go_wp2_with (first
    | (go_at_call 10; (with_reducible refine (h10 _).mono ?_); rintro X w10 ⟨rfl, hb⟩; replace E := E.on hb; replace C := E.cells; simp [BC, CF] at C; clear hb)
    | (go_at_call 11; (with_reducible refine (h11 _).mono ?_); rintro X w11 ⟨rfl, hb⟩; replace E := E.on hb; replace C := E.cells; simp [BC, CF] at C; clear hb)
    | (go_at_call 12; (with_reducible refine (h12 _).mono ?_); rintro X w12 ⟨rfl, hb⟩; replace E := E.on hb; replace C := E.cells; simp [BC, CF] at C; clear hb)
    | (go_at_call 13; (with_reducible refine (h13 _).mono ?_); rintro X w13 ⟨rfl, hb⟩; replace E := (((E.on hb).add w13.heap.size 23 #[.int .i64 p0, .int .i64 p1, .int .i64 p2] rfl).add (w13.heap.size + 1) 23 #[.int .i64 q0, .int .i64 q1, .int .i64 q2] (by simp)); replace C := E.cells; simp [BC, CF] at C; clear hb)
    | (go_at_call 14; (with_reducible refine (h14x _).mono ?_); rintro X w14 ⟨rfl, hb⟩; replace E := E.on hb; replace C := E.cells; simp [BC, CF] at C; clear hb)
    | (go_at_call 14; (with_reducible refine (h14y _).mono ?_); rintro X w15 ⟨rfl, hb⟩; replace E := E.on hb; replace C := E.cells; simp [BC, CF] at C; clear hb)
    | (go_at_call 15; (with_reducible refine (h15 _).mono ?_); rintro X w16 ⟨rfl, hb⟩; replace E := (((E.on hb).add w16.heap.size 23 #[.int .i64 p0, .int .i64 p1, .int .i64 p2] rfl).add (w16.heap.size + 1) 23 #[.int .i64 q0, .int .i64 q1, .int .i64 q2] (by simp)); replace C := E.cells; simp [BC, CF] at C; clear hb)
    | (go_at_call 16; (with_reducible refine (h16 _).mono ?_); rintro X w17 ⟨rfl, hb⟩; replace E := E.on hb; replace C := E.cells; simp [BC, CF] at C; clear hb)
    | (go_at_call 17; (with_reducible refine (h17 _).mono ?_); rintro X w18 ⟨rfl, hb⟩; replace E := E.on hb; replace C := E.cells; simp [BC, CF] at C; clear hb))
  go_ret
  exact ⟨rfl, E.1⟩
set_option maxHeartbeats 16000000 in
set_option maxRecDepth 100000 in
theorem distances_bad (x y : Bx) (w : World) (h : x.ok = false ∨ y.ok = false) : Calls Try.prog 3 #[x.val, y.val] w fun e w' => e = .returned (.bool true) ∧ Below w.heap.size w w' := by
  have E := ((Env.nil w).add w.heap.size 25 #[.int .i64 x.a, .int .i64 x.b, .int .i64 x.c, .int .i64 x.d, .int .i64 x.e, .int .i64 x.f] rfl).add (w.heap.size + 1) 25 #[.int .i64 y.a, .int .i64 y.b, .int .i64 y.c, .int .i64 y.d, .int .i64 y.e, .int .i64 y.f] (by simp)
  have h10 := fun W => awake_any W
  have h11 := fun W => Gap_arg x y W h
  have h12 := fun W => Square_arg x y W h
  have h13 := fun W => Near_arg x y W h
  have h14x := fun W => rvalid_any x W
  have h14y := fun W => rvalid_any y W
  unfold ptv at h13
  have C := E.cells
  simp [BC, CF] at C
  cases hx : x.ok
  · rw [hx] at h14x
    clear h14y hx h
    unfold Bx.val at *
    go_enter Try.func3, Try.ntmps3
    go_wp2_with (first
      | (go_at_call 10; (with_reducible refine (h10 _).mono ?_); rintro X w10 ⟨rfl, hb⟩; replace E := E.on hb; replace C := E.cells; simp [BC, CF] at C; clear hb)
      | (go_at_call 11; (with_reducible refine (h11 _).mono ?_); rintro X w11 ⟨rfl, hb⟩; replace E := E.on hb; replace C := E.cells; simp [BC, CF] at C; clear hb)
      | (go_at_call 12; (with_reducible refine (h12 _).mono ?_); rintro X w12 ⟨rfl, hb⟩; replace E := E.on hb; replace C := E.cells; simp [BC, CF] at C; clear hb)
      | (go_at_call 13; (with_reducible refine (h13 _).mono ?_); rintro X w13 ⟨rfl, hb⟩; replace E := (((E.on hb).add w13.heap.size 23 #[.int .i64 0, .int .i64 0, .int .i64 0] rfl).add (w13.heap.size + 1) 23 #[.int .i64 0, .int .i64 0, .int .i64 0] (by simp)); replace C := E.cells; simp [BC, CF] at C; clear hb)
      | (go_at_call 14; (with_reducible refine (h14x _).mono ?_); rintro X w14 ⟨rfl, hb⟩; replace E := E.on hb; replace C := E.cells; simp [BC, CF] at C; clear hb))
    go_ret
    exact ⟨rfl, E.1⟩
  · have hy : y.ok = false := by rcases h with h | h; rw [hx] at h; cases h; exact h
    rw [hx] at h14x
    rw [hy] at h14y
    clear hx hy h
    unfold Bx.val at *
    go_enter Try.func3, Try.ntmps3
    go_wp2_with (first
      | (go_at_call 10; (with_reducible refine (h10 _).mono ?_); rintro X w10 ⟨rfl, hb⟩; replace E := E.on hb; replace C := E.cells; simp [BC, CF] at C; clear hb)
      | (go_at_call 11; (with_reducible refine (h11 _).mono ?_); rintro X w11 ⟨rfl, hb⟩; replace E := E.on hb; replace C := E.cells; simp [BC, CF] at C; clear hb)
      | (go_at_call 12; (with_reducible refine (h12 _).mono ?_); rintro X w12 ⟨rfl, hb⟩; replace E := E.on hb; replace C := E.cells; simp [BC, CF] at C; clear hb)
      | (go_at_call 13; (with_reducible refine (h13 _).mono ?_); rintro X w13 ⟨rfl, hb⟩; replace E := (((E.on hb).add w13.heap.size 23 #[.int .i64 0, .int .i64 0, .int .i64 0] rfl).add (w13.heap.size + 1) 23 #[.int .i64 0, .int .i64 0, .int .i64 0] (by simp)); replace C := E.cells; simp [BC, CF] at C; clear hb)
      | (go_at_call 14; (with_reducible refine (h14x _).mono ?_); rintro X w14 ⟨rfl, hb⟩; replace E := E.on hb; replace C := E.cells; simp [BC, CF] at C; clear hb)
      | (go_at_call 14; (with_reducible refine (h14y _).mono ?_); rintro X w15 ⟨rfl, hb⟩; replace E := E.on hb; replace C := E.cells; simp [BC, CF] at C; clear hb))
    go_ret
    exact ⟨rfl, E.1⟩
theorem distances_walk (x y : Bx) (w : World) : Calls Try.prog 3 #[x.val, y.val] w fun e w' => e = .returned (.bool true) ∧ Below w.heap.size w w' := by
  cases hx : x.ok
  · exact distances_bad x y w (.inl hx)
  · cases hy : y.ok
    · exact distances_bad x y w (.inr hy)
    · exact distances_ok x y w hx hy
end Go.Proofs.Ytffigpkkdljaiaa
