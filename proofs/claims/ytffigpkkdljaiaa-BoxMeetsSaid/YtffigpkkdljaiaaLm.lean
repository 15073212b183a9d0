/- BoxMeets. -/
import Derived.Test.YtffigpkkdljaiaaRf
import Derived.Test.YtffigpkkdljaiaaLm0
namespace Go.Proofs.Ytffigpkkdljaiaa
open Go.ChangeShapes Go.WideShapes Go.ChangeAt Go.RowKit
set_option linter.unusedVariables false
set_option linter.unusedSimpArgs false

set_option maxHeartbeats 16000000 in
set_option maxRecDepth 100000 in
theorem meets_yes (x y : Bx) (w : World) (hx : x.ok = true) (hy : y.ok = true) (hm : (meetB x y).ok = true) : Calls Try.prog 4 #[x.val, y.val] w fun e w' => e = .returned (.bool true) ∧ Below w.heap.size w w' := by
  have E := ((Env.nil w).add w.heap.size 25 #[.int .i64 x.a, .int .i64 x.b, .int .i64 x.c, .int .i64 x.d, .int .i64 x.e, .int .i64 x.f] rfl).add (w.heap.size + 1) 25 #[.int .i64 y.a, .int .i64 y.b, .int .i64 y.c, .int .i64 y.d, .int .i64 y.e, .int .i64 y.f] (by simp)
  have h10 := fun W => awake_any W
  have h11 := fun W => Gap_ok x y W hx hy
  have h12 := fun W => Square_ok x y W hx hy
  have h14x := fun W => rvalid_any x W
  have h14y := fun W => rvalid_any y W
  have h19 := fun W g h => hull_lit g x y W hx hy h
  have hh := hull_ok2 hx hy
  have h20x := fun W => Con_ok (hullB x y) x W hh hx
  have h20y := fun W => Con_ok (hullB x y) y W hh hy
  rw [hull_l] at h20x
  rw [hull_r] at h20y
  rw [hx] at h14x
  rw [hy] at h14y
  have hg := (meet_gap hx hy).1 hm
  have hs := (sq_gap hx hy).2 hg
  have h18 := fun W => Meet_ok x y W hx hy hm
  have h20m := fun W => Con_ok x (meetB x y) W hx hm
  have h20n := fun W => Con_ok y (meetB x y) W hy hm
  rw [meet_l] at h20m
  rw [meet_r] at h20n
  rw [hs] at h12
  generalize meetB x y = m at *
  generalize gapB x y = G at *
  have g1 : decide (G ≤ 0) = true := by simp [hg]
  clear hs hm hg
  generalize hullB x y = u at *
  unfold Bx.val at *
  clear hh
  have C := E.cells
  simp [BC, CF] at C
  go_enter Try.func4, Try.ntmps4
  go_wp2_with (first
    | (go_at_call 10; (with_reducible refine (h10 _).mono ?_); rintro X w10 ⟨rfl, hb⟩; replace E := E.on hb; replace C := E.cells; simp [BC, CF] at C; clear hb)
    | (go_at_call 11; (with_reducible refine (h11 _).mono ?_); rintro X w11 ⟨rfl, hb⟩; replace E := E.on hb; replace C := E.cells; simp [BC, CF] at C; clear hb)
    | (go_at_call 12; (with_reducible refine (h12 _).mono ?_); rintro X w12 ⟨rfl, hb⟩; replace E := E.on hb; replace C := E.cells; simp [BC, CF] at C; clear hb)
    | (go_at_call 14; (with_reducible refine (h14x _).mono ?_); rintro X w14 ⟨rfl, hb⟩; replace E := E.on hb; replace C := E.cells; simp [BC, CF] at C; clear hb)
    | (go_at_call 14; (with_reducible refine (h14y _).mono ?_); rintro X w15 ⟨rfl, hb⟩; replace E := E.on hb; replace C := E.cells; simp [BC, CF] at C; clear hb)
    | (go_at_call 18; (with_reducible refine (h18 _).mono ?_); rintro X w18 ⟨rfl, hb⟩; replace E := (E.on hb).add w18.heap.size 25 #[.int .i64 m.a, .int .i64 m.b, .int .i64 m.c, .int .i64 m.d, .int .i64 m.e, .int .i64 m.f] rfl; replace C := E.cells; simp [BC, CF] at C; clear hb)
    | (go_at_call 19; (with_reducible refine (h19 _ _ (has_new_at (by simp))).mono ?_); rintro X w19 ⟨rfl, hb⟩; replace E := ((E.more _).on hb).add w19.heap.size 25 #[.int .i64 u.a, .int .i64 u.b, .int .i64 u.c, .int .i64 u.d, .int .i64 u.e, .int .i64 u.f] rfl; replace C := E.cells; simp [BC, CF] at C; clear hb)
    | (go_at_call 20; (with_reducible refine (h20x _).mono ?_); rintro X w20 ⟨rfl, hb⟩; replace E := E.on hb; replace C := E.cells; simp [BC, CF] at C; clear hb)
    | (go_at_call 20; (with_reducible refine (h20y _).mono ?_); rintro X w21 ⟨rfl, hb⟩; replace E := E.on hb; replace C := E.cells; simp [BC, CF] at C; clear hb)
    | (go_at_call 20; (with_reducible refine (h20m _).mono ?_); rintro X w22 ⟨rfl, hb⟩; replace E := E.on hb; replace C := E.cells; simp [BC, CF] at C; clear hb)
    | (go_at_call 20; (with_reducible refine (h20n _).mono ?_); rintro X w23 ⟨rfl, hb⟩; replace E := E.on hb; replace C := E.cells; simp [BC, CF] at C; clear hb))
  go_ret
  exact ⟨rfl, E.1⟩
set_option maxHeartbeats 16000000 in
set_option maxRecDepth 100000 in
theorem meets_no (x y : Bx) (w : World) (hx : x.ok = true) (hy : y.ok = true) (hm : (meetB x y).ok = false) : Calls Try.prog 4 #[x.val, y.val] w fun e w' => e = .returned (.bool true) ∧ Below w.heap.size w w' := by
  have E := ((Env.nil w).add w.heap.size 25 #[.int .i64 x.a, .int .i64 x.b, .int .i64 x.c, .int .i64 x.d, .int .i64 x.e, .int .i64 x.f] rfl).add (w.heap.size + 1) 25 #[.int .i64 y.a, .int .i64 y.b, .int .i64 y.c, .int .i64 y.d, .int .i64 y.e, .int .i64 y.f] (by simp)
  have h10 := fun W => awake_any W
  have h11 := fun W => Gap_ok x y W hx hy
  have h12 := fun W => Square_ok x y W hx hy
  have h14x := fun W => rvalid_any x W
  have h14y := fun W => rvalid_any y W
  have h19 := fun W g h => hull_lit g x y W hx hy h
  have hh := hull_ok2 hx hy
  have h20x := fun W => Con_ok (hullB x y) x W hh hx
  have h20y := fun W => Con_ok (hullB x y) y W hh hy
  rw [hull_l] at h20x
  rw [hull_r] at h20y
  rw [hx] at h14x
  rw [hy] at h14y
  have hg : ¬ gapB x y ≤ 0 := fun h => by rw [(meet_gap hx hy).2 h] at hm; cases hm
  have hs : ¬ sqB x y = 0 := fun h => hg ((sq_gap hx hy).1 h)
  have h18 := fun W => Meet_none x y W hx hy hm
  unfold zB at h18
  generalize gapB x y = G at *
  generalize sqB x y = S at *
  have g1 : decide (G ≤ 0) = false := by simp; omega
  have g2 : decide (S = 0) = false := by simp [hs]
  have g3 : (S == 0) = false := by simp [hs]
  clear hs hm hg
  generalize hullB x y = u at *
  unfold Bx.val at *
  clear hh
  have C := E.cells
  simp [BC, CF] at C
  go_enter Try.func4, Try.ntmps4
  go_wp2_with (first
    | (go_at_call 10; (with_reducible refine (h10 _).mono ?_); rintro X w10 ⟨rfl, hb⟩; replace E := E.on hb; replace C := E.cells; simp [BC, CF] at C; clear hb)
    | (go_at_call 11; (with_reducible refine (h11 _).mono ?_); rintro X w11 ⟨rfl, hb⟩; replace E := E.on hb; replace C := E.cells; simp [BC, CF] at C; clear hb)
    | (go_at_call 12; (with_reducible refine (h12 _).mono ?_); rintro X w12 ⟨rfl, hb⟩; replace E := E.on hb; replace C := E.cells; simp [BC, CF] at C; clear hb)
    | (go_at_call 14; (with_reducible refine (h14x _).mono ?_); rintro X w14 ⟨rfl, hb⟩; replace E := E.on hb; replace C := E.cells; simp [BC, CF] at C; clear hb)
    | (go_at_call 14; (with_reducible refine (h14y _).mono ?_); rintro X w15 ⟨rfl, hb⟩; replace E := E.on hb; replace C := E.cells; simp [BC, CF] at C; clear hb)
    | (go_at_call 18; (with_reducible refine (h18 _).mono ?_); rintro X w18 ⟨rfl, hb⟩; replace E := (E.on hb).add w18.heap.size 25 #[.int .i64 0, .int .i64 0, .int .i64 0, .int .i64 0, .int .i64 0, .int .i64 0] rfl; replace C := E.cells; simp [BC, CF] at C; clear hb)
    | (go_at_call 19; (with_reducible refine (h19 _ _ (has_new_at (by simp))).mono ?_); rintro X w19 ⟨rfl, hb⟩; replace E := ((E.more _).on hb).add w19.heap.size 25 #[.int .i64 u.a, .int .i64 u.b, .int .i64 u.c, .int .i64 u.d, .int .i64 u.e, .int .i64 u.f] rfl; replace C := E.cells; simp [BC, CF] at C; clear hb)
    | (go_at_call 20; (with_reducible refine (h20x _).mono ?_); rintro X w20 ⟨rfl, hb⟩; replace E := E.on hb; replace C := E.cells; simp [BC, CF] at C; clear hb)
    | (go_at_call 20; (with_reducible refine (h20y _).mono ?_); rintro X w21 ⟨rfl, hb⟩; replace E := E.on hb; replace C := E.cells; simp [BC, CF] at C; clear hb))
  go_ret
  exact ⟨rfl, E.1⟩
set_option maxHeartbeats 8000000 in
set_option maxRecDepth 100000 in
theorem meets_bad (x y : Bx) (w : World) (h : x.ok = false ∨ y.ok = false) : Calls Try.prog 4 #[x.val, y.val] w fun e w' => e = .returned (.bool true) ∧ Below w.heap.size w w' := by
  have E := ((Env.nil w).add w.heap.size 25 #[.int .i64 x.a, .int .i64 x.b, .int .i64 x.c, .int .i64 x.d, .int .i64 x.e, .int .i64 x.f] rfl).add (w.heap.size + 1) 25 #[.int .i64 y.a, .int .i64 y.b, .int .i64 y.c, .int .i64 y.d, .int .i64 y.e, .int .i64 y.f] (by simp)
  have h10 := fun W => awake_any W
  have h14x := fun W => rvalid_any x W
  have h14y := fun W => rvalid_any y W
  have C := E.cells
  simp [BC, CF] at C
  cases hx : x.ok
  · rw [hx] at h14x
    clear h14y hx h
    unfold Bx.val at *
    go_enter Try.func4, Try.ntmps4
    go_wp2_with (first
      | (go_at_call 10; (with_reducible refine (h10 _).mono ?_); rintro X w10 ⟨rfl, hb⟩; replace E := E.on hb; replace C := E.cells; simp [BC, CF] at C; clear hb)
      | (go_at_call 14; (with_reducible refine (h14x _).mono ?_); rintro X w14 ⟨rfl, hb⟩; replace E := E.on hb; replace C := E.cells; simp [BC, CF] at C; clear hb))
    go_ret
    exact ⟨rfl, E.1⟩
  · have hy : y.ok = false := by rcases h with h | h; rw [hx] at h; cases h; exact h
    rw [hx] at h14x
    rw [hy] at h14y
    clear hx hy h
    unfold Bx.val at *
    go_enter Try.func4, Try.ntmps4
    go_wp2_with (first
      | (go_at_call 10; (with_reducible refine (h10 _).mono ?_); rintro X w10 ⟨rfl, hb⟩; replace E := E.on hb; replace C := E.cells; simp [BC, CF] at C; clear hb)
      | (go_at_call 14; (with_reducible refine (h14x _).mono ?_); rintro X w14 ⟨rfl, hb⟩; replace E := E.on hb; replace C := E.cells; simp [BC, CF] at C; clear hb)
      | (go_at_call 14; (with_reducible refine (h14y _).mono ?_); rintro X w15 ⟨rfl, hb⟩; replace E := E.on hb; replace C := E.cells; simp [BC, CF] at C; clear hb))
    go_ret
    exact ⟨rfl, E.1⟩
theorem meets_walk (x y : Bx) (w : World) : Calls Try.prog 4 #[x.val, y.val] w fun e w' => e = .returned (.bool true) ∧ Below w.heap.size w w' := by
  cases hx : x.ok
  · exact meets_bad x y w (.inl hx)
  · cases hy : y.ok
    · exact meets_bad x y w (.inr hy)
    · cases hm : (meetB x y).ok
      · exact meets_no x y w hx hy hm
      · exact meets_yes x y w hx hy hm
end Go.Proofs.Ytffigpkkdljaiaa
