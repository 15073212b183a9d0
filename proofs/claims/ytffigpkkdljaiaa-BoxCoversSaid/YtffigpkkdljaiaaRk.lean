/- The reference: Contains. -/
import Derived.Test.YtffigpkkdljaiaaRm
namespace Go.Proofs.Ytffigpkkdljaiaa
open Go.ChangeShapes Go.WideShapes Go.ChangeAt Go.RowKit
set_option linter.unusedVariables false
set_option linter.unusedSimpArgs false

theorem con_meet {x y : Bx} : conB x y = true ↔ meetB x y = y := by
  rw [con_i]
  cases y
  simp only [meetB, Bx.mk.injEq, mx_mx, mn_mn]
  omega
set_option maxHeartbeats 8000000 in
set_option maxRecDepth 100000 in
theorem rcon_none (x y : Bx) (w : World) (hm : ∀ W, Calls Try.prog 30 #[x.val, y.val] W fun E w' => E = .returned (.tuple #[zB.val, .bool false]) ∧ Below W.heap.size W w') :
    Calls Try.prog 31 #[x.val, y.val] w fun E w' => E = .returned (.bool false) ∧ Below w.heap.size w w' := by
  have E := ((Env.nil w).add w.heap.size 25 #[.int .i64 x.a, .int .i64 x.b, .int .i64 x.c, .int .i64 x.d, .int .i64 x.e, .int .i64 x.f] rfl).add (w.heap.size + 1) 25 #[.int .i64 y.a, .int .i64 y.b, .int .i64 y.c, .int .i64 y.d, .int .i64 y.e, .int .i64 y.f] (by simp)
  have C := E.cells
  simp [BC, CF] at C
  unfold Bx.val zB at *
  dsimp only at hm
  go_enter Try.func31, Try.ntmps31
  go_wp2_with (go_at_call 30; (with_reducible refine (hm _).mono ?_); rintro X w1 ⟨rfl, hb⟩; replace E := (E.on hb).add w1.heap.size 25 #[.int .i64 0, .int .i64 0, .int .i64 0, .int .i64 0, .int .i64 0, .int .i64 0] rfl; replace C := E.cells; simp [BC, CF] at C; clear hb)
  go_ret
  exact ⟨rfl, E.1⟩
set_option maxHeartbeats 8000000 in
set_option maxRecDepth 100000 in
theorem rcon_yes (x y : Bx) (w : World) (hm : ∀ W, Calls Try.prog 30 #[x.val, y.val] W fun E w' => E = .returned (.tuple #[y.val, .bool true]) ∧ Below W.heap.size W w') :
    Calls Try.prog 31 #[x.val, y.val] w fun E w' => E = .returned (.bool true) ∧ Below w.heap.size w w' := by
  have E := ((Env.nil w).add w.heap.size 25 #[.int .i64 x.a, .int .i64 x.b, .int .i64 x.c, .int .i64 x.d, .int .i64 x.e, .int .i64 x.f] rfl).add (w.heap.size + 1) 25 #[.int .i64 y.a, .int .i64 y.b, .int .i64 y.c, .int .i64 y.d, .int .i64 y.e, .int .i64 y.f] (by simp)
  have C := E.cells
  simp [BC, CF] at C
  unfold Bx.val at *
  go_enter Try.func31, Try.ntmps31
  go_wp2_with (go_at_call 30; (with_reducible refine (hm _).mono ?_); rintro X w1 ⟨rfl, hb⟩; replace E := (E.on hb).add w1.heap.size 25 #[.int .i64 y.a, .int .i64 y.b, .int .i64 y.c, .int .i64 y.d, .int .i64 y.e, .int .i64 y.f] rfl; replace C := E.cells; simp [BC, CF] at C; clear hb)
  go_ret
  exact ⟨by simp, E.1⟩
set_option maxHeartbeats 8000000 in
set_option maxRecDepth 100000 in
theorem rcon_no0 (x y m : Bx) (w : World) (hm : ∀ W, Calls Try.prog 30 #[x.val, y.val] W fun E w' => E = .returned (.tuple #[.agg #[.int .i64 m.a, .int .i64 m.b, .int .i64 m.c, .int .i64 m.d, .int .i64 m.e, .int .i64 m.f], .bool true]) ∧ Below W.heap.size W w') (hj : ¬ m.a = y.a) :
    Calls Try.prog 31 #[x.val, y.val] w fun E w' => E = .returned (.bool false) ∧ Below w.heap.size w w' := by
  have E := ((Env.nil w).add w.heap.size 25 #[.int .i64 x.a, .int .i64 x.b, .int .i64 x.c, .int .i64 x.d, .int .i64 x.e, .int .i64 x.f] rfl).add (w.heap.size + 1) 25 #[.int .i64 y.a, .int .i64 y.b, .int .i64 y.c, .int .i64 y.d, .int .i64 y.e, .int .i64 y.f] (by simp)
  have C := E.cells
  simp [BC, CF] at C
  unfold Bx.val at *
  have n1 : (m.a == y.a) = false := by simpa using hj
  have n2 : decide (m.a = y.a) = false := decide_eq_false hj
  go_enter Try.func31, Try.ntmps31
  go_wp2_with (go_at_call 30; (with_reducible refine (hm _).mono ?_); rintro X w1 ⟨rfl, hb⟩; replace E := (E.on hb).add w1.heap.size 25 #[.int .i64 m.a, .int .i64 m.b, .int .i64 m.c, .int .i64 m.d, .int .i64 m.e, .int .i64 m.f] rfl; replace C := E.cells; simp [BC, CF] at C; clear hb)
  go_ret
  exact ⟨by simp [hj], E.1⟩
set_option maxHeartbeats 8000000 in
set_option maxRecDepth 100000 in
theorem rcon_no1 (x y m : Bx) (w : World) (hm : ∀ W, Calls Try.prog 30 #[x.val, y.val] W fun E w' => E = .returned (.tuple #[.agg #[.int .i64 y.a, .int .i64 m.b, .int .i64 m.c, .int .i64 m.d, .int .i64 m.e, .int .i64 m.f], .bool true]) ∧ Below W.heap.size W w') (hj : ¬ m.b = y.b) :
    Calls Try.prog 31 #[x.val, y.val] w fun E w' => E = .returned (.bool false) ∧ Below w.heap.size w w' := by
  have E := ((Env.nil w).add w.heap.size 25 #[.int .i64 x.a, .int .i64 x.b, .int .i64 x.c, .int .i64 x.d, .int .i64 x.e, .int .i64 x.f] rfl).add (w.heap.size + 1) 25 #[.int .i64 y.a, .int .i64 y.b, .int .i64 y.c, .int .i64 y.d, .int .i64 y.e, .int .i64 y.f] (by simp)
  have C := E.cells
  simp [BC, CF] at C
  unfold Bx.val at *
  have n1 : (m.b == y.b) = false := by simpa using hj
  have n2 : decide (m.b = y.b) = false := decide_eq_false hj
  go_enter Try.func31, Try.ntmps31
  go_wp2_with (go_at_call 30; (with_reducible refine (hm _).mono ?_); rintro X w1 ⟨rfl, hb⟩; replace E := (E.on hb).add w1.heap.size 25 #[.int .i64 y.a, .int .i64 m.b, .int .i64 m.c, .int .i64 m.d, .int .i64 m.e, .int .i64 m.f] rfl; replace C := E.cells; simp [BC, CF] at C; clear hb)
  go_ret
  exact ⟨by simp [hj], E.1⟩
set_option maxHeartbeats 8000000 in
set_option maxRecDepth 100000 in
theorem rcon_no2 (x y m : Bx) (w : World) (hm : ∀ W, Calls Try.prog 30 #[x.val, y.val] W fun E w' => E = .returned (.tuple #[.agg #[.int .i64 y.a, .int .i64 y.b, .int .i64 m.c, .int .i64 m.d, .int .i64 m.e, .int .i64 m.f], .bool true]) ∧ Below W.heap.size W w') (hj : ¬ m.c = y.c) :
    Calls Try.prog 31 #[x.val, y.val] w fun E w' => E = .returned (.bool false) ∧ Below w.heap.size w w' := by
  have E := ((Env.nil w).add w.heap.size 25 #[.int .i64 x.a, .int .i64 x.b, .int .i64 x.c, .int .i64 x.d, .int .i64 x.e, .int .i64 x.f] rfl).add (w.heap.size + 1) 25 #[.int .i64 y.a, .int .i64 y.b, .int .i64 y.c, .int .i64 y.d, .int .i64 y.e, .int .i64 y.f] (by simp)
  have C := E.cells
  simp [BC, CF] at C
  unfold Bx.val at *
  have n1 : (m.c == y.c) = false := by simpa using hj
  have n2 : decide (m.c = y.c) = false := decide_eq_false hj
  go_enter Try.func31, Try.ntmps31
  go_wp2_with (go_at_call 30; (with_reducible refine (hm _).mono ?_); rintro X w1 ⟨rfl, hb⟩; replace E := (E.on hb).add w1.heap.size 25 #[.int .i64 y.a, .int .i64 y.b, .int .i64 m.c, .int .i64 m.d, .int .i64 m.e, .int .i64 m.f] rfl; replace C := E.cells; simp [BC, CF] at C; clear hb)
  go_ret
  exact ⟨by simp [hj], E.1⟩
set_option maxHeartbeats 8000000 in
set_option maxRecDepth 100000 in
theorem rcon_no3 (x y m : Bx) (w : World) (hm : ∀ W, Calls Try.prog 30 #[x.val, y.val] W fun E w' => E = .returned (.tuple #[.agg #[.int .i64 y.a, .int .i64 y.b, .int .i64 y.c, .int .i64 m.d, .int .i64 m.e, .int .i64 m.f], .bool true]) ∧ Below W.heap.size W w') (hj : ¬ m.d = y.d) :
    Calls Try.prog 31 #[x.val, y.val] w fun E w' => E = .returned (.bool false) ∧ Below w.heap.size w w' := by
  have E := ((Env.nil w).add w.heap.size 25 #[.int .i64 x.a, .int .i64 x.b, .int .i64 x.c, .int .i64 x.d, .int .i64 x.e, .int .i64 x.f] rfl).add (w.heap.size + 1) 25 #[.int .i64 y.a, .int .i64 y.b, .int .i64 y.c, .int .i64 y.d, .int .i64 y.e, .int .i64 y.f] (by simp)
  have C := E.cells
  simp [BC, CF] at C
  unfold Bx.val at *
  have n1 : (m.d == y.d) = false := by simpa using hj
  have n2 : decide (m.d = y.d) = false := decide_eq_false hj
  go_enter Try.func31, Try.ntmps31
  go_wp2_with (go_at_call 30; (with_reducible refine (hm _).mono ?_); rintro X w1 ⟨rfl, hb⟩; replace E := (E.on hb).add w1.heap.size 25 #[.int .i64 y.a, .int .i64 y.b, .int .i64 y.c, .int .i64 m.d, .int .i64 m.e, .int .i64 m.f] rfl; replace C := E.cells; simp [BC, CF] at C; clear hb)
  go_ret
  exact ⟨by simp [hj], E.1⟩
set_option maxHeartbeats 8000000 in
set_option maxRecDepth 100000 in
theorem rcon_no4 (x y m : Bx) (w : World) (hm : ∀ W, Calls Try.prog 30 #[x.val, y.val] W fun E w' => E = .returned (.tuple #[.agg #[.int .i64 y.a, .int .i64 y.b, .int .i64 y.c, .int .i64 y.d, .int .i64 m.e, .int .i64 m.f], .bool true]) ∧ Below W.heap.size W w') (hj : ¬ m.e = y.e) :
    Calls Try.prog 31 #[x.val, y.val] w fun E w' => E = .returned (.bool false) ∧ Below w.heap.size w w' := by
  have E := ((Env.nil w).add w.heap.size 25 #[.int .i64 x.a, .int .i64 x.b, .int .i64 x.c, .int .i64 x.d, .int .i64 x.e, .int .i64 x.f] rfl).add (w.heap.size + 1) 25 #[.int .i64 y.a, .int .i64 y.b, .int .i64 y.c, .int .i64 y.d, .int .i64 y.e, .int .i64 y.f] (by simp)
  have C := E.cells
  simp [BC, CF] at C
  unfold Bx.val at *
  have n1 : (m.e == y.e) = false := by simpa using hj
  have n2 : decide (m.e = y.e) = false := decide_eq_false hj
  go_enter Try.func31, Try.ntmps31
  go_wp2_with (go_at_call 30; (with_reducible refine (hm _).mono ?_); rintro X w1 ⟨rfl, hb⟩; replace E := (E.on hb).add w1.heap.size 25 #[.int .i64 y.a, .int .i64 y.b, .int .i64 y.c, .int .i64 y.d, .int .i64 m.e, .int .i64 m.f] rfl; replace C := E.cells; simp [BC, CF] at C; clear hb)
  go_ret
  exact ⟨by simp [hj], E.1⟩
set_option maxHeartbeats 8000000 in
set_option maxRecDepth 100000 in
theorem rcon_no5 (x y m : Bx) (w : World) (hm : ∀ W, Calls Try.prog 30 #[x.val, y.val] W fun E w' => E = .returned (.tuple #[.agg #[.int .i64 y.a, .int .i64 y.b, .int .i64 y.c, .int .i64 y.d, .int .i64 y.e, .int .i64 m.f], .bool true]) ∧ Below W.heap.size W w') (hj : ¬ m.f = y.f) :
    Calls Try.prog 31 #[x.val, y.val] w fun E w' => E = .returned (.bool false) ∧ Below w.heap.size w w' := by
  have E := ((Env.nil w).add w.heap.size 25 #[.int .i64 x.a, .int .i64 x.b, .int .i64 x.c, .int .i64 x.d, .int .i64 x.e, .int .i64 x.f] rfl).add (w.heap.size + 1) 25 #[.int .i64 y.a, .int .i64 y.b, .int .i64 y.c, .int .i64 y.d, .int .i64 y.e, .int .i64 y.f] (by simp)
  have C := E.cells
  simp [BC, CF] at C
  unfold Bx.val at *
  have n1 : (m.f == y.f) = false := by simpa using hj
  have n2 : decide (m.f = y.f) = false := decide_eq_false hj
  go_enter Try.func31, Try.ntmps31
  go_wp2_with (go_at_call 30; (with_reducible refine (hm _).mono ?_); rintro X w1 ⟨rfl, hb⟩; replace E := (E.on hb).add w1.heap.size 25 #[.int .i64 y.a, .int .i64 y.b, .int .i64 y.c, .int .i64 y.d, .int .i64 y.e, .int .i64 m.f] rfl; replace C := E.cells; simp [BC, CF] at C; clear hb)
  go_ret
  exact ⟨by simp [hj], E.1⟩
theorem rcon_any (x y : Bx) (w : World) (hx : x.ok = true) (hy : y.ok = true) :
    Calls Try.prog 31 #[x.val, y.val] w fun E w' => E = .returned (.bool (conB x y)) ∧ Below w.heap.size w w' := by
  have hm := fun W => rmeet_any x y W hx hy
  by_cases h : (meetB x y).ok = true
  · simp only [if_pos h] at hm
    by_cases e : meetB x y = y
    · rw [con_meet.2 e]
      rw [e] at hm
      exact rcon_yes x y w hm
    · have hc : conB x y = false := by
        cases k : conB x y
        · rfl
        · exact absurd (con_meet.1 k) e
      rw [hc]
      obtain ⟨m, em⟩ : ∃ m, m = meetB x y := ⟨_, rfl⟩
      rw [← em] at hm e
      clear em
      by_cases e0 : m.a = y.a
      case neg =>
        refine rcon_no0 x y m w ?_ e0
        simpa only [Bx.val] using hm
      by_cases e1 : m.b = y.b
      case neg =>
        refine rcon_no1 x y m w ?_ e1
        simpa only [Bx.val, e0] using hm
      by_cases e2 : m.c = y.c
      case neg =>
        refine rcon_no2 x y m w ?_ e2
        simpa only [Bx.val, e0, e1] using hm
      by_cases e3 : m.d = y.d
      case neg =>
        refine rcon_no3 x y m w ?_ e3
        simpa only [Bx.val, e0, e1, e2] using hm
      by_cases e4 : m.e = y.e
      case neg =>
        refine rcon_no4 x y m w ?_ e4
        simpa only [Bx.val, e0, e1, e2, e3] using hm
      by_cases e5 : m.f = y.f
      case neg =>
        refine rcon_no5 x y m w ?_ e5
        simpa only [Bx.val, e0, e1, e2, e3, e4] using hm
      exact absurd (by cases m; cases y; simp_all) e
  · simp only [if_neg h] at hm
    have hc : conB x y = false := by
      cases k : conB x y
      · rfl
      · exact absurd (by rw [con_meet.1 k]; exact hy) h
    rw [hc]
    exact rcon_none x y w hm
end Go.Proofs.Ytffigpkkdljaiaa
