/- Meet, in terms of boxes; Grown. -/
import Derived.Test.YtffigpkkdljaiaaAw
import Derived.Test.YtffigpkkdljaiaaCm
import Derived.Test.YtffigpkkdljaiaaCh
namespace Go.Proofs.Ytffigpkkdljaiaa
open Go.ChangeShapes Go.WideShapes Go.ChangeAt Go.RowKit
set_option linter.unusedVariables false
set_option linter.unusedSimpArgs false

def zB : Bx := ⟨0, 0, 0, 0, 0, 0⟩
def meetB (x y : Bx) : Bx := ⟨mx x.a y.a, mx x.b y.b, mx x.c y.c, mn x.d y.d, mn x.e y.e, mn x.f y.f⟩
def hullB (x y : Bx) : Bx := ⟨mn x.a y.a, mn x.b y.b, mn x.c y.c, mx x.d y.d, mx x.e y.e, mx x.f y.f⟩
def growB (x : Bx) (n : Int) : Bx := ⟨x.a - n, x.b - n, x.c - n, x.d + n, x.e + n, x.f + n⟩
set_option maxHeartbeats 8000000 in
set_option maxRecDepth 100000 in
theorem Meet_ok (x y : Bx) (w : World) (hx : x.ok = true) (hy : y.ok = true) (hm : (meetB x y).ok = true) : Calls Try.prog 18 #[x.val, y.val] w fun e w' => e = .returned (.tuple #[(meetB x y).val, .int .i64 0]) ∧ Below w.heap.size w w' := by
  have E := (((Env.nil w).add w.heap.size 25 #[.int .i64 x.a, .int .i64 x.b, .int .i64 x.c, .int .i64 x.d, .int .i64 x.e, .int .i64 x.f] rfl).add (w.heap.size + 1) 25 #[.int .i64 y.a, .int .i64 y.b, .int .i64 y.c, .int .i64 y.d, .int .i64 y.e, .int .i64 y.f] (by simp)).add (w.heap.size + 1 + 1) 25 #[.int .i64 0, .int .i64 0, .int .i64 0, .int .i64 0, .int .i64 0, .int .i64 0] (by simp)
  have h22x := fun W => valid_any x.a x.b x.c x.d x.e x.f W
  have h22y := fun W => valid_any y.a y.b y.c y.d y.e y.f W
  have h47 : ∀ W, Calls Try.prog 47 #[x.val, y.val, .func (.func 48) #[] #[]] W fun E w' => E = .returned (meetB x y).val ∧ Below W.heap.size W w' := fun W => meet2_any x.a x.b x.c x.d x.e x.f y.a y.b y.c y.d y.e y.f W
  generalize meetB x y = m at *
  have h22m := fun W => valid_any m.a m.b m.c m.d m.e m.f W
  unfold Bx.ok at hx hy hm
  rw [hx] at h22x
  rw [hy] at h22y
  rw [hm] at h22m
  unfold Bx.val at *
  clear hx hy hm
  have C := E.cells
  simp [BC, CF] at C
  go_enter Try.func18, Try.ntmps18
  go_wp2_with (first
    | (go_at_call 22; (with_reducible refine (h22x _).mono ?_); rintro X w1 ⟨rfl, hb⟩; replace E := E.on hb; replace C := E.cells; simp [BC, CF] at C; clear hb)
    | (go_at_call 22; (with_reducible refine (h22y _).mono ?_); rintro X w2 ⟨rfl, hb⟩; replace E := E.on hb; replace C := E.cells; simp [BC, CF] at C; clear hb)
    | (go_at_call 47; (with_reducible refine (h47 _).mono ?_); rintro X w3 ⟨rfl, hb⟩; replace E := (E.on hb).add w3.heap.size 25 #[.int .i64 m.a, .int .i64 m.b, .int .i64 m.c, .int .i64 m.d, .int .i64 m.e, .int .i64 m.f] rfl; replace C := E.cells; simp [BC, CF] at C; clear hb)
    | (go_at_call 22; (with_reducible refine (h22m _).mono ?_); rintro X w4 ⟨rfl, hb⟩; replace E := E.on hb; replace C := E.cells; simp [BC, CF] at C; clear hb))
  refine bodyPost_ret (v := .tuple #[.agg #[.int .i64 m.a, .int .i64 m.b, .int .i64 m.c, .int .i64 m.d, .int .i64 m.e, .int .i64 m.f], .int .i64 0]) (by simp [results, Try.results18, go_sem, C]) rfl ⟨rfl, ?_⟩
  exact (E.six 1 rfl).1
set_option maxHeartbeats 8000000 in
set_option maxRecDepth 100000 in
theorem Meet_none (x y : Bx) (w : World) (hx : x.ok = true) (hy : y.ok = true) (hm : (meetB x y).ok = false) : Calls Try.prog 18 #[x.val, y.val] w fun e w' => e = .returned (.tuple #[zB.val, .int .i64 12]) ∧ Below w.heap.size w w' := by
  have E := (((Env.nil w).add w.heap.size 25 #[.int .i64 x.a, .int .i64 x.b, .int .i64 x.c, .int .i64 x.d, .int .i64 x.e, .int .i64 x.f] rfl).add (w.heap.size + 1) 25 #[.int .i64 y.a, .int .i64 y.b, .int .i64 y.c, .int .i64 y.d, .int .i64 y.e, .int .i64 y.f] (by simp)).add (w.heap.size + 1 + 1) 25 #[.int .i64 0, .int .i64 0, .int .i64 0, .int .i64 0, .int .i64 0, .int .i64 0] (by simp)
  have h22x := fun W => valid_any x.a x.b x.c x.d x.e x.f W
  have h22y := fun W => valid_any y.a y.b y.c y.d y.e y.f W
  have h47 : ∀ W, Calls Try.prog 47 #[x.val, y.val, .func (.func 48) #[] #[]] W fun E w' => E = .returned (meetB x y).val ∧ Below W.heap.size W w' := fun W => meet2_any x.a x.b x.c x.d x.e x.f y.a y.b y.c y.d y.e y.f W
  generalize meetB x y = m at *
  have h22m := fun W => valid_any m.a m.b m.c m.d m.e m.f W
  unfold Bx.ok at hx hy hm
  rw [hx] at h22x
  rw [hy] at h22y
  rw [hm] at h22m
  unfold zB Bx.val at *
  clear hx hy hm
  have C := E.cells
  simp [BC, CF] at C
  go_enter Try.func18, Try.ntmps18
  go_wp2_with (first
    | (go_at_call 22; (with_reducible refine (h22x _).mono ?_); rintro X w1 ⟨rfl, hb⟩; replace E := E.on hb; replace C := E.cells; simp [BC, CF] at C; clear hb)
    | (go_at_call 22; (with_reducible refine (h22y _).mono ?_); rintro X w2 ⟨rfl, hb⟩; replace E := E.on hb; replace C := E.cells; simp [BC, CF] at C; clear hb)
    | (go_at_call 47; (with_reducible refine (h47 _).mono ?_); rintro X w3 ⟨rfl, hb⟩; replace E := (E.on hb).add w3.heap.size 25 #[.int .i64 m.a, .int .i64 m.b, .int .i64 m.c, .int .i64 m.d, .int .i64 m.e, .int .i64 m.f] rfl; replace C := E.cells; simp [BC, CF] at C; clear hb)
    | (go_at_call 22; (with_reducible refine (h22m _).mono ?_); rintro X w4 ⟨rfl, hb⟩; replace E := E.on hb; replace C := E.cells; simp [BC, CF] at C; clear hb))
  refine bodyPost_ret (v := .tuple #[.agg #[.int .i64 0, .int .i64 0, .int .i64 0, .int .i64 0, .int .i64 0, .int .i64 0], .int .i64 12]) (by simp [results, Try.results18, go_sem, C]) rfl ⟨rfl, ?_⟩
  exact (E.six 1 rfl).1
theorem Grown_ok (x : Bx) (n : Int) (w : World) (hx : x.ok = true) (h0 : 0 ≤ n) (h1 : n ≤ 1048576) (hg : (growB x n).ok = true) : Calls Try.prog 21 #[x.val, .int .i64 n] w fun e w' => e = .returned (.tuple #[(growB x n).val, .int .i64 0]) ∧ Below w.heap.size w w' :=
  grown_ok x.a x.b x.c x.d x.e x.f n w hx h0 h1 hg
theorem Grown_rng (x : Bx) (n : Int) (w : World) (hx : x.ok = true) (h : (n < 0 ∨ 1048576 < n) ∨ (growB x n).ok = false) : Calls Try.prog 21 #[x.val, .int .i64 n] w fun e w' => e = .returned (.tuple #[zB.val, .int .i64 2]) ∧ Below w.heap.size w w' := by
  by_cases h0 : n < 0 ∨ 1048576 < n
  · exact grown_rng x.a x.b x.c x.d x.e x.f n w hx h0
  · have hg : (growB x n).ok = false := by rcases h with h | h; exact absurd h h0; exact h
    exact grown_big x.a x.b x.c x.d x.e x.f n w hx (by omega) (by omega) hg
theorem Grown_arg (x : Bx) (n : Int) (w : World) (hx : x.ok = false) : Calls Try.prog 21 #[x.val, .int .i64 n] w fun e w' => e = .returned (.tuple #[zB.val, .int .i64 1]) ∧ Below w.heap.size w w' :=
  grown_arg x.a x.b x.c x.d x.e x.f n w hx
end Go.Proofs.Ytffigpkkdljaiaa
