/- Gap, Square, Nearest, Contains, in terms of boxes; cube. -/
import Derived.Test.YtffigpkkdljaiaaCw
import Derived.Test.YtffigpkkdljaiaaGs
import Derived.Test.YtffigpkkdljaiaaNe
import Derived.Test.YtffigpkkdljaiaaCo
import Derived.Test.YtffigpkkdljaiaaGw
namespace Go.Proofs.Ytffigpkkdljaiaa
open Go.ChangeShapes Go.WideShapes Go.ChangeAt Go.RowKit
set_option linter.unusedVariables false
set_option linter.unusedSimpArgs false

def gp (x y : Bx) (i : Nat) : Int := gapS (x.side i).1 (x.side i).2 (y.side i).1 (y.side i).2
def gapB (x y : Bx) : Int := mx (mx (gp x y 0) (gp x y 1)) (gp x y 2)
def sqB (x y : Bx) : Int := pq (gp x y 0) + pq (gp x y 1) + pq (gp x y 2)
def nr (x y : Bx) (i : Nat) : S2 := nearS (x.side i).1 (x.side i).2 (y.side i).1 (y.side i).2
def ptv (a b c : Int) : Value := .agg #[.int .i64 a, .int .i64 b, .int .i64 c]
def conB (x y : Bx) : Bool := conS x.a x.d y.a y.d && conS x.b x.e y.b y.e && conS x.c x.f y.c y.f
theorem Bx.ok_t {x : Bx} (h : x.ok = true) : (-1048576 ≤ x.a ∧ x.a ≤ x.d ∧ x.d ≤ 1048576) ∧ (-1048576 ≤ x.b ∧ x.b ≤ x.e ∧ x.e ≤ 1048576) ∧ (-1048576 ≤ x.c ∧ x.c ≤ x.f ∧ x.f ≤ 1048576) := vB_t.1 h
theorem mx_b {a b L : Int} (h1 : -L ≤ a ∧ a ≤ L) (h2 : -L ≤ b ∧ b ≤ L) : -L ≤ mx a b ∧ mx a b ≤ L := by unfold mx; split <;> assumption
theorem gp_b {x y : Bx} (hx : x.ok = true) (hy : y.ok = true) (i : Nat) : -2097152 ≤ gp x y i ∧ gp x y i ≤ 2097152 := by
  have h1 := Bx.ok_t hx
  have h2 := Bx.ok_t hy
  unfold gp gapS
  rcases i with _ | _ | i
  all_goals (simp only [Bx.side]; exact mx_b (by omega) (by omega))
theorem pq_b {x : Int} (h : -2097152 ≤ x ∧ x ≤ 2097152) : 0 ≤ pq x ∧ pq x ≤ 4398046511104 := by
  unfold pq
  split
  · rename_i hp
    constructor
    · exact Int.mul_nonneg (by omega) (by omega)
    · have : x * x ≤ 2097152 * 2097152 := Int.mul_le_mul h.2 h.2 (by omega) (by omega)
      omega
  · omega
theorem gap_fn {x y : Bx} (hx : x.ok = true) (hy : y.ok = true) (i : Nat) : Fn 60 #[.agg #[.int .i64 (x.side i).1, .int .i64 (x.side i).2], .agg #[.int .i64 (y.side i).1, .int .i64 (y.side i).2]] (.int .i64 (gp x y i)) := by
  have h1 := Bx.ok_t hx
  have h2 := Bx.ok_t hy
  intro w
  refine sdgap_any _ _ _ _ w ?_ ?_ ?_ ?_
  all_goals (unfold Sml; rcases i with _ | _ | i <;> simp only [Bx.side] <;> omega)
theorem Gap_ok (x y : Bx) (w : World) (hx : x.ok = true) (hy : y.ok = true) : Calls Try.prog 11 #[x.val, y.val] w fun E w' => E = .returned (.tuple #[.int .i64 (gapB x y), .int .i64 0]) ∧ Below w.heap.size w w' :=
  gap_ok x.a x.b x.c x.d x.e x.f y.a y.b y.c y.d y.e y.f _ _ _ w hx hy (gap_fn hx hy 0) (gap_fn hx hy 1) (gap_fn hx hy 2)
theorem Gap_arg (x y : Bx) (w : World) (h : x.ok = false ∨ y.ok = false) : Calls Try.prog 11 #[x.val, y.val] w fun E w' => E = .returned (.tuple #[.int .i64 0, .int .i64 1]) ∧ Below w.heap.size w w' := gap_arg x.a x.b x.c x.d x.e x.f y.a y.b y.c y.d y.e y.f w h
theorem Square_ok (x y : Bx) (w : World) (hx : x.ok = true) (hy : y.ok = true) : Calls Try.prog 12 #[x.val, y.val] w fun E w' => E = .returned (.tuple #[.int .i64 (sqB x y), .int .i64 0]) ∧ Below w.heap.size w w' := by
  have p0 := pq_b (gp_b hx hy 0)
  have p1 := pq_b (gp_b hx hy 1)
  have p2 := pq_b (gp_b hx hy 2)
  exact square_ok x.a x.b x.c x.d x.e x.f y.a y.b y.c y.d y.e y.f _ _ _ w hx hy (gap_fn hx hy 0) (gap_fn hx hy 1) (gap_fn hx hy 2) (fun i => match i with | 0 => 0 | 1 => pq (gp x y 0) | 2 => pq (gp x y 0) + pq (gp x y 1) | _ => pq (gp x y 0) + pq (gp x y 1) + pq (gp x y 2)) rfl (by simp) rfl rfl
    (fun i hi => by
      rcases (by omega : i = 0 ∨ i = 1 ∨ i = 2 ∨ i = 3) with rfl | rfl | rfl | rfl
      all_goals (simp only; omega))
theorem Square_arg (x y : Bx) (w : World) (h : x.ok = false ∨ y.ok = false) : Calls Try.prog 12 #[x.val, y.val] w fun E w' => E = .returned (.tuple #[.int .i64 0, .int .i64 1]) ∧ Below w.heap.size w w' := square_arg x.a x.b x.c x.d x.e x.f y.a y.b y.c y.d y.e y.f w h
theorem near_fn (x y : Bx) (i : Nat) : Fn 42 #[.agg #[.int .i64 (x.side i).1, .int .i64 (x.side i).2], .agg #[.int .i64 (y.side i).1, .int .i64 (y.side i).2]] (.tuple #[.int .i64 (nr x y i).1, .int .i64 (nr x y i).2]) := fun w => sdnear_any _ _ _ _ w
theorem Near_ok (x y : Bx) (w : World) (hx : x.ok = true) (hy : y.ok = true) : Calls Try.prog 13 #[x.val, y.val] w fun E w' => E = .returned (.tuple #[ptv (nr x y 0).1 (nr x y 1).1 (nr x y 2).1, ptv (nr x y 0).2 (nr x y 1).2 (nr x y 2).2, .int .i64 0]) ∧ Below w.heap.size w w' :=
  near_f x.a x.b x.c x.d x.e x.f y.a y.b y.c y.d y.e y.f _ _ _ _ _ _ w hx hy (near_fn x y 0) (near_fn x y 1) (near_fn x y 2)
theorem Near_arg (x y : Bx) (w : World) (h : x.ok = false ∨ y.ok = false) : Calls Try.prog 13 #[x.val, y.val] w fun E w' => E = .returned (.tuple #[ptv 0 0 0, ptv 0 0 0, .int .i64 1]) ∧ Below w.heap.size w w' := near_arg x.a x.b x.c x.d x.e x.f y.a y.b y.c y.d y.e y.f w h
theorem Con_ok (x y : Bx) (w : World) (hx : x.ok = true) (hy : y.ok = true) : Calls Try.prog 20 #[x.val, y.val] w fun E w' => E = .returned (.tuple #[.bool (conB x y), .int .i64 0]) ∧ Below w.heap.size w w' := con_ok x.a x.b x.c x.d x.e x.f y.a y.b y.c y.d y.e y.f w hx hy
theorem Con_arg (x y : Bx) (w : World) (h : x.ok = false ∨ y.ok = false) : Calls Try.prog 20 #[x.val, y.val] w fun E w' => E = .returned (.tuple #[.bool false, .int .i64 1]) ∧ Below w.heap.size w w' := con_arg x.a x.b x.c x.d x.e x.f y.a y.b y.c y.d y.e y.f w h
set_option maxHeartbeats 4000000 in
set_option maxRecDepth 100000 in
theorem cube_any (a b c d e f : Int) (w : World) : Calls Try.prog 37 #[.int .i64 a, .int .i64 b, .int .i64 c, .int .i64 d, .int .i64 e, .int .i64 f] w fun E w' => E = .returned (.agg #[.int .i64 a, .int .i64 b, .int .i64 c, .int .i64 d, .int .i64 e, .int .i64 f]) ∧ Below w.heap.size w w' := by
  have E := (Env.nil w).add w.heap.size 25 #[.int .i64 0, .int .i64 0, .int .i64 0, .int .i64 0, .int .i64 0, .int .i64 0] rfl
  have C := E.cells
  simp [BC, CF] at C
  clear E C
  go_enter Try.func37, Try.ntmps37
  go_wp2
  refine bodyPost_ret (v := .agg #[.int .i64 a, .int .i64 b, .int .i64 c, .int .i64 d, .int .i64 e, .int .i64 f]) (by simp [results, Try.results37, go_sem]) rfl ⟨rfl, ?_⟩
  with_reducible exact al1 w _
end Go.Proofs.Ytffigpkkdljaiaa
