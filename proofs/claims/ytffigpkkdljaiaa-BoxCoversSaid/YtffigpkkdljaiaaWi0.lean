/- A point within a box, squared distances, a point as a box. -/
import Derived.Test.YtffigpkkdljaiaaLm0
namespace Go.Proofs.Ytffigpkkdljaiaa
open Go.ChangeShapes Go.WideShapes Go.ChangeAt Go.RowKit
set_option linter.unusedVariables false
set_option linter.unusedSimpArgs false

def atI (lo hi n : Int) : Int := lo + ((hi - lo) * n).tdiv 65535
theorem at_b {d n : Int} (h0 : 0 ≤ d) (n0 : 0 ≤ n) (n1 : n ≤ 65535) : 0 ≤ (d * n).tdiv 65535 ∧ (d * n).tdiv 65535 ≤ d ∧ 0 ≤ d * n ∧ d * n ≤ d * 65535 := by
  have h1 : 0 ≤ d * n := Int.mul_nonneg h0 n0
  have h2 : d * n ≤ d * 65535 := Int.mul_le_mul_of_nonneg_left n1 h0
  rw [Int.tdiv_eq_ediv_of_nonneg h1]
  generalize d * n = z at *
  omega
theorem at_any (lo hi n : Int) (w : World) (h0 : -1048576 ≤ lo) (h1 : lo ≤ hi) (h2 : hi ≤ 1048576) (n0 : 0 ≤ n) (n1 : n ≤ 65535) :
    Calls Try.prog 55 #[.int .i64 lo, .int .i64 hi, .int .u16 n] w fun e w' => e = .returned (.int .i64 (atI lo hi n)) ∧ w' = w := by
  obtain ⟨b0, b1, b2, b3⟩ := at_b (d := hi - lo) (n := n) (by omega) n0 n1
  have W1 : IntKind.i64.wrap (hi - lo) = hi - lo := IntWalk.i64_in _ (by omega)
  have W2 : IntKind.i64.wrap n = n := IntWalk.i64_in _ (by omega)
  have W3 : IntKind.i64.wrap ((hi - lo) * n) = (hi - lo) * n := IntWalk.i64_in _ (by omega)
  have W4 : IntKind.i64.wrap (((hi - lo) * n).tdiv 65535) = ((hi - lo) * n).tdiv 65535 := IntWalk.i64_in _ (by omega)
  have W5 : IntKind.i64.wrap (lo + ((hi - lo) * n).tdiv 65535) = lo + ((hi - lo) * n).tdiv 65535 := IntWalk.i64_in _ (by omega)
  clear b0 b1 b2 b3
  unfold atI
  go_enter Try.func55, Try.ntmps55
  go_wp2
  go_ret
  exact ⟨rfl, rfl⟩
theorem at_in {lo hi n : Int} (h1 : lo ≤ hi) (n0 : 0 ≤ n) (n1 : n ≤ 65535) : lo ≤ atI lo hi n ∧ atI lo hi n ≤ hi := by
  obtain ⟨b0, b1, b2, b3⟩ := at_b (d := hi - lo) (n := n) (by omega) n0 n1
  unfold atI
  omega
set_option maxHeartbeats 8000000 in
set_option maxRecDepth 100000 in
theorem within_any (x : Bx) (a b c : Int) (w : World) (hx : x.ok = true) (ha : 0 ≤ a ∧ a ≤ 65535) (hb : 0 ≤ b ∧ b ≤ 65535) (hc : 0 ≤ c ∧ c ≤ 65535) :
    Calls Try.prog 25 #[x.val, .int .u16 a, .int .u16 b, .int .u16 c] w fun e w' => e = .returned (ptv (atI x.a x.d a) (atI x.b x.e b) (atI x.c x.f c)) ∧ Below w.heap.size w w' := by
  have h := Bx.ok_t hx
  have E := ((Env.nil w).add w.heap.size 25 #[.int .i64 x.a, .int .i64 x.b, .int .i64 x.c, .int .i64 x.d, .int .i64 x.e, .int .i64 x.f] rfl).add (w.heap.size + 1) 23 #[.int .i64 0, .int .i64 0, .int .i64 0] (by simp)
  have k0 := fun W => at_any x.a x.d a W h.1.1 h.1.2.1 h.1.2.2 ha.1 ha.2
  have k1 := fun W => at_any x.b x.e b W h.2.1.1 h.2.1.2.1 h.2.1.2.2 hb.1 hb.2
  have k2 := fun W => at_any x.c x.f c W h.2.2.1 h.2.2.2.1 h.2.2.2.2 hc.1 hc.2
  generalize atI x.a x.d a = p at *
  generalize atI x.b x.e b = q at *
  generalize atI x.c x.f c = r at *
  clear h ha hb hc hx
  unfold Bx.val ptv
  have C := E.cells
  simp [BC, CF] at C
  go_enter Try.func25, Try.ntmps25
  go_upto_region 2 with fail
  generalize hV : (w.alloc (.cells #[.int .i64 x.a, .int .i64 x.b, .int .i64 x.c, .int .i64 x.d, .int .i64 x.e, .int .i64 x.f] 25)).alloc (.cells #[.int .i64 0, .int .i64 0, .int .i64 0] 23) = V at *
  clear hV C
  have C := E.cells
  simp [BC, CF] at C
  refine wp_region_still_tail 28 (by kernel_rfl) (by kernel_rfl) ?_
  simp only [List.take_succ_cons, List.take_zero, List.drop_succ_cons, List.drop_zero]
  repeat still_step
  still_call (k0 _)
  repeat still_step
  still_call (k1 _)
  repeat still_step
  still_call (k2 _)
  repeat still_step
  refine wpStill_nil ?_
  all_goals go_wp2
  all_goals refine bodyPost_ret (v := .agg #[.int .i64 p, .int .i64 q, .int .i64 r]) (by simp [results, Try.results25, go_sem, C]) rfl ⟨rfl, ?_⟩
  all_goals exact (((E.drw.put 0 0 _ rfl).put 0 1 _ rfl).put 0 2 _ rfl).1
end Go.Proofs.Ytffigpkkdljaiaa
