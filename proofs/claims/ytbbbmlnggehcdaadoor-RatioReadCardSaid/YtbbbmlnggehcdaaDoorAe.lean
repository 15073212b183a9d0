/- The contract of Add. -/
import Derived.Test.YtbbbmlnggehcdaaDoorAe1
import Derived.Test.YtbbbmlnggehcdaaDoorAe2
import Derived.Test.YtbbbmlnggehcdaaDoorAe3
namespace Go.Proofs.YtbbbmlnggehcdaaDoor
open Go.ChangeShapes Go.WideShapes Go.ChangeAt Go.RowKit Go.Shelf
set_option linter.unusedVariables false

theorem add_ok (an ad bn bd : Int) (w : World) (va : V an ad) (vb : V bn bd) {x q e0 : Int} (hr : addQ an ad bn bd = (x, q, e0)) :
    Calls Tryd.prog 21 #[.agg #[.int .i64 an, .int .i64 ad], .agg #[.int .i64 bn, .int .i64 bd]] w fun e w' => e = .returned (.tuple #[.agg #[.int .i64 x, .int .i64 q], .int .i64 e0]) ∧ Below w.heap.size w w' := by
  by_cases hs : lG an ad bn bd ≤ wH (xN an ad bn bd)
  · exact add_1 _ _ _ _ w va vb hs hr
  · by_cases h2 : qI (ab ad) (cG ad bd) * qI (ab bd) (lG an ad bn bd) ≤ 18446744073709551615
    · exact add_2 _ _ _ _ w va vb hs h2 hr
    · exact add_3 _ _ _ _ w va vb hs h2 hr

def addR (an ad bn bd : Int) : Int × Int × Int := if okB an ad bn bd then addQ an ad bn bd else (0, 0, 1)
theorem add_any (an ad bn bd : Int) (w : World) (h : All4 an ad bn bd) {x q e0 : Int} (hr : addR an ad bn bd = (x, q, e0)) :
    Calls Tryd.prog 21 #[.agg #[.int .i64 an, .int .i64 ad], .agg #[.int .i64 bn, .int .i64 bd]] w fun e w' => e = .returned (.tuple #[.agg #[.int .i64 x, .int .i64 q], .int .i64 e0]) ∧ Below w.heap.size w w' := by
  unfold addR at hr
  by_cases k : okB an ad bn bd = true
  · rw [if_pos k] at hr
    exact add_ok _ _ _ _ w (okB_t k).1 (okB_t k).2 hr
  · rw [if_neg k] at hr
    simp only [Prod.mk.injEq] at hr; obtain ⟨rfl, rfl, rfl⟩ := hr
    exact add_bad _ _ _ _ w h.1.1 h.1.2 h.2.1.1 h.2.1.2 h.2.2.1.1 h.2.2.1.2 h.2.2.2.1 h.2.2.2.2 (okB_f k)

/-- The opposite, as an int is turned. -/
def ng (n : Int) : Int := IntKind.i64.wrap (-n)
theorem ng_i (n : Int) : I64 (ng n) := by unfold ng I64; rw [IntKind.wrap_i64]; omega
theorem ng_v {n : Int} (h : -9223372036854775808 < n) (h2 : n ≤ 9223372036854775807) : ng n = -n := IntWalk.i64_in (-n) (by omega)
def subR (an ad bn bd : Int) : Int × Int × Int := addR an ad (ng bn) bd
theorem sub_any (an ad bn bd : Int) (w : World) (h : All4 an ad bn bd) {x q e0 : Int} (hr : subR an ad bn bd = (x, q, e0)) :
    Calls Tryd.prog 22 #[.agg #[.int .i64 an, .int .i64 ad], .agg #[.int .i64 bn, .int .i64 bd]] w fun e w' => e = .returned (.tuple #[.agg #[.int .i64 x, .int .i64 q], .int .i64 e0]) ∧ Below w.heap.size w w' := by
  have hA := fun w => add_any an ad (ng bn) bd w ⟨h.1, h.2.1, ng_i bn, h.2.2.2⟩ hr
  have N1 : IntKind.i64.wrap (-bn) = ng bn := rfl
  obtain ⟨⟨x1, x2⟩, ⟨x3, x4⟩, ⟨y1, y2⟩, ⟨y3, y4⟩⟩ := h
  clear hr
  generalize ng bn = m at *
  go_enter Tryd.func22, Tryd.ntmps22
  go_wp2_with (first | (go_at_call 21; refine (hA _).mono ?_; rintro e w1 ⟨rfl, hb⟩; have B1 := (three_start w an ad bn bd).next hb; clear hb; obtain ⟨r0, r1, k0, k1⟩ := Has.two B1.2))
  refine bodyPost_ret (v := .tuple #[.agg #[.int .i64 x, .int .i64 q], .int .i64 e0]) (by simp [results, Tryd.results22, go_sem, r0, r1]) rfl ⟨rfl, ?_⟩
  repeat (refine Below.setCell ?_ (by first | (simp; done) | (simp; omega)) _)
  exact B1.1.2.2.1
end Go.Proofs.YtbbbmlnggehcdaaDoor
