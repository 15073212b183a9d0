/- The contract of Div. -/
import Derived.Test.YtbbbmlnggehcdaaDoorMu
namespace Go.Proofs.YtbbbmlnggehcdaaDoor
open Go.ChangeShapes Go.WideShapes Go.ChangeAt Go.RowKit Go.Shelf
set_option linter.unusedVariables false

theorem Three.alloc {w0 w : World} {an ad bn bd : Int} (h : Three w0 w an ad bn bd) (o : Obj) : Three w0 (w.alloc o) an ad bn bd := h.next (al1 _ _)
theorem Three.lens {w0 w : World} {an ad bn bd : Int} (h : Three w0 w an ad bn bd) : w0.heap.size < w.heap.size ∧ w0.heap.size + 1 < w.heap.size ∧ w0.heap.size + 1 + 1 < w.heap.size ∧ ¬ w0.heap.size = w.heap.size ∧ ¬ w0.heap.size + 1 = w.heap.size ∧ ¬ w0.heap.size + 1 + 1 = w.heap.size := by
  have := h.2.size_; omega
theorem V_flip {n d : Int} (v : V n d) (h : 0 < n) : V d n := by
  obtain ⟨a, b, c, e, f⟩ := v
  exact ⟨by omega, e, by omega, b, by rw [Int.gcd_comm]; exact f⟩
theorem V_flipn {n d : Int} (v : V n d) (h : n < 0) : V (-d) (-n) := by
  obtain ⟨a, b, c, e, f⟩ := v
  exact ⟨by omega, by omega, by omega, by omega, by rw [Int.neg_gcd, Int.gcd_neg, Int.gcd_comm]; exact f⟩

theorem div_zero_ (an ad bd : Int) (w : World) (va : V an ad) (vb : V 0 bd) :
    Calls Tryd.prog 24 #[.agg #[.int .i64 an, .int .i64 ad], .agg #[.int .i64 0, .int .i64 bd]] w fun e w' => e = .returned (.tuple #[.agg #[.int .i64 0, .int .i64 0], .int .i64 16]) ∧ Below w.heap.size w w' := by
  have hA := vB_t.2 va
  have hB := vB_t.2 vb
  obtain ⟨⟨x1, x2⟩, ⟨x3, x4⟩⟩ := V_b va
  obtain ⟨-, ⟨y3, y4⟩⟩ := V_b vb
  clear va vb
  go_enter Tryd.func24, Tryd.ntmps24
  go_wp2_with (first | (go_at_call 17; refine (valid_any _ _ _ (by omega) (by omega) (by omega) (by omega)).mono ?_; (first | (rw [hA]; rintro e w1 ⟨rfl, hb⟩; have B1 := (three_start w an ad 0 bd).next hb; clear hb; obtain ⟨c0, c1, d0, d1⟩ := B1.1.cells; obtain ⟨r0, r1, k0, k1⟩ := Has.two B1.2) | (rw [hB]; rintro e w2 ⟨rfl, hb⟩; have B2 := B1.next hb; clear hb c0 c1 d0 d1 r0 r1 k0 k1; obtain ⟨c0, c1, d0, d1⟩ := B2.1.cells; obtain ⟨r0, r1, k0, k1⟩ := Has.two B2.2))))
  refine bodyPost_ret (v := .tuple #[.agg #[.int .i64 0, .int .i64 0], .int .i64 16]) (by simp [results, Tryd.results24, go_sem, r0, r1]) rfl ⟨rfl, ?_⟩
  repeat (refine Below.setCell ?_ (by first | (simp; done) | (simp; omega)) _)
  exact B2.1.2.2.1

theorem div_pos_ (an ad bn bd : Int) (w : World) (va : V an ad) (vb : V bn bd) (hp : 0 < bn) {x q e0 : Int} (hr : mulQ an ad bd bn = (x, q, e0)) :
    Calls Tryd.prog 24 #[.agg #[.int .i64 an, .int .i64 ad], .agg #[.int .i64 bn, .int .i64 bd]] w fun e w' => e = .returned (.tuple #[.agg #[.int .i64 x, .int .i64 q], .int .i64 e0]) ∧ Below w.heap.size w w' := by
  have hA := vB_t.2 va
  have hB := vB_t.2 vb
  have hM := fun w => mul_ok an ad bd bn w va (V_flip vb hp) hr
  obtain ⟨⟨x1, x2⟩, ⟨x3, x4⟩⟩ := V_b va
  obtain ⟨⟨y1, y2⟩, ⟨y3, y4⟩⟩ := V_b vb
  have h0 : (bn == 0) = false := by simp; omega
  clear va vb hr
  go_enter Tryd.func24, Tryd.ntmps24
  go_wp2_with (first | (go_at_call 17; refine (valid_any _ _ _ (by omega) (by omega) (by omega) (by omega)).mono ?_; (first | (rw [hA]; rintro e w1 ⟨rfl, hb⟩; have B1 := (three_start w an ad bn bd).next hb; clear hb; obtain ⟨c0, c1, d0, d1⟩ := B1.1.cells; obtain ⟨r0, r1, k0, k1⟩ := Has.two B1.2) | (rw [hB]; rintro e w2 ⟨rfl, hb⟩; have B2 := B1.next hb; clear hb c0 c1 d0 d1 r0 r1 k0 k1; obtain ⟨c0, c1, d0, d1⟩ := B2.1.cells; obtain ⟨r0, r1, k0, k1⟩ := Has.two B2.2; obtain ⟨l0, l1, l2, j0, j1, j2⟩ := B2.lens))) | (go_at_call 23; refine (hM _).mono ?_; rintro e w9 ⟨rfl, hb⟩; have B9 := (B2.alloc _).next hb; clear hb c0 c1 d0 d1 r0 r1 k0 k1; obtain ⟨r0, r1, k0, k1⟩ := Has.two B9.2))
  refine bodyPost_ret (v := .tuple #[.agg #[.int .i64 x, .int .i64 q], .int .i64 e0]) (by simp [results, Tryd.results24, go_sem, r0, r1]) rfl ⟨rfl, ?_⟩
  repeat (refine Below.setCell ?_ (by first | (simp; done) | (simp; omega)) _)
  exact B9.1.2.2.1

theorem div_neg_ (an ad bn bd : Int) (w : World) (va : V an ad) (vb : V bn bd) (hp : bn < 0) {x q e0 : Int} (hr : mulQ an ad (-bd) (-bn) = (x, q, e0)) :
    Calls Tryd.prog 24 #[.agg #[.int .i64 an, .int .i64 ad], .agg #[.int .i64 bn, .int .i64 bd]] w fun e w' => e = .returned (.tuple #[.agg #[.int .i64 x, .int .i64 q], .int .i64 e0]) ∧ Below w.heap.size w w' := by
  have hA := vB_t.2 va
  have hB := vB_t.2 vb
  have hM := fun w => mul_ok an ad (-bd) (-bn) w va (V_flipn vb hp) hr
  obtain ⟨⟨x1, x2⟩, ⟨x3, x4⟩⟩ := V_b va
  obtain ⟨⟨y1, y2⟩, ⟨y3, y4⟩⟩ := V_b vb
  have h0 : (bn == 0) = false := by simp; omega
  have N1 := IntWalk.i64_in (-bn) (by have := vb.2.2.1; omega)
  have N2 := IntWalk.i64_in (-bd) (by have := vb.1; have := vb.2.1; omega)
  clear va vb hr
  go_enter Tryd.func24, Tryd.ntmps24
  go_wp2_with (first | (go_at_call 17; refine (valid_any _ _ _ (by omega) (by omega) (by omega) (by omega)).mono ?_; (first | (rw [hA]; rintro e w1 ⟨rfl, hb⟩; have B1 := (three_start w an ad bn bd).next hb; clear hb; obtain ⟨c0, c1, d0, d1⟩ := B1.1.cells; obtain ⟨r0, r1, k0, k1⟩ := Has.two B1.2) | (rw [hB]; rintro e w2 ⟨rfl, hb⟩; have B2 := B1.next hb; clear hb c0 c1 d0 d1 r0 r1 k0 k1; obtain ⟨c0, c1, d0, d1⟩ := B2.1.cells; obtain ⟨r0, r1, k0, k1⟩ := Has.two B2.2; obtain ⟨l0, l1, l2, j0, j1, j2⟩ := B2.lens))) | (go_at_call 23; refine (hM _).mono ?_; rintro e w9 ⟨rfl, hb⟩; have B9 := (B2.alloc _).next hb; clear hb c0 c1 d0 d1 r0 r1 k0 k1; obtain ⟨r0, r1, k0, k1⟩ := Has.two B9.2))
  refine bodyPost_ret (v := .tuple #[.agg #[.int .i64 x, .int .i64 q], .int .i64 e0]) (by simp [results, Tryd.results24, go_sem, r0, r1]) rfl ⟨rfl, ?_⟩
  repeat (refine Below.setCell ?_ (by first | (simp; done) | (simp; omega)) _)
  exact B9.1.2.2.1

/-- The answers for whatever arguments. -/
def okB (an ad bn bd : Int) : Bool := vB an ad && vB bn bd
def mulR (an ad bn bd : Int) : Int × Int × Int := if okB an ad bn bd then mulQ an ad bn bd else (0, 0, 1)
def divR (an ad bn bd : Int) : Int × Int × Int := if okB an ad bn bd then (if bn = 0 then (0, 0, 16) else divQ an ad bn bd) else (0, 0, 1)
def cmpR (an ad bn bd : Int) : Int × Int := if okB an ad bn bd then (cmpQ an ad bn bd, 0) else (0, 1)
theorem okB_t {an ad bn bd : Int} (h : okB an ad bn bd = true) : V an ad ∧ V bn bd := by
  unfold okB at h; rw [Bool.and_eq_true] at h; exact ⟨vB_t.1 h.1, vB_t.1 h.2⟩
theorem okB_f {an ad bn bd : Int} (h : ¬ okB an ad bn bd = true) : vB an ad = true → vB bn bd = false := by
  unfold okB at h; intro k; rw [k] at h; simpa using h
def All4 (an ad bn bd : Int) : Prop := I64 an ∧ I64 ad ∧ I64 bn ∧ I64 bd

theorem mul_any (an ad bn bd : Int) (w : World) (h : All4 an ad bn bd) {x q e0 : Int} (hr : mulR an ad bn bd = (x, q, e0)) :
    Calls Tryd.prog 23 #[.agg #[.int .i64 an, .int .i64 ad], .agg #[.int .i64 bn, .int .i64 bd]] w fun e w' => e = .returned (.tuple #[.agg #[.int .i64 x, .int .i64 q], .int .i64 e0]) ∧ Below w.heap.size w w' := by
  unfold mulR at hr
  by_cases k : okB an ad bn bd = true
  · rw [if_pos k] at hr
    exact mul_ok _ _ _ _ w (okB_t k).1 (okB_t k).2 hr
  · rw [if_neg k] at hr
    simp only [Prod.mk.injEq] at hr; obtain ⟨rfl, rfl, rfl⟩ := hr
    exact mul_bad _ _ _ _ w h.1.1 h.1.2 h.2.1.1 h.2.1.2 h.2.2.1.1 h.2.2.1.2 h.2.2.2.1 h.2.2.2.2 (okB_f k)
theorem div_any (an ad bn bd : Int) (w : World) (h : All4 an ad bn bd) {x q e0 : Int} (hr : divR an ad bn bd = (x, q, e0)) :
    Calls Tryd.prog 24 #[.agg #[.int .i64 an, .int .i64 ad], .agg #[.int .i64 bn, .int .i64 bd]] w fun e w' => e = .returned (.tuple #[.agg #[.int .i64 x, .int .i64 q], .int .i64 e0]) ∧ Below w.heap.size w w' := by
  unfold divR at hr
  by_cases k : okB an ad bn bd = true
  · rw [if_pos k] at hr
    by_cases h0 : bn = 0
    · rw [if_pos h0] at hr
      simp only [Prod.mk.injEq] at hr; obtain ⟨rfl, rfl, rfl⟩ := hr
      subst h0
      exact div_zero_ _ _ _ w (okB_t k).1 (okB_t k).2
    · rw [if_neg h0] at hr
      unfold divQ at hr
      by_cases h1 : bn < 0
      · rw [if_pos h1] at hr
        exact div_neg_ _ _ _ _ w (okB_t k).1 (okB_t k).2 h1 hr
      · rw [if_neg h1] at hr
        exact div_pos_ _ _ _ _ w (okB_t k).1 (okB_t k).2 (by omega) hr
  · rw [if_neg k] at hr
    simp only [Prod.mk.injEq] at hr; obtain ⟨rfl, rfl, rfl⟩ := hr
    exact div_bad _ _ _ _ w h.1.1 h.1.2 h.2.1.1 h.2.1.2 h.2.2.1.1 h.2.2.1.2 h.2.2.2.1 h.2.2.2.2 (okB_f k)
theorem cmp_any (an ad bn bd : Int) (w : World) (h : All4 an ad bn bd) {x e0 : Int} (hr : cmpR an ad bn bd = (x, e0)) :
    Calls Tryd.prog 25 #[.agg #[.int .i64 an, .int .i64 ad], .agg #[.int .i64 bn, .int .i64 bd]] w fun e w' => e = .returned (.tuple #[.int .i64 x, .int .i64 e0]) ∧ Below w.heap.size w w' := by
  unfold cmpR at hr
  by_cases k : okB an ad bn bd = true
  · rw [if_pos k] at hr
    simp only [Prod.mk.injEq] at hr; obtain ⟨rfl, rfl⟩ := hr
    exact cmp_ok _ _ _ _ w (okB_t k).1 (okB_t k).2
  · rw [if_neg k] at hr
    simp only [Prod.mk.injEq] at hr; obtain ⟨rfl, rfl⟩ := hr
    exact cmp_bad _ _ _ _ w h.1.1 h.1.2 h.2.1.1 h.2.1.2 h.2.2.1.1 h.2.2.1.2 h.2.2.2.1 h.2.2.2.2 (okB_f k)
end Go.Proofs.YtbbbmlnggehcdaaDoor
