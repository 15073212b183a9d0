/- The reference's Made at one word, its Make and its Valid. -/
import Derived.Test.YtbbbmlnggehcdaaDoorRd
import Derived.Test.YtbbbmlnggehcdaaDoorRgl
import Derived.Test.YtbbbmlnggehcdaaDoorEnv
namespace Go.Proofs.YtbbbmlnggehcdaaDoor
open Go.ChangeShapes Go.WideShapes Go.ChangeAt Go.RowKit
set_option linter.unusedVariables false
set_option linter.unusedSimpArgs false

theorem u_small {x : Int} (h : 0 ≤ x ∧ x ≤ 18446744073709551615) : uH x = 0 ∧ uL x = x := u_of h (by omega)
theorem UU_small {x : Int} (h : 0 ≤ x ∧ x ≤ 18446744073709551615) : UU x := by unfold UU; omega
theorem gcd_small (x y : Int) (w : World) (hx : 0 ≤ x ∧ x ≤ 18446744073709551615) (hy : 0 < y ∧ y ≤ 18446744073709551615) :
    Calls Tryd.prog 45 #[.agg #[.int .u64 0, .int .u64 x], .agg #[.int .u64 0, .int .u64 y]] w fun e w' => e = .returned (.agg #[.int .u64 0, .int .u64 (gd x y)]) ∧ Below w.heap.size w w' := by
  have sx := u_small hx
  have sy := u_small (x := y) ⟨by omega, hy.2⟩
  have g0 := gd_nn x y
  have g1 := gd_le (a := x) hy.1
  have sg := u_small (x := gd x y) ⟨g0, by omega⟩
  by_cases h : x = 0
  · subst h
    have e : gd 0 y = y := by unfold gd; simp; omega
    have k := gcd_zero_ y w (UU_small ⟨by omega, hy.2⟩)
    rw [sy.1, sy.2] at k
    rw [e]; exact k
  · have k := gcd_lo x y (gd x y) w (UU_small hx) (UU_small ⟨by omega, hy.2⟩) (by omega) hy.1 rfl sx.1 (by rw [sx.2]; exact h)
    rw [sx.2, sy.1, sy.2, sg.1, sg.2] at k
    exact k

theorem made_zero (x : Int) (neg : Bool) (w : World) :
    Calls Tryd.prog 43 #[.agg #[.int .u64 0, .int .u64 x], .bool neg, .agg #[.int .u64 0, .int .u64 0]] w fun e w' => e = .returned (.tuple #[.agg #[.int .i64 0, .int .i64 0], .int .i64 16]) ∧ Below w.heap.size w w' := by
  go_enter Tryd.func43, Tryd.ntmps43
  go_wp2
  refine bodyPost_ret (v := .tuple #[.agg #[.int .i64 0, .int .i64 0], .int .i64 16]) (by simp [results, Tryd.results43, go_sem]) rfl ⟨rfl, al (al2 _ _ _) _⟩

set_option maxHeartbeats 4000000 in
theorem made_small (x y : Int) (neg : Bool) (w : World) (hx : 0 ≤ x ∧ x ≤ 18446744073709551615) (hy : 0 < y ∧ y ≤ 18446744073709551615) {a b e0 : Int} (hr : fitQ neg (qI x (gd x y)) (qI y (gd x y)) = (a, b, e0)) :
    Calls Tryd.prog 43 #[.agg #[.int .u64 0, .int .u64 x], .bool neg, .agg #[.int .u64 0, .int .u64 y]] w fun e w' => e = .returned (.tuple #[.agg #[.int .i64 a, .int .i64 b], .int .i64 e0]) ∧ Below w.heap.size w w' := by
  have g1 := gd_pos (a := x) (b := y) (by omega)
  have g2 := gd_le (a := x) hy.1
  have hG := fun w => gcd_small x y w hx hy
  have q1 := qI_b hx.1 g1
  have q2 := qI_b (Int.le_of_lt hy.1) g1
  have y0 : (y == 0) = false := by simp; omega
  have y1 : ¬ y = 0 := by omega
  generalize gd x y = g at *
  obtain ⟨n, En⟩ : ∃ n, qI x g = n := ⟨_, rfl⟩
  obtain ⟨d, Ed⟩ : ∃ d, qI y g = d := ⟨_, rfl⟩
  obtain ⟨r, Er⟩ : ∃ r, rI x g = r := ⟨_, rfl⟩
  obtain ⟨s, Es⟩ : ∃ s, rI y g = s := ⟨_, rfl⟩
  rw [En] at q1; rw [Ed] at q2; rw [En, Ed] at hr
  have h0 := has3 w 62 62 23 #[.int .u64 0, .int .u64 x] #[.int .u64 0, .int .u64 y] #[.int .i64 0, .int .i64 0]
  have hn : 0 ≤ n ∧ n ≤ 18446744073709551615 := by omega
  have hd : 0 ≤ d ∧ d ≤ 18446744073709551615 := by omega
  by_cases c1 : 1152921504606846976 < n
  · have e : (a, b, e0) = (0, 0, 5) := by rw [← hr]; unfold fitQ; rw [if_pos (by omega)]
    simp only [Prod.mk.injEq] at e; obtain ⟨rfl, rfl, rfl⟩ := e
    clear hr
    go_enter Tryd.func43, Tryd.ntmps43
    go_wp2_with (first | (go_at_call 45; refine (hG _).mono ?_; rintro e w1 ⟨rfl, hb1⟩; have A1 := h0.1.on hb1; have B1 := h0.2.1.on hb1; have R1 := h0.2.2.1.on hb1; obtain ⟨a0, a1, -, -⟩ := Has.two A1; obtain ⟨b0, b1, -, -⟩ := Has.two B1; have sA := A1.size_; have sB := B1.size_; have sR := R1.size_) | (go_at_call 63; refine (div_small _ _ _ (by omega) (by omega)).mono ?_; simp only [En, Ed, Er, Es]; first | (rintro e w2 ⟨rfl, hb2⟩; have G2' := Has.on (Has.new_ w1 62 #[.int .u64 0, .int .u64 g]) hb2; have B2 := (B1.alloc_ _).on hb2; have R2 := (R1.alloc_ _).on hb2; obtain ⟨g0', g1', -, -⟩ := Has.two G2'; obtain ⟨b0, b1, -, -⟩ := Has.two B2; have sB2 := B2.size_; have sG2 := G2'.size_; have lG2 := Nat.le_of_lt sG2; have lB2 : w.heap.size < w2.heap.size := by omega) | (rintro e w3 ⟨rfl, hb3⟩; have N3 := ((Has.new_ w2 62 #[.int .u64 0, .int .u64 n]).alloc_ _).on hb3; have R3 := ((R2.alloc_ _).alloc_ _).on hb3; obtain ⟨n0, n1, -, -⟩ := Has.two N3; obtain ⟨r0, r1, k0, k1⟩ := Has.two R3; have sN := N3.size_; have sR3 := R3.size_; have lN := Nat.le_of_lt sN; have lR3 : w.heap.size + 1 < w3.heap.size := by omega)))
    refine bodyPost_ret (v := .tuple #[.agg #[.int .i64 0, .int .i64 0], .int .i64 5]) (by simp [results, Tryd.results43, go_sem, r0, r1, sR3, lR3]) rfl ⟨rfl, ?_⟩
    repeat (refine Below.setCell ?_ (by first | (simp; done) | (simp; omega)) _)
    have KB := belows (al (al (belows (al (belows (al (al2 _ _ _) _) hb1) _) hb2) _) _) hb3; first | exact al (al KB _) _ | exact al (al ((KB.setCell (by simp; omega) _).setCell (by simp; omega) _) _) _
  · by_cases c2 : 1152921504606846976 < d
    · have e : (a, b, e0) = (0, 0, 5) := by rw [← hr]; unfold fitQ; rw [if_pos (by omega)]
      simp only [Prod.mk.injEq] at e; obtain ⟨rfl, rfl, rfl⟩ := e
      clear hr
      go_enter Tryd.func43, Tryd.ntmps43
      go_wp2_with (first | (go_at_call 45; refine (hG _).mono ?_; rintro e w1 ⟨rfl, hb1⟩; have A1 := h0.1.on hb1; have B1 := h0.2.1.on hb1; have R1 := h0.2.2.1.on hb1; obtain ⟨a0, a1, -, -⟩ := Has.two A1; obtain ⟨b0, b1, -, -⟩ := Has.two B1; have sA := A1.size_; have sB := B1.size_; have sR := R1.size_) | (go_at_call 63; refine (div_small _ _ _ (by omega) (by omega)).mono ?_; simp only [En, Ed, Er, Es]; first | (rintro e w2 ⟨rfl, hb2⟩; have G2' := Has.on (Has.new_ w1 62 #[.int .u64 0, .int .u64 g]) hb2; have B2 := (B1.alloc_ _).on hb2; have R2 := (R1.alloc_ _).on hb2; obtain ⟨g0', g1', -, -⟩ := Has.two G2'; obtain ⟨b0, b1, -, -⟩ := Has.two B2; have sB2 := B2.size_; have sG2 := G2'.size_; have lG2 := Nat.le_of_lt sG2; have lB2 : w.heap.size < w2.heap.size := by omega) | (rintro e w3 ⟨rfl, hb3⟩; have N3 := ((Has.new_ w2 62 #[.int .u64 0, .int .u64 n]).alloc_ _).on hb3; have R3 := ((R2.alloc_ _).alloc_ _).on hb3; obtain ⟨n0, n1, -, -⟩ := Has.two N3; obtain ⟨r0, r1, k0, k1⟩ := Has.two R3; have sN := N3.size_; have sR3 := R3.size_; have lN := Nat.le_of_lt sN; have lR3 : w.heap.size + 1 < w3.heap.size := by omega)))
      refine bodyPost_ret (v := .tuple #[.agg #[.int .i64 0, .int .i64 0], .int .i64 5]) (by simp [results, Tryd.results43, go_sem, r0, r1, sR3, lR3]) rfl ⟨rfl, ?_⟩
      repeat (refine Below.setCell ?_ (by first | (simp; done) | (simp; omega)) _)
      have KB := belows (al (al (belows (al (belows (al (al2 _ _ _) _) hb1) _) hb2) _) _) hb3; first | exact al (al KB _) _ | exact al (al ((KB.setCell (by simp; omega) _).setCell (by simp; omega) _) _) _
    · have e : (a, b, e0) = (if neg then -n else n, d, 0) := by rw [← hr]; unfold fitQ; rw [if_neg (by omega)]
      clear hr
      cases neg
      · simp only [Bool.false_eq_true, if_false, if_true, Prod.mk.injEq] at e; obtain ⟨ea, eb, ec⟩ := e; have ea := ea.symm; have eb := eb.symm; subst ea eb ec
        go_enter Tryd.func43, Tryd.ntmps43
        go_wp2_with (first | (go_at_call 45; refine (hG _).mono ?_; rintro e w1 ⟨rfl, hb1⟩; have A1 := h0.1.on hb1; have B1 := h0.2.1.on hb1; have R1 := h0.2.2.1.on hb1; obtain ⟨a0, a1, -, -⟩ := Has.two A1; obtain ⟨b0, b1, -, -⟩ := Has.two B1; have sA := A1.size_; have sB := B1.size_; have sR := R1.size_) | (go_at_call 63; refine (div_small _ _ _ (by omega) (by omega)).mono ?_; simp only [En, Ed, Er, Es]; first | (rintro e w2 ⟨rfl, hb2⟩; have G2' := Has.on (Has.new_ w1 62 #[.int .u64 0, .int .u64 g]) hb2; have B2 := (B1.alloc_ _).on hb2; have R2 := (R1.alloc_ _).on hb2; obtain ⟨g0', g1', -, -⟩ := Has.two G2'; obtain ⟨b0, b1, -, -⟩ := Has.two B2; have sB2 := B2.size_; have sG2 := G2'.size_; have lG2 := Nat.le_of_lt sG2; have lB2 : w.heap.size < w2.heap.size := by omega) | (rintro e w3 ⟨rfl, hb3⟩; have N3 := ((Has.new_ w2 62 #[.int .u64 0, .int .u64 n]).alloc_ _).on hb3; have R3 := ((R2.alloc_ _).alloc_ _).on hb3; obtain ⟨n0, n1, -, -⟩ := Has.two N3; obtain ⟨r0, r1, k0, k1⟩ := Has.two R3; have sN := N3.size_; have sR3 := R3.size_; have lN := Nat.le_of_lt sN; have lR3 : w.heap.size + 1 < w3.heap.size := by omega)))
        refine bodyPost_ret (v := .tuple #[.agg #[.int .i64 n, .int .i64 d], .int .i64 0]) (by simp [results, Tryd.results43, go_sem, r0, r1, sR3, lR3]) rfl ⟨rfl, ?_⟩
        repeat (refine Below.setCell ?_ (by first | (simp; done) | (simp; omega)) _)
        have KB := belows (al (al (belows (al (belows (al (al2 _ _ _) _) hb1) _) hb2) _) _) hb3; first | exact al (al KB _) _ | exact al (al ((KB.setCell (by simp; omega) _).setCell (by simp; omega) _) _) _
      · simp only [Bool.false_eq_true, if_false, if_true, Prod.mk.injEq] at e; obtain ⟨ea, eb, ec⟩ := e; have ea := ea.symm; have eb := eb.symm; subst ea eb ec
        have W1 : IntKind.i64.wrap (0 - n) = -n := by rw [IntWalk.i64_in (0 - n) (by omega)]; omega
        go_enter Tryd.func43, Tryd.ntmps43
        go_wp2_with (first | (go_at_call 45; refine (hG _).mono ?_; rintro e w1 ⟨rfl, hb1⟩; have A1 := h0.1.on hb1; have B1 := h0.2.1.on hb1; have R1 := h0.2.2.1.on hb1; obtain ⟨a0, a1, -, -⟩ := Has.two A1; obtain ⟨b0, b1, -, -⟩ := Has.two B1; have sA := A1.size_; have sB := B1.size_; have sR := R1.size_) | (go_at_call 63; refine (div_small _ _ _ (by omega) (by omega)).mono ?_; simp only [En, Ed, Er, Es]; first | (rintro e w2 ⟨rfl, hb2⟩; have G2' := Has.on (Has.new_ w1 62 #[.int .u64 0, .int .u64 g]) hb2; have B2 := (B1.alloc_ _).on hb2; have R2 := (R1.alloc_ _).on hb2; obtain ⟨g0', g1', -, -⟩ := Has.two G2'; obtain ⟨b0, b1, -, -⟩ := Has.two B2; have sB2 := B2.size_; have sG2 := G2'.size_; have lG2 := Nat.le_of_lt sG2; have lB2 : w.heap.size < w2.heap.size := by omega) | (rintro e w3 ⟨rfl, hb3⟩; have N3 := ((Has.new_ w2 62 #[.int .u64 0, .int .u64 n]).alloc_ _).on hb3; have R3 := ((R2.alloc_ _).alloc_ _).on hb3; obtain ⟨n0, n1, -, -⟩ := Has.two N3; obtain ⟨r0, r1, k0, k1⟩ := Has.two R3; have sN := N3.size_; have sR3 := R3.size_; have lN := Nat.le_of_lt sN; have lR3 : w.heap.size + 1 < w3.heap.size := by omega)))
        refine bodyPost_ret (v := .tuple #[.agg #[.int .i64 (-n), .int .i64 d], .int .i64 0]) (by simp [results, Tryd.results43, go_sem, r0, r1, sR3, lR3]) rfl ⟨rfl, ?_⟩
        repeat (refine Below.setCell ?_ (by first | (simp; done) | (simp; omega)) _)
        have KB := belows (al (al (belows (al (belows (al (al2 _ _ _) _) hb1) _) hb2) _) _) hb3; first | exact al (al KB _) _ | exact al (al ((KB.setCell (by simp; omega) _).setCell (by simp; omega) _) _) _
end Go.Proofs.YtbbbmlnggehcdaaDoor
