/- The reference's greatest common divisor (binary): its loops, one by one. -/
import Derived.Test.YtbbbmlnggehcdaaDoorRu
import Derived.Laws.BitsAll
namespace Go.Proofs.YtbbbmlnggehcdaaDoor
open Go.ChangeShapes Go.WideShapes Go.ChangeAt Go.RowKit
set_option linter.unusedVariables false

theorem half_h (x h l : Int) (w : World) (hx : UU x) (e1 : uH x = h) (e2 : uL x = l) :
    Calls Tryd.prog 64 #[.agg #[.int .u64 h, .int .u64 l]] w fun e w' => e = .returned (.agg #[.int .u64 (uH (hf x)), .int .u64 (uL (hf x))]) ∧ Below w.heap.size w w' := by subst e1 e2; exact half_any x w hx
theorem less_h (x y h l h' l' : Int) (w : World) (hx : UU x) (hy : UU y) (e1 : uH x = h) (e2 : uL x = l) (e3 : uH y = h') (e4 : uL y = l') :
    Calls Tryd.prog 55 #[.agg #[.int .u64 h, .int .u64 l], .agg #[.int .u64 h', .int .u64 l']] w fun e w' => e = .returned (.bool (decide (x < y))) ∧ Below w.heap.size w w' := by subst e1 e2 e3 e4; exact less_any x y w hx hy
theorem minus_h (x y h l h' l' : Int) (w : World) (hx : UU x) (hy : UU y) (hs : y ≤ x) (e1 : uH x = h) (e2 : uL x = l) (e3 : uH y = h') (e4 : uL y = l') :
    Calls Tryd.prog 56 #[.agg #[.int .u64 h, .int .u64 l], .agg #[.int .u64 h', .int .u64 l']] w fun e w' => e = .returned (.agg #[.int .u64 (uH (dU x y)), .int .u64 (uL (dU x y))]) ∧ Below w.heap.size w w' := by subst e1 e2 e3 e4; exact minusU_any x y w hx hy hs

/-- The two magnitudes at work and the result's place, in the three blocks that the call has begun with. -/
def Duo (w0 w : World) (x y : Int) : Prop :=
  Has w w0.heap.size 62 #[.int .u64 (uH x), .int .u64 (uL x)] ∧ Has w (w0.heap.size + 1) 62 #[.int .u64 (uH y), .int .u64 (uL y)] ∧ Has w (w0.heap.size + 1 + 1) 62 #[.int .u64 0, .int .u64 0] ∧ Below w0.heap.size w0 w
theorem duo_start (w : World) (x y : Int) : Duo w (((w.alloc (.cells #[.int .u64 (uH x), .int .u64 (uL x)] 62)).alloc (.cells #[.int .u64 (uH y), .int .u64 (uL y)] 62)).alloc (.cells #[.int .u64 0, .int .u64 0] 62)) x y := by
  have s1 : (w.alloc (.cells #[.int .u64 (uH x), .int .u64 (uL x)] 62)).heap.size = w.heap.size + 1 := by simp
  have s2 : ((w.alloc (.cells #[.int .u64 (uH x), .int .u64 (uL x)] 62)).alloc (.cells #[.int .u64 (uH y), .int .u64 (uL y)] 62)).heap.size = w.heap.size + 1 + 1 := by simp
  have h1 := (((Has.new_ w 62 #[.int .u64 (uH x), .int .u64 (uL x)]).alloc_ (.cells #[.int .u64 (uH y), .int .u64 (uL y)] 62)).alloc_ (.cells #[.int .u64 0, .int .u64 0] 62))
  have h2 := ((Has.new_ (w.alloc (.cells #[.int .u64 (uH x), .int .u64 (uL x)] 62)) 62 #[.int .u64 (uH y), .int .u64 (uL y)]).alloc_ (.cells #[.int .u64 0, .int .u64 0] 62))
  have h3 := Has.new_ ((w.alloc (.cells #[.int .u64 (uH x), .int .u64 (uL x)] 62)).alloc (.cells #[.int .u64 (uH y), .int .u64 (uL y)] 62)) 62 #[.int .u64 0, .int .u64 0]
  rw [s1] at h2; rw [s2] at h3
  exact ⟨h1, h2, h3, al (al2 _ _ _) _⟩
theorem Duo.next {w0 w w1 : World} {x y : Int} (h : Duo w0 w x y) (hb : Below w.heap.size w w1) : Duo w0 w1 x y :=
  ⟨h.1.below_ hb h.1.size_, h.2.1.below_ hb h.2.1.size_, h.2.2.1.below_ hb h.2.2.1.size_, belows h.2.2.2 hb⟩
theorem Duo.drew {w0 w : World} {x y : Int} (h : Duo w0 w x y) : Duo w0 w.drew x y := ⟨h.1, h.2.1, h.2.2.1, h.2.2.2.drew⟩
theorem Duo.setA {w0 w : World} {x y : Int} (h : Duo w0 w x y) (z : Int) : Duo w0 ((w.setCell ⟨w0.heap.size, 0, none⟩ (.int .u64 (uH z))).setCell ⟨w0.heap.size, 1, none⟩ (.int .u64 (uL z))) z y :=
  ⟨(h.1.put_ 0 _).put_ 1 _, (h.2.1.apart_ (by simp) _).apart_ (by simp) _, (h.2.2.1.apart_ (by simp; omega) _).apart_ (by simp; omega) _, (h.2.2.2.setCell (Nat.le_refl _) _).setCell (Nat.le_refl _) _⟩
theorem Duo.setB {w0 w : World} {x y : Int} (h : Duo w0 w x y) (z : Int) : Duo w0 ((w.setCell ⟨w0.heap.size + 1, 0, none⟩ (.int .u64 (uH z))).setCell ⟨w0.heap.size + 1, 1, none⟩ (.int .u64 (uL z))) x z :=
  ⟨(h.1.apart_ (by simp) _).apart_ (by simp) _, (h.2.1.put_ 0 _).put_ 1 _, (h.2.2.1.apart_ (by simp) _).apart_ (by simp) _, (h.2.2.2.setCell (by simp) _).setCell (by simp) _⟩
theorem Duo.cells {w0 w : World} {x y : Int} (h : Duo w0 w x y) :
    (w.cell? ⟨w0.heap.size, 0, none⟩ = some (.int .u64 (uH x)) ∧ w.cell? ⟨w0.heap.size, 1, none⟩ = some (.int .u64 (uL x)) ∧ w.frozen? ⟨w0.heap.size, 0, none⟩ = false ∧ w.frozen? ⟨w0.heap.size, 1, none⟩ = false) ∧
    (w.cell? ⟨w0.heap.size + 1, 0, none⟩ = some (.int .u64 (uH y)) ∧ w.cell? ⟨w0.heap.size + 1, 1, none⟩ = some (.int .u64 (uL y)) ∧ w.frozen? ⟨w0.heap.size + 1, 0, none⟩ = false ∧ w.frozen? ⟨w0.heap.size + 1, 1, none⟩ = false) ∧
    (w.cell? ⟨w0.heap.size + 1 + 1, 0, none⟩ = some (.int .u64 0) ∧ w.cell? ⟨w0.heap.size + 1 + 1, 1, none⟩ = some (.int .u64 0) ∧ w.frozen? ⟨w0.heap.size + 1 + 1, 0, none⟩ = false ∧ w.frozen? ⟨w0.heap.size + 1 + 1, 1, none⟩ = false) :=
  ⟨⟨h.1.read 0, h.1.read 1, h.1.open_ 0, h.1.open_ 1⟩, ⟨h.2.1.read 0, h.2.1.read 1, h.2.1.open_ 0, h.2.1.open_ 1⟩, ⟨h.2.2.1.read 0, h.2.2.1.read 1, h.2.2.1.open_ 0, h.2.2.1.open_ 1⟩⟩

theorem and_one (z : Int) (h0 : 0 ≤ z) (h1 : z ≤ 18446744073709551615) : bits .and .u64 z 1 = z % 2 := by go_bits2
/-- The lowest bit. -/
def od (x : Int) : Int := x % 2
theorem and_od {x : Int} : bits .and .u64 (uL x) 1 = od x := by
  have := uL_b x
  rw [and_one _ this.1 this.2]; unfold uL od; omega
def magAt (B : Nat) (wr : World) : Nat := match wr.cell? ⟨B, 0, none⟩, wr.cell? ⟨B, 1, none⟩ with | some (.int _ h), some (.int _ l) => (h * 18446744073709551616 + l).toNat | _, _ => 0
theorem Duo.magA {w0 w : World} {x y : Int} (h : Duo w0 w x y) : magAt w0.heap.size w = x.toNat := by
  unfold magAt; rw [h.cells.1.1, h.cells.1.2.1]; simp only; rw [uHL]
theorem Duo.magB {w0 w : World} {x y : Int} (h : Duo w0 w x y) : magAt (w0.heap.size + 1) w = y.toNat := by
  unfold magAt; rw [h.cells.2.1.1, h.cells.2.1.2.1]; simp only; rw [uHL]

theorem gcd_zero_ (y : Int) (w : World) (hy : UU y) :
    Calls Tryd.prog 45 #[.agg #[.int .u64 0, .int .u64 0], .agg #[.int .u64 (uH y), .int .u64 (uL y)]] w fun e w' => e = .returned (.agg #[.int .u64 (uH y), .int .u64 (uL y)]) ∧ Below w.heap.size w w' := by
  go_enter Tryd.func45, Tryd.ntmps45
  go_wp2
  refine bodyPost_ret (v := .agg #[.int .u64 (uH y), .int .u64 (uL y)]) (by simp [results, Tryd.results45, go_sem]) rfl ⟨rfl, al (al2 _ _ _) _⟩

/-- Both magnitudes have been halved t times. -/
def G1 (x0 y0 x y : Int) (t : Nat) : Prop := x * 2 ^ t = x0 ∧ y * 2 ^ t = y0 ∧ 0 < x ∧ 0 < y
theorem UU_le {x x0 : Int} (h : UU x0) (h0 : 0 ≤ x) (h1 : x ≤ x0) : UU x := by unfold UU at *; omega
theorem G1.bounds {x0 y0 x y : Int} {t : Nat} (h : G1 x0 y0 x y t) (hx : UU x0) (hy : UU y0) : UU x ∧ UU y ∧ t < 128 := by
  obtain ⟨h1, h2, h3, h4⟩ := h
  have c : (2 : Int) ^ t = ((2 ^ t : Nat) : Int) := by simp
  have p : (1 : Int) ≤ 2 ^ t := by rw [c]; have := Nat.two_pow_pos t; omega
  have q : x * 1 ≤ x * 2 ^ t := Int.mul_le_mul_of_nonneg_left p (by omega)
  have q2 : y * 1 ≤ y * 2 ^ t := Int.mul_le_mul_of_nonneg_left p (by omega)
  refine ⟨UU_le hx (by omega) (by omega), UU_le hy (by omega) (by omega), ?_⟩
  refine Nat.lt_of_not_le fun k => ?_
  have r : (2 : Int) ^ 128 ≤ 2 ^ t := by
    have h := Nat.pow_le_pow_right (n := 2) (by omega) k
    rw [c]; have e : (2 : Int) ^ 128 = ((2 ^ 128 : Nat) : Int) := by simp
    rw [e]; omega
  have s : 1 * (2 : Int) ^ t ≤ y * 2 ^ t := Int.mul_le_mul_of_nonneg_right (by omega) (by omega)
  have e : (2 : Int) ^ 128 = 340282366920938463463374607431768211456 := by decide
  unfold UU at hy
  omega
theorem G1.step {x0 y0 x y : Int} {t : Nat} (h : G1 x0 y0 x y t) (hx : od x = 0) (hy : od y = 0) : G1 x0 y0 (hf x) (hf y) (t + 1) := by
  obtain ⟨h1, h2, h3, h4⟩ := h
  unfold od at hx hy
  unfold hf
  have e1 : x = x / 2 * 2 := by omega
  have e2 : y = y / 2 * 2 := by omega
  refine ⟨?_, ?_, by omega, by omega⟩
  · rw [Int.pow_succ, ← h1]; generalize x / 2 = z at *; subst e1; grind
  · rw [Int.pow_succ, ← h2]; generalize y / 2 = z at *; subst e2; grind

end Go.Proofs.YtbbbmlnggehcdaaDoor
