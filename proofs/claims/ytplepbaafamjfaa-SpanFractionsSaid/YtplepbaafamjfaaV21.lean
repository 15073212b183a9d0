/- What SpanFractions asks, as facts. -/
import Derived.Test.YtplepbaafamjfaaV16
import Derived.Test.YtplepbaafamjfaaMu
import Derived.Test.YtplepbaafamjfaaV8
namespace Go.Proofs.Ytplepbaafamjfaa
open Go.ChangeShapes Go.WideShapes Go.ChangeAt Go.RowKit
set_option linter.unusedVariables false
set_option linter.unusedSimpArgs false

theorem V_unit {u : Int} (h1 : 1 ≤ u) (h2 : u ≤ 1099511627776) : V u 1 := ⟨by omega, by omega, by omega, by omega, by simp⟩
/-- The same value, the same quotients rounded. -/
theorem fl_same {a b p q : Int} (hb : 0 < b) (hq : 0 < q) (h : a * q = p * b) : fl a b = fl p q := by
  have key : ∀ a b p q : Int, 0 < b → 0 < q → a * q = p * b → fl a b ≤ fl p q := by
    intro a b p q hb hq h
    have s := (fl_spec a hb).1
    refine (le_fl hq).2 ?_
    have h1 : fl a b * b * q ≤ a * q := Int.mul_le_mul_of_nonneg_right s (Int.le_of_lt hq)
    rw [h] at h1
    have h2 : (fl a b * q) * b ≤ p * b := by rw [Int.mul_assoc, Int.mul_comm q b, ← Int.mul_assoc]; exact h1
    exact Int.le_of_mul_le_mul_right h2 hb
  exact Int.le_antisymm (key a b p q hb hq h) (key p q a b hq hb h.symm)
theorem ce_same {a b p q : Int} (hb : 0 < b) (hq : 0 < q) (h : a * q = p * b) : ce a b = ce p q := by
  unfold ce; rw [fl_same hb hq (p := -p) (q := q) (by rw [Int.neg_mul, Int.neg_mul, h])]
theorem floorQ_fl {n d : Int} (hd : 0 < d) : floorQ n d = fl n d := by unfold floorQ fl; rw [if_neg (by omega)]
theorem ceilQ_ce {n d : Int} (hd : 0 < d) : ceilQ n d = ce n d := by unfold ceilQ ce fl; rw [if_neg (by omega)]
theorem whole_den {n d : Int} (v : V n d) : (d = 1) ↔ (fl n d = ce n d) := by
  have d0 := V0 v
  obtain ⟨d1, d2, n1, n2, g⟩ := v
  constructor
  · rintro rfl; rw [fl_one, ce_one]
  · intro h
    have k := (fl_spec n d0).1
    have k2 := (@ce_le (ce n d) n d d0).1 (Int.le_refl _)
    rw [← h] at k2
    have e : n = fl n d * d := by omega
    have : d ∣ n := ⟨fl n d, by rw [Int.mul_comm]; exact e⟩
    have := Int.gcd_eq_right_iff_dvd (show 0 ≤ d by omega) |>.2 this
    rw [g] at this
    omega

/-- The span of a fraction times a unit, as far as it fits. -/
theorem of_eq {n d u : Int} (v : V n d) (h1 : 1 ≤ u) (h2 : u ≤ 1099511627776) : ofR n d u = fitS (clip (fl (n * u) d)) (clip (ce (n * u) d)) := by
  unfold ofR
  have d0 := V0 v
  rw [vB_t.2 v, if_pos rfl, if_pos ⟨h1, h2⟩, (s_clip n u d (by omega)).1, (s_clip n u d (by omega)).2]
theorem of_fits {n d u : Int} (v : V n d) (h1 : 1 ≤ u) (h2 : u ≤ 1099511627776) (b1 : -1152921504606846976 ≤ fl (n * u) d) (b2 : ce (n * u) d ≤ 1152921504606846976) : ofR n d u = (fl (n * u) d, ce (n * u) d, 0) := by
  have d0 := V0 v
  have k := fl_le_ce (n * u) d (by omega)
  rw [of_eq v h1 h2, clip_id (by omega) (by omega), clip_id (by omega) (by omega)]
  exact fitS_of ⟨by omega, b1, b2⟩
theorem of_ok {n d u s t : Int} (v : V n d) (h1 : 1 ≤ u) (h2 : u ≤ 1099511627776) (h : ofR n d u = (s, t, 0)) : s = fl (n * u) d ∧ t = ce (n * u) d ∧ SV s t := by
  have d0 := V0 v
  have k := fl_le_ce (n * u) d (by omega)
  rw [of_eq v h1 h2] at h
  obtain ⟨w, rfl, rfl⟩ := fitS_ok h
  have w' := w
  obtain ⟨w0, w1, w2⟩ := w
  have b1 := clip_b (fl (n * u) d)
  have b2 := clip_b (ce (n * u) d)
  rw [clip_in w1 (by omega), clip_in (by omega) w2] at w' ⊢
  exact ⟨rfl, rfl, w'⟩
theorem of_dich {n d u : Int} (v : V n d) (h1 : 1 ≤ u) (h2 : u ≤ 1099511627776) : (∃ s t, ofR n d u = (s, t, 0)) ∨ ofR n d u = (0, 0, 5) := by
  rw [of_eq v h1 h2]
  rcases fitS_cases (clip (fl (n * u) d)) (clip (ce (n * u) d)) with ⟨w, e⟩ | ⟨w, e⟩
  · exact .inl ⟨_, _, e⟩
  · exact .inr e
/-- Where the product of the fraction and the unit fits. -/
theorem frac_yes {n d u pn pd : Int} (v : V n d) (h1 : 1 ≤ u) (h2 : u ≤ 1099511627776) (h : mulQ n d u 1 = (pn, pd, 0)) :
    V pn pd ∧ ofR n d u = (fl pn pd, ce pn pd, 0) ∧ fl pn pd ≤ ce pn pd ∧ ce pn pd ≤ fl pn pd + 1 ∧ ((pd = 1) ↔ (fl pn pd = ce pn pd)) := by
  have d0 := V0 v
  unfold mulQ at h
  rw [Int.mul_one] at h
  have k := mk_ok (x := n * u) (q := d) (by omega) (by rw [h])
  rw [h] at k
  obtain ⟨vp, e⟩ := k
  simp only at vp e
  have p0 := V0 vp
  have f := fl_same d0 p0 e
  have c := ce_same d0 p0 e
  have w := whole_den vp
  have l := fl_le_ce pn pd (by omega)
  have vp' := vp
  obtain ⟨q1, q2, q3, q4, -⟩ := vp
  have b := fl_b (x := pn) (y := pd) q3 q4 (by omega)
  have b' := ce_b (x := pn) (y := pd) q3 q4 (by omega)
  refine ⟨vp', ?_, l.1, l.2, w⟩
  rw [← f, ← c]
  exact of_fits v h1 h2 (by omega) (by omega)
theorem frac_err {n d u : Int} (v : V n d) (h1 : 1 ≤ u) (h2 : u ≤ 1099511627776) : (∃ pn pd, mulQ n d u 1 = (pn, pd, 0)) ∨ mulQ n d u 1 = (0, 0, 5) := by
  have d0 := V0 v
  unfold mulQ
  rw [Int.mul_one]
  by_cases c : (mk (n * u) d).2.2 = 0
  · exact .inl ⟨_, _, by rw [← c]⟩
  · exact .inr (mk_err d0 c)
/-- The span of the fraction, times the unit. -/
theorem frac_wide {n d u : Int} (v : V n d) (h1 : 1 ≤ u) (h2 : u ≤ 1099511627776) :
    ∃ a b, ofR n d 1 = (a, b, 0) ∧ SV a b ∧ mulR a b u u = timesR a b u 1 ∧
      ((∃ x y, mulR a b u u = (x, y, 0) ∧ ∀ s t, ofR n d u = (s, t, 0) → insB s t x y = true) ∨ mulR a b u u = (0, 0, 5)) := by
  have d0 := V0 v
  have v' := v
  obtain ⟨d1, d2, n1, n2, -⟩ := v
  have b := fl_b (x := n) (y := d) n1 n2 (by omega)
  have b' := ce_b (x := n) (y := d) n1 n2 (by omega)
  have l := fl_le_ce n d (by omega)
  have o := of_fits (u := 1) v' (by omega) (by omega) (by rw [Int.mul_one]; omega) (by rw [Int.mul_one]; omega)
  rw [Int.mul_one] at o
  have va : SV (fl n d) (ce n d) := ⟨l.1, by omega, by omega⟩
  have vu : SV u u := ⟨by omega, by omega, by omega⟩
  have ti : timesR (fl n d) (ce n d) u 1 = timesS (fl n d) (ce n d) u 1 := by unfold timesR; rw [sB_t.2 va, if_pos rfl, if_neg (by omega), if_pos (by omega)]
  have em : mulS (fl n d) (ce n d) u u = timesS (fl n d) (ce n d) u 1 := by
    unfold mulS timesS
    generalize sLo (fl n d) u 1 = a
    generalize sLo (ce n d) u 1 = b
    generalize sHi (fl n d) u 1 = c
    generalize sHi (ce n d) u 1 = e
    have k1 := mn4_le a a b b
    have k2 := mn_le a b
    have k3 := mx4_ge c c e e
    have k4 := mx_ge c e
    rw [show mn4 a a b b = mn a b by omega, show mx4 c c e e = mx c e by omega]
  refine ⟨_, _, o, va, by rw [mulR_eq va vu, ti, em], ?_⟩
  rw [mulR_eq va vu]
  by_cases c : (mulS (fl n d) (ce n d) u u).2.2 = 0
  · have e : mulS (fl n d) (ce n d) u u = ((mulS (fl n d) (ce n d) u u).1, (mulS (fl n d) (ce n d) u u).2.1, 0) := by rw [← c]
    obtain ⟨e1, e2, w⟩ := mulS_ok e
    refine .inl ⟨_, _, e, fun s t hs => ?_⟩
    obtain ⟨rfl, rfl, -⟩ := of_ok v' h1 h2 hs
    have m1 := mn4_le (fl n d * u) (fl n d * u) (ce n d * u) (ce n d * u)
    have m2 := mx4_ge (fl n d * u) (fl n d * u) (ce n d * u) (ce n d * u)
    have k1 : fl n d * u ≤ fl (n * u) d := (le_fl d0).2 (by
      have := Int.mul_le_mul_of_nonneg_right (fl_spec n d0).1 (show 0 ≤ u by omega)
      rw [Int.mul_assoc, Int.mul_comm u d, ← Int.mul_assoc]; exact this)
    have k2 : ce (n * u) d ≤ ce n d * u := (ce_le d0).2 (by
      have := Int.mul_le_mul_of_nonneg_right ((@ce_le (ce n d) n d d0).1 (Int.le_refl _)) (show 0 ≤ u by omega)
      rw [Int.mul_assoc, Int.mul_comm u d, ← Int.mul_assoc]; exact this)
    exact ins_t (by omega) (by omega)
  · right
    rw [mulS_eq] at c ⊢
    rcases fitS_cases (clip (mn4 (fl n d * u) (fl n d * u) (ce n d * u) (ce n d * u))) (clip (mx4 (fl n d * u) (fl n d * u) (ce n d * u) (ce n d * u))) with ⟨w, e⟩ | ⟨w, e⟩
    · rw [e] at c; exact absurd rfl c
    · exact e

/-- The new block of a span, before it is written. -/
def MidS (w0 w : World) (N : Nat) (l : List Fb) : Prop := Has w N 23 #[.int .i64 0, .int .i64 0] ∧ w0.heap.size ≤ N ∧ ∀ x ∈ l, x.g ≠ N
theorem Blk.lt {w : World} : ∀ {l : List Fb}, Blk w l → ∀ x ∈ l, x.g < w.heap.size
  | [], _, x, hx => by cases hx
  | _ :: _, h, x, hx => by
    rcases List.mem_cons.1 hx with rfl | k
    · exact h.1.size_
    · exact Blk.lt h.2 x k
theorem Blk.far {w : World} {g i : Nat} {v : Value} : ∀ {l : List Fb}, Blk w l → (∀ x ∈ l, x.g ≠ g) → Blk (w.setCell ⟨g, i, none⟩ v) l
  | [], _, _ => trivial
  | x :: l, h, hn => ⟨h.1.apart_ (hn x List.mem_cons_self) _, Blk.far h.2 fun y hy => hn y (List.mem_cons_of_mem _ hy)⟩
theorem MidS.startd {w0 W w1 : World} {l : List Fb} (h : Env w0 W l)
    (hb : Below (W.alloc (.cells #[.int .i64 0, .int .i64 0] 23)).drew.heap.size (W.alloc (.cells #[.int .i64 0, .int .i64 0] 23)).drew w1) : MidS w0 w1 W.heap.size l :=
  ⟨(Has.drew_ (Has.new_ _ _ _)).on hb, h.1.size, fun x hx => by have := h.2.lt x hx; omega⟩
theorem MidS.start {w0 W w1 : World} {l : List Fb} (h : Env w0 W l)
    (hb : Below (W.alloc (.cells #[.int .i64 0, .int .i64 0] 23)).heap.size (W.alloc (.cells #[.int .i64 0, .int .i64 0] 23)) w1) : MidS w0 w1 W.heap.size l :=
  ⟨(Has.new_ _ _ _).on hb, h.1.size, fun x hx => by have := h.2.lt x hx; omega⟩
theorem MidS.next {w0 w w1 : World} {N : Nat} {l : List Fb} (h : MidS w0 w N l) (hb : Below w.heap.size w w1) : MidS w0 w1 N l := ⟨h.1.on hb, h.2⟩
theorem Env.store {w0 w : World} {N : Nat} {l : List Fb} (h : Env w0 w l) (m : MidS w0 w N l) (x y : Int) : Env w0 ((w.setCell ⟨N, 0, none⟩ (.int .i64 x)).setCell ⟨N, 1, none⟩ (.int .i64 y)) (⟨N, 23, x, y⟩ :: l) :=
  ⟨(h.1.setCell m.2.1 _).setCell m.2.1 _, (m.1.put_ 0 _).put_ 1 _, (h.2.far m.2.2).far m.2.2⟩
theorem Env.off {w0 w : World} {x : Fb} {l : List Fb} (h : Env w0 w (x :: l)) : Env w0 w l := ⟨h.1, h.2.2⟩
end Go.Proofs.Ytplepbaafamjfaa
