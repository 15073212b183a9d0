/- Floor and Ceil of the reference; what SpanInside asks, as facts. -/
import Derived.Test.YtplepbaafamjfaaV18
namespace Go.Proofs.Ytplepbaafamjfaa
open Go.ChangeShapes Go.WideShapes Go.ChangeAt Go.RowKit
set_option linter.unusedVariables false
set_option linter.unusedSimpArgs false

theorem part_fl {n num den : Int} (hd : den ≠ 0) (h1 : -1152921504606846976 ≤ fl (n * num) den) (h2 : fl (n * num) den ≤ 1152921504606846976) : partR n num den false = (fl (n * num) den, true) := by
  have h := (s_fl n num den hd).1
  have q := sQ_nn n num den
  have e : fl (n * num) den = if sM n num den then -(ptQ n num den false) else ptQ n num den false := by
    rw [h]; unfold ptQ
    cases sM n num den <;> simp
  have b : ¬ 1152921504606846976 < ptQ n num den false := by
    rw [e] at h1 h2
    split at h1 <;> split at h2 <;> simp_all <;> omega
  rw [part_fit b, ← e]
theorem part_ce {n num den : Int} (hd : den ≠ 0) (h1 : -1152921504606846976 ≤ ce (n * num) den) (h2 : ce (n * num) den ≤ 1152921504606846976) : partR n num den true = (ce (n * num) den, true) := by
  have h := (s_fl n num den hd).2
  have q := sQ_nn n num den
  have e : ce (n * num) den = if sM n num den then -(ptQ n num den true) else ptQ n num den true := by
    rw [h]; unfold ptQ
    cases sM n num den <;> simp
  have b : ¬ 1152921504606846976 < ptQ n num den true := by
    rw [e] at h1 h2
    split at h1 <;> split at h2 <;> simp_all <;> omega
  rw [part_fit b, ← e]
theorem hPart (n num den : Int) (up : Bool) (v : Int) (b : Bool) (h : partR n num den up = (v, b)) (w : World) (n1 : -1152921504606846976 ≤ n) (n2 : n ≤ 1152921504606846976) (m1 : -1152921504606846976 ≤ num) (m2 : num ≤ 1152921504606846976) (d1 : -1152921504606846976 ≤ den) (d2 : den ≤ 1152921504606846976) (d0 : den ≠ 0) :
    Calls Try.prog 36 #[.int .i64 n, .int .i64 num, .int .i64 den, .bool up] w fun e w' => e = .returned (.tuple #[.int .i64 v, .bool b]) ∧ Below w.heap.size w w' := by
  have k := part_any n num den up w n1 n2 m1 m2 d1 d2 d0
  rw [h] at k; exact k
theorem floor_any (x y : Int) (w : World) (n1 : -1152921504606846976 ≤ x) (n2 : x ≤ 1152921504606846976) (d1 : -1152921504606846976 ≤ y) (d2 : y ≤ 1152921504606846976) (d0 : y ≠ 0) :
    Calls Try.prog 37 #[.int .i64 x, .int .i64 y] w fun e w' => e = .returned (.int .i64 (fl x y)) ∧ Below w.heap.size w w' := by
  have b := fl_b n1 n2 d0
  have h := fun W => hPart x 1 y false _ _ (part_fl d0 (by rw [Int.mul_one]; exact b.1) (by rw [Int.mul_one]; exact b.2)) W n1 n2 (by omega) (by omega) d1 d2 d0
  rw [Int.mul_one] at h
  generalize fl x y = v at *
  go_enter Try.func37, Try.ntmps37
  go_wp2_with (go_at_call 36; (with_reducible refine (h _).mono ?_); rintro e w1 ⟨rfl, hb⟩)
  go_ret
  exact ⟨rfl, hb⟩
theorem ceil_any (x y : Int) (w : World) (n1 : -1152921504606846976 ≤ x) (n2 : x ≤ 1152921504606846976) (d1 : -1152921504606846976 ≤ y) (d2 : y ≤ 1152921504606846976) (d0 : y ≠ 0) :
    Calls Try.prog 38 #[.int .i64 x, .int .i64 y] w fun e w' => e = .returned (.int .i64 (ce x y)) ∧ Below w.heap.size w w' := by
  have b := ce_b n1 n2 d0
  have h := fun W => hPart x 1 y true _ _ (part_ce d0 (by rw [Int.mul_one]; exact b.1) (by rw [Int.mul_one]; exact b.2)) W n1 n2 (by omega) (by omega) d1 d2 d0
  rw [Int.mul_one] at h
  generalize ce x y = v at *
  go_enter Try.func38, Try.ntmps38
  go_wp2_with (go_at_call 36; (with_reducible refine (h _).mono ?_); rintro e w1 ⟨rfl, hb⟩)
  go_ret
  exact ⟨rfl, hb⟩
theorem hHas (lo hi n : Int) (b : Bool) (h : hasB lo hi n = b) (w : World) : Calls Try.prog 35 #[.agg #[.int .i64 lo, .int .i64 hi], .int .i64 n] w fun e w' => e = .returned (.bool b) ∧ Below w.heap.size w w' := by
  subst h; exact has_any lo hi n w
theorem has_t {lo hi n : Int} (h1 : lo ≤ n) (h2 : n ≤ hi) : hasB lo hi n = true := by unfold hasB; simp [h1, h2]

/-- What SpanInside asks of numbers of two spans. -/
theorem in_add {al ah bl bh x y : Int} (va : SV al ah) (vb : SV bl bh) (x1 : al ≤ x) (x2 : x ≤ ah) (y1 : bl ≤ y) (y2 : y ≤ bh) :
    (∃ s t, addR al ah bl bh = (s, t, 0) ∧ hasB s t (x + y) = true) ∨ addR al ah bl bh = (0, 0, 5) := by
  rw [addR_eq va vb]; unfold addS
  rcases fitS_cases (al + bl) (ah + bh) with ⟨v, e⟩ | ⟨v, e⟩
  · exact .inl ⟨_, _, e, has_t (by omega) (by omega)⟩
  · exact .inr e
theorem in_sub {al ah bl bh x y : Int} (va : SV al ah) (vb : SV bl bh) (x1 : al ≤ x) (x2 : x ≤ ah) (y1 : bl ≤ y) (y2 : y ≤ bh) :
    (∃ s t, subR al ah bl bh = (s, t, 0) ∧ hasB s t (x - y) = true) ∨ subR al ah bl bh = (0, 0, 5) := by
  rw [subR_eq va vb]; unfold subS
  rcases fitS_cases (al - bh) (ah - bl) with ⟨v, e⟩ | ⟨v, e⟩
  · exact .inl ⟨_, _, e, has_t (by omega) (by omega)⟩
  · exact .inr e
theorem in_mul {al ah bl bh x y : Int} (va : SV al ah) (vb : SV bl bh) (x1 : al ≤ x) (x2 : x ≤ ah) (y1 : bl ≤ y) (y2 : y ≤ bh) :
    (∃ s t, mulR al ah bl bh = (s, t, 0) ∧ partR x y 1 false = (x * y, true) ∧ hasB s t (x * y) = true) ∨ mulR al ah bl bh = (0, 0, 5) := by
  rw [mulR_eq va vb]
  by_cases c : (mulS al ah bl bh).2.2 = 0
  · have e : mulS al ah bl bh = ((mulS al ah bl bh).1, (mulS al ah bl bh).2.1, 0) := by rw [← c]
    obtain ⟨e1, e2, v0, v1, v2⟩ := mulS_ok e
    have k := corner_mul x1 x2 y1 y2
    rw [← e1, ← e2] at k
    have f1 : fl (x * y) 1 = x * y := fl_one _
    have p := part_fl (n := x) (num := y) (den := 1) (by omega) (by rw [f1]; omega) (by rw [f1]; omega)
    rw [f1] at p
    exact .inl ⟨_, _, e, p, has_t k.1 k.2⟩
  · right
    rw [mulS_eq] at c ⊢
    rcases fitS_cases (clip (mn4 (al * bl) (al * bh) (ah * bl) (ah * bh))) (clip (mx4 (al * bl) (al * bh) (ah * bl) (ah * bh))) with ⟨v, e⟩ | ⟨v, e⟩
    · rw [e] at c; exact absurd rfl c
    · exact e
theorem in_div {al ah bl bh x y : Int} (va : SV al ah) (vb : SV bl bh) (x1 : al ≤ x) (x2 : x ≤ ah) (y1 : bl ≤ y) (y2 : y ≤ bh) :
    (∃ s t, divR al ah bl bh = (s, t, 0) ∧ hasB bl bh 0 = false ∧ y ≠ 0 ∧ s ≤ fl x y ∧ ce x y ≤ t) ∨ (divR al ah bl bh = (0, 0, 16) ∧ hasB bl bh 0 = true) := by
  unfold divR; rw [ok2_of va vb]
  simp only [if_true]
  by_cases c : bl ≤ 0 ∧ 0 ≤ bh
  · rw [if_pos c]; exact .inr ⟨rfl, has_t c.1 c.2⟩
  · rw [if_neg c]
    refine .inl ⟨_, _, divS_ok va vb.1 (by omega), by unfold hasB; simp; omega, by omega, corner_fl x1 x2 y1 y2 (by omega), corner_ce x1 x2 y1 y2 (by omega)⟩
end Go.Proofs.Ytplepbaafamjfaa
