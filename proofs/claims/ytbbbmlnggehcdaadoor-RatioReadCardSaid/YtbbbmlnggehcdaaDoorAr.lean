/- Contracts of product, fit, Valid, Make, Floor, Ceil. -/
import Derived.Test.YtbbbmlnggehcdaaDoorBas
import Derived.Test.YtbbbmlnggehcdaaDoorShf
namespace Go.Proofs.YtbbbmlnggehcdaaDoor
open Go.ChangeShapes Go.WideShapes Go.ChangeAt Go.RowKit
set_option linter.unusedVariables false


/-- What fit returns. -/
def fitQ (minus : Bool) (ni di : Int) : Int × Int × Int := if 1152921504606846976 < ni ∨ 1152921504606846976 < di then (0, 0, 5) else (if minus then -ni else ni, di, 0)
theorem ret_frac {t : TypeId → TypeId} {a b c a' b' c' : Int} (h : (a, b, c) = (a', b', c')) : Ending.returned (.tuple #[.agg #[.int .i64 a, .int .i64 b], .int .i64 c]) = .returned (.tuple #[.agg #[.int .i64 a', .int .i64 b'], .int .i64 c']) := by
  simp only [Prod.mk.injEq] at h; obtain ⟨rfl, rfl, rfl⟩ := h; rfl

theorem fit_any (minus : Bool) (ni di : Int) (w : World) (hn : 0 ≤ ni) (hn2 : ni ≤ 18446744073709551615) (hd : 0 ≤ di) (hd2 : di ≤ 18446744073709551615) {x q e0 : Int} (hr : fitQ minus ni di = (x, q, e0)) :
    Calls Tryd.prog 42 #[.bool minus, .int .u64 ni, .int .u64 di] w fun e w' => e = .returned (.tuple #[.agg #[.int .i64 x, .int .i64 q], .int .i64 e0]) ∧ Below w.heap.size w w' := by
  by_cases h1 : 1152921504606846976 < ni
  · have e : (x, q, e0) = (0, 0, 5) := by rw [← hr]; unfold fitQ; rw [if_pos (by omega)]
    simp only [Prod.mk.injEq] at e; obtain ⟨rfl, rfl, rfl⟩ := e
    clear hr
    go_enter Tryd.func42, Tryd.ntmps42
    go_wp2
    refine bodyPost_ret (v := .tuple #[.agg #[.int .i64 0, .int .i64 0], .int .i64 5]) (by simp [results, Tryd.results42, go_sem]) rfl ⟨rfl, al1 _ _⟩
  · by_cases h2 : 1152921504606846976 < di
    · have e : (x, q, e0) = (0, 0, 5) := by rw [← hr]; unfold fitQ; rw [if_pos (by omega)]
      simp only [Prod.mk.injEq] at e; obtain ⟨rfl, rfl, rfl⟩ := e
      clear hr
      go_enter Tryd.func42, Tryd.ntmps42
      go_wp2
      refine bodyPost_ret (v := .tuple #[.agg #[.int .i64 0, .int .i64 0], .int .i64 5]) (by simp [results, Tryd.results42, go_sem]) rfl ⟨rfl, al1 _ _⟩
    · have e : (x, q, e0) = (if minus then -ni else ni, di, 0) := by rw [← hr]; unfold fitQ; rw [if_neg (by omega)]
      cases minus
      · simp only [Prod.mk.injEq] at e; obtain ⟨rfl, rfl, rfl⟩ := e
        clear hr
        go_enter Tryd.func42, Tryd.ntmps42
        go_wp2
        refine bodyPost_ret (v := .tuple #[.agg #[.int .i64 x, .int .i64 q], .int .i64 0]) (by simp [results, Tryd.results42, go_sem]) rfl ⟨rfl, al2 _ _ _⟩
      · simp only [Prod.mk.injEq] at e; obtain ⟨rfl, rfl, rfl⟩ := e
        clear hr
        go_enter Tryd.func42, Tryd.ntmps42
        go_wp2
        refine bodyPost_ret (v := .tuple #[.agg #[.int .i64 (-ni), .int .i64 q], .int .i64 0]) (by simp [results, Tryd.results42, go_sem]) rfl ⟨rfl, al2 _ _ _⟩

theorem product_any (a b : Int) (w : World) (ha : 0 ≤ a) (ha2 : a ≤ 18446744073709551615) (hb : 0 ≤ b) (hb2 : b ≤ 18446744073709551615) :
    Calls Tryd.prog 51 #[.int .u64 a, .int .u64 b] w fun e w' => e = .returned (.tuple #[.int .u64 (a * b % 18446744073709551616), .bool (decide (a * b ≤ 18446744073709551615))]) ∧ w = w' := by
  have hM : Calls Tryd.prog 65 #[.int .u64 a, .int .u64 b] w fun e w' => e = .returned (.tuple #[.int .u64 (a * b / 18446744073709551616), .int .u64 (a * b % 18446744073709551616)]) ∧ w' = w := by
    have h := Tryd.bits_Mul64 a.toNat b.toNat (by omega) (by omega) w
    have e1 : ((a.toNat : Nat) : Int) = a := by omega
    have e2 : ((b.toNat : Nat) : Int) = b := by omega
    simp only [Int.natCast_ediv, Int.natCast_emod, Int.natCast_mul, e1, e2] at h
    exact h
  obtain ⟨p, hp⟩ : ∃ p : Int, p = a * b / 18446744073709551616 := ⟨_, rfl⟩
  obtain ⟨r, hr⟩ : ∃ p : Int, p = a * b % 18446744073709551616 := ⟨_, rfl⟩
  have hd : decide (a * b ≤ 18446744073709551615) = (p == 0) := by
    have : 0 ≤ a * b := Int.mul_nonneg ha hb
    rw [hp, Bool.eq_iff_iff]; simp; omega
  rw [hd, ← hr]
  rw [← hp, ← hr] at hM
  clear hd hp hr
  go_enter Tryd.func51, Tryd.ntmps51
  go_wp2_with (first | (go_at_call 65; refine hM.mono ?_; rintro e w1 ⟨rfl, rfl⟩))
  go_ret2
  exact ⟨rfl, rfl⟩

theorem fit_mk {x q : Int} {minus : Bool} (hq : 0 < q) (hx : x = if minus then -(ab x) else ab x) : fitQ minus (ab x / gd x q) (q / gd x q) = mk x q := by
  obtain ⟨g0, e1, e2, q0, g1⟩ := red x q hq
  unfold fitQ mk
  rw [show (Int.gcd x q : Int) = gd x q from rfl] at *
  have g0' := g0
  generalize gd x q = g at *
  have e3 : x / g = if minus then -(ab x / g) else ab x / g := by
    cases minus
    · simp only [Bool.false_eq_true, if_false] at hx ⊢; rw [← hx]
    · simp only [if_true] at hx ⊢
      have : g ∣ ab x := by rw [show ab x = -x by omega]; exact Int.dvd_neg.2 ⟨_, e1.symm⟩
      rw [show x / g = -(ab x) / g by rw [← hx], Int.neg_ediv_of_dvd this]
  have nn : 0 ≤ ab x / g := Int.ediv_nonneg (ab_nn x) (by omega)
  rw [e3]
  generalize ab x / g = a at *
  generalize q / g = b at *
  cases minus
  · simp only [Bool.false_eq_true, if_false]
    by_cases h : 1152921504606846976 < a ∨ 1152921504606846976 < b
    · rw [if_pos h, if_neg (by omega)]
    · rw [if_neg h, if_pos (by omega)]
  · simp only [if_true]
    by_cases h : 1152921504606846976 < a ∨ 1152921504606846976 < b
    · rw [if_pos h, if_neg (by omega)]
    · rw [if_neg h, if_pos (by omega)]

/-- What Make returns. -/
def makeQ (n d : Int) : Int × Int × Int := if d = 0 then (0, 0, 16) else if d < 0 then mk (-n) (-d) else mk n d

theorem valid_any (n d : Int) (w : World) (n1 : -9223372036854775808 ≤ n) (n2 : n ≤ 9223372036854775807) (d1 : -9223372036854775808 ≤ d) (d2 : d ≤ 9223372036854775807) :
    Calls Tryd.prog 17 #[.agg #[.int .i64 n, .int .i64 d]] w fun e w' => e = .returned (.bool (vB n d)) ∧ Below w.heap.size w w' := by
  by_cases h : 1 ≤ d ∧ d ≤ 1152921504606846976 ∧ -1152921504606846976 ≤ n ∧ n ≤ 1152921504606846976
  · have hv : vB n d = (gd (ab n) (ab d) == 1) := by
      rw [gd_ab, Bool.eq_iff_iff, vB_t]; unfold V gd; simp; omega
    rw [hv]
    obtain ⟨h1, h2, h3, h4⟩ := h
    have an := ab_u (n := n) ⟨n1, n2⟩
    have ad := ab_u (n := d) ⟨d1, d2⟩
    clear hv
    go_enter Tryd.func17, Tryd.ntmps17
    go_wp2
    go_quiet (first | (go_at_call 40; exact (divisor_dr _ _ _ (by omega) (by omega) (by omega) (by omega)).mono fun e w' h => ⟨h.1, qui h.2⟩) | (go_at_call 41; exact (size_dr _ _ (by omega) (by omega)).mono fun e w' h => ⟨h.1, qui h.2⟩))
    go_wp2
    go_ret
    exact ⟨rfl, Dr.below (al1 _ _) ⟨_, rfl⟩⟩
  · have hv : vB n d = false := vB_f.2 fun k => h ⟨k.1, k.2.1, k.2.2.1, k.2.2.2.1⟩
    rw [hv]; clear hv
    go_enter Tryd.func17, Tryd.ntmps17
    go_wp2
    all_goals (go_ret; exact ⟨rfl, al1 _ _⟩)
end Go.Proofs.YtbbbmlnggehcdaaDoor
