/- The reference's root; Part by its ends. -/
import Derived.Test.YtplepbaafamjfaaV23
import Derived.Test.YtplepbaafamjfaaV19
namespace Go.Proofs.Ytplepbaafamjfaa
open Go.ChangeShapes Go.WideShapes Go.ChangeAt Go.RowKit
set_option linter.unusedVariables false
set_option linter.unusedSimpArgs false

/-- What the reference's search for a root holds. -/
def SqI (n lo hi : Int) : Prop := 0 ≤ lo ∧ lo ≤ hi ∧ hi ≤ 1073741824 ∧ lo * lo ≤ n ∧ n < (hi + 1) * (hi + 1)
theorem SqI.step {n lo hi : Int} (h : SqI n lo hi) (c : lo < hi) : ∃ m, (lo + hi + 1) / 2 = m ∧ 0 < m ∧ lo < m ∧ m ≤ hi ∧ m ≤ 1073741824 ∧ 0 ≤ m * m ∧ m * m ≤ 1152921504606846976 ∧ (m * m ≤ n → SqI n m hi) ∧ (¬ m * m ≤ n → SqI n lo (m - 1)) := by
  obtain ⟨h1, h2, h3, h4, h5⟩ := h
  refine ⟨_, rfl, by omega, by omega, by omega, by omega, ?_⟩
  have b : (lo + hi + 1) / 2 ≤ 1073741824 := by omega
  have p : 0 < (lo + hi + 1) / 2 := by omega
  have l : (lo + hi + 1) / 2 ≤ hi := by omega
  have l' : lo ≤ (lo + hi + 1) / 2 - 1 := by omega
  generalize (lo + hi + 1) / 2 = m at *
  have s := sq_le (show 0 ≤ m by omega) b
  refine ⟨Int.mul_nonneg (by omega) (by omega), by omega, fun d => ⟨by omega, l, h3, d, h5⟩, fun d => ⟨h1, l', by omega, h4, ?_⟩⟩
  rw [show m - 1 + 1 = m by omega]; omega
set_option maxHeartbeats 1000000 in
theorem sqrt_any (n : Int) (w : World) (h1 : 0 ≤ n) (h2 : n ≤ 1152921504606846976) :
    Calls Try.prog 56 #[.int .i64 n] w (AnyRoot n w) := by
  go_enter Try.func56, Try.ntmps56
  go_wp2
  go_loop [3, 4] (fun s t => ∃ lo hi : Int, SqI n lo hi ∧ s = .int .i64 lo ∧ t = .int .i64 hi) (fun s t => (intOf t - intOf s).toNat)
  case atStart => exact ⟨0, 1073741824, ⟨by omega, by omega, by omega, by omega, by omega⟩, rfl, rfl⟩
  case round =>
    obtain ⟨lo, hi, hI, rfl, rfl⟩ := hrel
    by_cases c : lo < hi
    · obtain ⟨m, e, m0, m1, m2, m3, z0, z1, yes, no⟩ := hI.step c
      obtain ⟨i1, i2, i3, -, -⟩ := hI
      have HE := Lib.hid e
      have W0 : IntKind.i64.wrap (lo + hi) = lo + hi := IntWalk.i64_in _ (by omega)
      have W1 : IntKind.i64.wrap (lo + hi + 1) = lo + hi + 1 := IntWalk.i64_in _ (by omega)
      have W2 : IntKind.i64.wrap ((lo + hi + 1).tdiv 2) = m := by rw [Int.tdiv_eq_ediv_of_nonneg (by omega), e]; exact IntWalk.i64_in _ (by omega)
      have W3 : IntKind.i64.wrap (m * m) = m * m := IntWalk.i64_in _ (by omega)
      have W4 : IntKind.i64.wrap (m - 1) = m - 1 := IntWalk.i64_in _ (by omega)
      have HY := Lib.hid yes; clear yes
      have HN := Lib.hid no; clear no
      by_cases d : m * m ≤ n
      · have HD := Lib.hid (HY.out d)
        go_wp2
        go_round
        case rel => exact ⟨m, hi, HD.out, rfl, rfl⟩
        case measure => simp [intOf]; omega
      · have HD := Lib.hid (HN.out d)
        go_wp2
        go_round
        case rel => exact ⟨lo, m - 1, HD.out, rfl, rfl⟩
        case measure => simp [intOf]; omega
    · have e : lo = hi := by have := hI.2.1; omega
      subst e
      have HC := Lib.hid (show IsRoot lo n from ⟨hI.1, hI.2.2.2.1, hI.2.2.2.2⟩); clear hI
      go_wp2
      go_ret
      exact ⟨lo, HC.out, rfl, rfl⟩
theorem sqrt_is (n r : Int) (w : World) (h1 : 0 ≤ n) (h2 : n ≤ 1152921504606846976) (hr : IsRoot r n) :
    Calls Try.prog 56 #[.int .i64 n] w fun e w' => e = .returned (.int .i64 r) ∧ w = w' :=
  (sqrt_any n w h1 h2).mono fun e w' ⟨s, hs, he, hw⟩ => ⟨by rw [he, root_unique hs hr], hw⟩

theorem rroot_neg (al ah : Int) (w : World) (h : al < 0) :
    Calls Try.prog 31 #[.agg #[.int .i64 al, .int .i64 ah]] w fun e w' => e = .returned (.tuple #[.agg #[.int .i64 0, .int .i64 0], .int .i64 2]) ∧ Below w.heap.size w w' := by
  go_enter Try.func31, Try.ntmps31
  go_wp2
  refine bodyPost_ret (v := .tuple #[.agg #[.int .i64 0, .int .i64 0], .int .i64 2]) (by simp [results, Try.results31, go_sem]) rfl ⟨rfl, al2 _ _ _⟩
set_option maxHeartbeats 1000000 in
theorem rroot_ok (al ah x y r : Int) (w : World) (va : SV al ah) (h : 0 ≤ al) (hx : IsRoot x al) (hr : IsRoot r ah) (hy : y = if r * r < ah then r + 1 else r) :
    Calls Try.prog 31 #[.agg #[.int .i64 al, .int .i64 ah]] w fun e w' => e = .returned (.tuple #[.agg #[.int .i64 x, .int .i64 y], .int .i64 0]) ∧ Below w.heap.size w w' := by
  obtain ⟨a1, a2, a3⟩ := va
  have h1 := fun W => sqrt_is al x W h (by omega) hx
  have h2 := fun W => sqrt_is ah r W (by omega) (by omega) hr
  have bx := root_b hx (by omega)
  have br := root_b hr (by omega)
  have x0 := hx.1
  have r0 := hr.1
  have rr : r * r ≤ 1152921504606846976 := by have := hr.2.1; omega
  have rn : 0 ≤ r * r := Int.mul_nonneg r0 r0
  have W1 : IntKind.i64.wrap (r * r) = r * r := IntWalk.i64_in _ (by omega)
  clear hx hr
  by_cases c : r * r < ah
  · rw [if_pos c] at hy
    subst hy
    go_enter Try.func31, Try.ntmps31
    go_wp2_with (go_at_call 56; first | ((with_reducible refine (h1 _).mono ?_); rintro e w2 ⟨rfl, rfl⟩) | ((with_reducible refine (h2 _).mono ?_); rintro e w2 ⟨rfl, rfl⟩))
    refine bodyPost_ret (v := .tuple #[.agg #[.int .i64 x, .int .i64 (r + 1)], .int .i64 0]) (by simp [results, Try.results31, go_sem]) rfl ⟨rfl, al2 _ _ _⟩
  · rw [if_neg c] at hy
    subst hy
    go_enter Try.func31, Try.ntmps31
    go_wp2_with (go_at_call 56; first | ((with_reducible refine (h1 _).mono ?_); rintro e w2 ⟨rfl, rfl⟩) | ((with_reducible refine (h2 _).mono ?_); rintro e w2 ⟨rfl, rfl⟩))
    refine bodyPost_ret (v := .tuple #[.agg #[.int .i64 x, .int .i64 y], .int .i64 0]) (by simp [results, Try.results31, go_sem]) rfl ⟨rfl, al2 _ _ _⟩
theorem rroot_p (al ah : Int) (w : World) (va : SV al ah) : Calls Try.prog 31 #[.agg #[.int .i64 al, .int .i64 ah]] w (Tup w (rootR al ah)) := by
  have h := sB_t.2 va
  have v1 := va.1
  by_cases c : al < 0
  · exact tup_of (rroot_neg al ah w c) (by unfold rootR; rw [h, if_pos rfl, if_pos c])
  · exact tup_of (rroot_ok al ah _ _ (rt ah) w va (by omega) (rt_is (by omega)) (rt_is (by omega)) rfl) (by unfold rootR; rw [h, if_pos rfl, if_neg c]; rfl)

theorem part_lo (n num den : Int) : (partR n num den false = (sLo n num den, true) ∧ -1152921504606846976 ≤ sLo n num den ∧ sLo n num den ≤ 1152921504606846976) ∨ (partR n num den false = (0, false) ∧ (sLo n num den < -1152921504606846976 ∨ 1152921504606846976 < sLo n num den)) := by
  have q := sQ_nn n num den
  unfold partR ptQ sLo s0H s0L
  generalize sQ n num den = Q at *
  generalize sR n num den = R at *
  cases sM n num den <;> simp only [Bool.false_eq_true, if_false, if_true, ne_eq, not_true, not_false_eq_true, and_true, and_false, Bool.true_eq_false] <;> repeat' split
  all_goals simp_all
  all_goals omega
theorem part_hi (n num den : Int) : (partR n num den true = (sHi n num den, true) ∧ -1152921504606846976 ≤ sHi n num den ∧ sHi n num den ≤ 1152921504606846976) ∨ (partR n num den true = (0, false) ∧ (sHi n num den < -1152921504606846976 ∨ 1152921504606846976 < sHi n num den)) := by
  have q := sQ_nn n num den
  unfold partR ptQ sHi s0H s0L
  generalize sQ n num den = Q at *
  generalize sR n num den = R at *
  cases sM n num den <;> simp only [Bool.false_eq_true, if_false, if_true, ne_eq, not_true, not_false_eq_true, and_true, and_false, Bool.true_eq_false] <;> repeat' split
  all_goals simp_all
  all_goals omega
theorem s_le (n num den : Int) (hd : den ≠ 0) : sLo n num den ≤ sHi n num den := by
  rw [(s_clip n num den hd).1, (s_clip n num den hd).2]; exact clip_mono (fl_le_ce _ _ hd).1

end Go.Proofs.Ytplepbaafamjfaa
