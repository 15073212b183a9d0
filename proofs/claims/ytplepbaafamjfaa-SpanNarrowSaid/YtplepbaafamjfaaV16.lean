/- What SpanNarrow asks, as facts. -/
import Derived.Test.YtplepbaafamjfaaV15
namespace Go.Proofs.Ytplepbaafamjfaa
open Go.ChangeShapes Go.WideShapes Go.ChangeAt Go.RowKit
set_option linter.unusedVariables false
set_option linter.unusedSimpArgs false

/-- What SpanNarrow's function literal reports. -/
def inB (xl xh e yl yh f : Int) : Bool := (f != 0) || ((e == 0) && insB xl xh yl yh)
theorem lit_in (xl xh e yl yh f : Int) (w : World) (h : inB xl xh e yl yh f = true) :
    Calls Try.prog 40 #[.agg #[.int .i64 xl, .int .i64 xh], .int .i64 e, .agg #[.int .i64 yl, .int .i64 yh], .int .i64 f] w fun x w' => x = .returned (.bool true) ∧ Below w.heap.size w w' := by
  unfold inB at h
  by_cases c : f = 0
  · subst c
    have h' : (e == 0) = true ∧ insB xl xh yl yh = true := by simpa using h
    obtain ⟨he, hi⟩ := h'
    have hI := fun W => hRi xl xh yl yh true hi W
    clear h hi
    go_enter Try.func40, Try.ntmps40
    go_wp2_with (go_at_call 41; (with_reducible refine (hI _).mono ?_); rintro e w1 ⟨rfl, hb⟩; have B := belows (al2 _ _ _) hb)
    go_ret
    exact ⟨rfl, B⟩
  · have c' : (f == 0) = false := by simp [c]
    clear h
    go_enter Try.func40, Try.ntmps40
    go_wp2
    go_ret
    exact ⟨by first | rfl | simp [c], al2 _ _ _⟩
/-- A number of a valid span. -/
def atN (lo hi n : Int) : Int := lo + n % (hi - lo + 1)
theorem at_b {lo hi : Int} (v : SV lo hi) (n : Int) : lo ≤ atN lo hi n ∧ atN lo hi n ≤ hi := by
  obtain ⟨a, b, c⟩ := v
  unfold atN
  have := Int.emod_nonneg n (show hi - lo + 1 ≠ 0 by omega)
  have := Int.emod_lt_of_pos n (show 0 < hi - lo + 1 by omega)
  omega
theorem at_any (lo hi n : Int) (w : World) (v : SV lo hi) (h0 : 0 ≤ n) (h1 : n ≤ 18446744073709551615) :
    Calls Try.prog 34 #[.agg #[.int .i64 lo, .int .i64 hi], .int .u64 n] w fun e w' => e = .returned (.int .i64 (atN lo hi n)) ∧ Below w.heap.size w w' := by
  have b := at_b v n
  obtain ⟨v0, v1, v2⟩ := v
  have m0 := Int.emod_nonneg n (show hi - lo + 1 ≠ 0 by omega)
  have m1 := Int.emod_lt_of_pos n (show 0 < hi - lo + 1 by omega)
  unfold atN at *
  have W1 : IntKind.i64.wrap (hi - lo) = hi - lo := IntWalk.i64_in _ (by omega)
  have W2 : IntKind.i64.wrap (hi - lo + 1) = hi - lo + 1 := IntWalk.i64_in _ (by omega)
  have W3 : IntKind.u64.wrap (hi - lo + 1) = hi - lo + 1 := by rw [IntKind.wrap_u64]; omega
  have p : 0 < hi - lo + 1 := by omega
  have z : (hi - lo + 1 == 0) = false := by simp; omega
  have W4 : IntKind.u64.wrap (n.tmod (hi - lo + 1)) = n % (hi - lo + 1) := by rw [Int.tmod_eq_emod_of_nonneg h0, IntKind.wrap_u64]; omega
  have W5 : IntKind.i64.wrap (n % (hi - lo + 1)) = n % (hi - lo + 1) := IntWalk.i64_in _ (by omega)
  have W6 : IntKind.i64.wrap (lo + n % (hi - lo + 1)) = lo + n % (hi - lo + 1) := IntWalk.i64_in _ (by omega)
  go_enter Try.func34, Try.ntmps34
  go_wp2
  go_quiet (fail)
  go_wp2
  go_ret
  exact ⟨rfl, Dr.below (al1 _ _) ⟨_, rfl⟩⟩

theorem nar_of {f : Int × Int × Int} {g : Int × Int × Int} (h : ∀ x y, f = (x, y, 0) → ∃ u v, g = (u, v, 0) ∧ x ≤ u ∧ v ≤ y) : inB g.1 g.2.1 g.2.2 f.1 f.2.1 f.2.2 = true := by
  unfold inB
  by_cases c : f.2.2 = 0
  · obtain ⟨u, v, e, k1, k2⟩ := h f.1 f.2.1 (by rw [← c])
    rw [e, c]
    simp [ins_t k1 k2]
  · simp [c]
theorem fit_nar {a b c d x y : Int} (h : fitS a b = (x, y, 0)) (h1 : a ≤ c) (h2 : d ≤ b) (h3 : c ≤ d) : ∃ u v, fitS c d = (u, v, 0) ∧ x ≤ u ∧ v ≤ y := by
  obtain ⟨v, rfl, rfl⟩ := fitS_ok h
  obtain ⟨v0, v1, v2⟩ := v
  exact ⟨c, d, fitS_of (by unfold SV; omega), h1, h2⟩
/-- All five results are inside of those of the wider spans. -/
theorem nar_all {al ah bl bh cl ch dl dh : Int} (va : SV al ah) (vb : SV bl bh) (vc : SV cl ch) (vd : SV dl dh) (c1 : al ≤ cl) (c2 : ch ≤ ah) (d1 : bl ≤ dl) (d2 : dh ≤ bh) :
    inB (addR cl ch dl dh).1 (addR cl ch dl dh).2.1 (addR cl ch dl dh).2.2 (addR al ah bl bh).1 (addR al ah bl bh).2.1 (addR al ah bl bh).2.2 = true ∧
    inB (subR cl ch dl dh).1 (subR cl ch dl dh).2.1 (subR cl ch dl dh).2.2 (subR al ah bl bh).1 (subR al ah bl bh).2.1 (subR al ah bl bh).2.2 = true ∧
    inB (mulR cl ch dl dh).1 (mulR cl ch dl dh).2.1 (mulR cl ch dl dh).2.2 (mulR al ah bl bh).1 (mulR al ah bl bh).2.1 (mulR al ah bl bh).2.2 = true ∧
    inB (divR cl ch dl dh).1 (divR cl ch dl dh).2.1 (divR cl ch dl dh).2.2 (divR al ah bl bh).1 (divR al ah bl bh).2.1 (divR al ah bl bh).2.2 = true ∧
    inB (rootR cl ch).1 (rootR cl ch).2.1 (rootR cl ch).2.2 (rootR al ah).1 (rootR al ah).2.1 (rootR al ah).2.2 = true := by
  have vc' := vc.1
  have vd' := vd.1
  have va' := va.1
  refine ⟨nar_of fun x y h => ?_, nar_of fun x y h => ?_, nar_of fun x y h => ?_, nar_of fun x y h => ?_, nar_of fun x y h => ?_⟩
  · rw [addR_eq va vb] at h; rw [addR_eq vc vd]; unfold addS at *; exact fit_nar h (by omega) (by omega) (by omega)
  · rw [subR_eq va vb] at h; rw [subR_eq vc vd]; unfold subS at *; exact fit_nar h (by omega) (by omega) (by omega)
  · rw [mulR_eq va vb] at h; rw [mulR_eq vc vd]; exact mulS_in h vc' vd' c1 c2 d1 d2
  · unfold divR at h ⊢
    rw [ok2_of va vb] at h; rw [ok2_of vc vd]
    simp only [if_true] at h ⊢
    by_cases z : bl ≤ 0 ∧ 0 ≤ bh
    · rw [if_pos z] at h; simp at h
    · rw [if_neg z] at h; rw [if_neg (by omega)]
      obtain ⟨x', y', u, v, e1, e2, k1, k2⟩ := divS_in va vb.1 (by omega) vc' vd' c1 c2 d1 d2
      rw [e1] at h; simp only [Prod.mk.injEq] at h; obtain ⟨rfl, rfl, -⟩ := h
      exact ⟨u, v, e2, k1, k2⟩
  · unfold rootR at h ⊢
    rw [sB_t.2 va] at h; rw [sB_t.2 vc]
    simp only [if_true] at h ⊢
    by_cases z : al < 0
    · rw [if_pos z] at h; simp at h
    · rw [if_neg z] at h; rw [if_neg (by omega)]
      simp only [Prod.mk.injEq] at h; obtain ⟨rfl, rfl, -⟩ := h
      have k1 := rt_is (show 0 ≤ al by omega)
      have k2 := rt_is (show 0 ≤ cl by omega)
      have k3 := rt_is (show 0 ≤ ch by omega)
      have k4 := rt_is (show 0 ≤ ah by omega)
      refine ⟨_, _, rfl, root_mono k1 k2 c1, ?_⟩
      have m := root_mono k3 k4 c2
      unfold rtU
      split
      · rename_i q
        split
        · omega
        · rename_i q'
          obtain ⟨r0, r1, r2⟩ := k3
          have := @sq_lt (rt ch) (rt ah) k4.1 (by omega)
          omega
      · split <;> omega
end Go.Proofs.Ytplepbaafamjfaa
