/- StepsPulses: the walk. -/
import Derived.Test.YtbohcedclnbcdaaL1
namespace Go.Proofs.Ytbohcedclnbcdaa
open Go.ChangeShapes Go.WideShapes Go.ChangeAt Go.RowKit
set_option linter.unusedVariables false
set_option linter.unusedSimpArgs false

theorem OkS.sht {l : List Stp} (h : OkS l) : OkS (sht l) :=
  ⟨Nat.le_trans shF_sub.length_le h.len, fun s hs => h.pl s (shF_sub.subset hs), fun s hs => h.ar s (shF_sub.subset hs), shF_asc h.asc⟩
theorem pulse_yes2 (fr tz v : Int) (w : World) (h : (rng fr tz && !decide (fr = tz) && ara v) = true) :
    Calls Try.prog 29 #[.int .i64 fr, .int .i64 tz, .int .i64 v] w fun e w' => ∃ p c, e = .returned (.tuple #[.slice p (sht [(fr, v), (tz, 0)]).length c, .int .i64 0]) ∧ Sl w' p (sht [(fr, v), (tz, 0)]) ∧ Below w.heap.size w w' := by
  refine (pulse_yes fr tz v w h).mono ?_
  rintro e w' ⟨u, rfl, ho, hb⟩
  obtain ⟨p', c', rfl, hs, -⟩ := ho.sl (len_sht (by simp)) (i64_sht (pul_ok h))
  exact ⟨p', c', rfl, hs, hb⟩
theorem rpulse_yes2 (fr tz v : Int) (w : World) (h : (rng fr tz && !decide (fr = tz) && ara v) = true) :
    Calls Try.prog 30 #[.int .i64 fr, .int .i64 tz, .int .i64 v] w fun e w' => ∃ p c, e = .returned (.tuple #[.slice p (sht [(fr, v), (tz, 0)]).length c, .int .i64 0]) ∧ Sl w' p (sht [(fr, v), (tz, 0)]) ∧ Below w.heap.size w w' := by
  refine (rpulse_yes fr tz v w h).mono ?_
  rintro e w' ⟨u, rfl, ho, hb⟩
  obtain ⟨p', c', rfl, hs, -⟩ := ho.sl (len_sht (by simp)) (i64_sht (pul_ok h))
  exact ⟨p', c', rfl, hs, hb⟩
theorem pulse_sum {fr tz v : Int} (h : (rng fr tz && !decide (fr = tz) && ara v) = true) : smT (sht [(fr, v), (tz, 0)]) (-1048576) 1048576 = v * (tz - fr) := by
  have hb := h
  unfold rng at hb
  simp [plc_iff] at hb
  obtain ⟨⟨⟨⟨h1, h2⟩, h3⟩, h4⟩, h5⟩ := hb
  by_cases hv : v = 0
  · subst hv
    have : sht [(fr, 0), (tz, 0)] = [] := by simp [sht, shF]
    rw [this]
    simp [smT, smP]
  · have : sht [(fr, v), (tz, 0)] = [(fr, v), (tz, 0)] := by simp [sht, shF, hv, Ne.symm hv]
    rw [this]
    have e : max (min 1048576 tz - max fr (-1048576)) 0 = tz - fr := by omega
    simp [smT, smP, tm, en, e]
theorem eq_nil2 (p q : Option Addr) (c d : Nat) (w : World) :
    Calls Try.prog 18 #[.slice p 0 c, .slice q 0 d] w fun e w' => e = .returned (.bool true) ∧ w' = w := by
  go_enter Try.func18, Try.ntmps18
  go_wp2
  go_loop [13] (fun v => v = .int .i64 0) (fun _ => 0)
  case atStart => rfl
  case round =>
    subst hrel
    go_wp2
    go_ret
    exact ⟨rfl, rfl⟩
set_option maxHeartbeats 2000000 in
set_option maxRecDepth 100000 in
theorem pulses_walk (fr tz v : Int) (w : World) (hf : I64 fr) (ht : I64 tz) (hv : I64 v) :
    Calls Try.prog 6 #[.int .i64 fr, .int .i64 tz, .int .i64 v] w fun e w' => e = .returned (.bool true) ∧ Below w.heap.size w w' := by
  have ha := fun W => awake_any W
  cases h : (rng fr tz && !decide (fr = tz) && ara v)
  · have h1 := fun W => pulse_no fr tz v W h
    have h2 := fun W => rpulse_no fr tz v W (by rw [← rng_lt]; exact h)
    have h3 := fun W => eq_nil2 none none 0 0 W
    clear h
    go_enter Try.func6, Try.ntmps6
    go_wp2_with (first
      | (go_at_call 11; (with_reducible refine (ha _).mono ?_); rintro e w1 ⟨rfl, hb⟩)
      | (go_at_call 29; (with_reducible refine (h1 _).mono ?_); rintro e w2 ⟨rfl, hb2⟩; replace hb := belows hb hb2; clear hb2)
      | (go_at_call 30; (with_reducible refine (h2 _).mono ?_); rintro e w3 ⟨rfl, hb2⟩; replace hb := belows hb hb2; clear hb2)
      | (go_at_call 18; (with_reducible refine (h3 _).mono ?_); rintro e w4 ⟨rfl, hw⟩; obtain rfl := hw.symm; clear hw))
    go_ret
    exact ⟨rfl, hb⟩
  · have h1 := fun W => pulse_yes2 fr tz v W h
    have h2 := fun W => rpulse_yes2 fr tz v W h
    have hO := (pul_ok h).sht
    have h3 := fun p q c d W k k' => eq_same p q (sht [(fr, v), (tz, 0)]) c d W k k'
    have h4 := fun p c W k => sum_ok p (sht [(fr, v), (tz, 0)]) c (-1048576) 1048576 W k (okS_of hO) (by decide)
    rw [pulse_sum h] at h4
    have hb := h
    unfold rng at hb
    simp [plc_iff, ara_iff] at hb
    obtain ⟨⟨⟨⟨k1, k2⟩, k3⟩, k4⟩, k5⟩ := hb
    have w1 : IntKind.i64.wrap (tz - fr) = tz - fr := IntWalk.i64_in _ (by omega)
    have hm := mul_area (v := v) (D := tz - fr) k5 (by omega)
    have w2 : IntKind.i64.wrap (v * (tz - fr)) = v * (tz - fr) := IntWalk.i64_in _ (by omega)
    have HW := Lib.hid (And.intro w1 w2)
    generalize sht [(fr, v), (tz, 0)] = L at *
    clear h hO k1 k2 k3 k4 k5 hm hf ht hv
    go_enter Try.func6, Try.ntmps6
    go_wp2_with (first
      | (go_at_call 11; (with_reducible refine (ha _).mono ?_); rintro e w1 ⟨rfl, hb⟩)
      | (go_at_call 29; (with_reducible refine (h1 _).mono ?_); rintro e w2 ⟨p, c, rfl, hS, hb2⟩; replace hb := belows hb hb2; clear hb2)
      | (go_at_call 30; (with_reducible refine (h2 _).mono ?_); rintro e w3 ⟨q, d, rfl, hS2, hb2⟩; replace hb := belows hb hb2; replace hS := hS.on hb2; clear hb2)
      | (go_at_call 18; (with_reducible refine (h3 p q c d _ hS hS2).mono ?_); rintro e w4 ⟨rfl, hb2⟩; replace hb := belows hb hb2; replace hS := hS.on hb2; clear hb2)
      | (go_at_call 25; (with_reducible refine (h4 p c _ hS).mono ?_); rintro e w5 ⟨rfl, hb2⟩; replace hb := belows hb hb2; clear hb2))
    go_ret
    exact ⟨by simp, hb⟩
end Go.Proofs.Ytbohcedclnbcdaa
