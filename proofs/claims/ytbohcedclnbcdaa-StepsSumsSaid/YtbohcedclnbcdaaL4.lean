/- StepsFirst: the walk. -/
import Derived.Test.YtbohcedclnbcdaaP1
namespace Go.Proofs.Ytbohcedclnbcdaa
open Go.ChangeShapes Go.WideShapes Go.ChangeAt Go.RowKit
set_option linter.unusedVariables false
set_option linter.unusedSimpArgs false

theorem u32_of_wf {n : Int} (h : (Lit.int .u32 n).wf = true) : 0 ≤ n ∧ n < 4294967296 := by
  simp [Lit.wf, IntKind.min, IntKind.max, IntKind.bits, IntKind.signed] at h
  omega
set_option maxHeartbeats 2000000 in
set_option maxRecDepth 100000 in
theorem first_long (p : Option Addr) (la : List Stp) (ca : Nat) (q : Option Addr) (lb : List Stp) (cb : Nat) (fr tz bf : Int) (w : World) (hl : (decide (250 < la.length) || decide (250 < lb.length)) = true) :
    Calls Try.prog 8 #[.slice p la.length ca, .slice q lb.length cb, .int .i64 fr, .int .i64 tz, .int .u32 bf] w fun e w' => e = .returned (.bool true) ∧ Below w.heap.size w w' := by
  have ha := fun W => awake_any W
  have hf := fun W => few2 W p q la.length ca lb.length cb
  rw [hl, Bool.not_true] at hf
  clear hl
  go_enter Try.func8, Try.ntmps8
  go_wp2_with (first
          | (go_at_call 11; (with_reducible refine (ha _).mono ?_); rintro e w1 ⟨rfl, hb⟩; have B := al hb (.cells #[.slice p la.length ca, .slice q lb.length cb] 22); clear hb)
          | (go_at_call 12; (with_reducible refine (hf _).mono ?_); rintro e w2 ⟨rfl, hw⟩; obtain rfl := hw.symm; clear hw))
  go_ret
  exact ⟨rfl, B⟩
set_option maxHeartbeats 2000000 in
set_option maxRecDepth 100000 in
theorem first_bad (p : Option Addr) (la : List Stp) (ca : Nat) (q : Option Addr) (lb : List Stp) (cb : Nat) (fr tz bf : Int) (w : World) (hA : Sl w p la) (hB : Sl w q lb) (hl : (decide (250 < la.length) || decide (250 < lb.length)) = false)
    (c : Int) (hr : belR la lb fr tz = (0, c)) (h0 : c ≠ 0) (h12 : c ≠ 12) :
    Calls Try.prog 8 #[.slice p la.length ca, .slice q lb.length cb, .int .i64 fr, .int .i64 tz, .int .u32 bf] w fun e w' => e = .returned (.bool true) ∧ Below w.heap.size w w' := by
  have ha := fun W => awake_any W
  have hf := fun W => few2 W p q la.length ca lb.length cb
  rw [hl, Bool.not_false] at hf
  have h1 := fun W h h' => below_any p q la lb ca cb fr tz W h h'
  rw [hr] at h1
  have g1 : (c != 0) = true := by simp [h0]
  have g2 : (c != 12) = true := by simp [h12]
  clear hl hr h0 h12
  go_enter Try.func8, Try.ntmps8
  go_wp2_with (first
          | (go_at_call 11; (with_reducible refine (ha _).mono ?_); rintro e w1 ⟨rfl, hb⟩; have B := al hb (.cells #[.slice p la.length ca, .slice q lb.length cb] 22); clear hb)
          | (go_at_call 12; (with_reducible refine (hf _).mono ?_); rintro e w2 ⟨rfl, hw⟩; obtain rfl := hw.symm; clear hw)
          | (go_at_call 24; (with_reducible refine (h1 _ (hA.on B) (hB.on B)).mono ?_); rintro e w3 ⟨rfl, hb⟩; replace B := belows B hb; clear hb h1))
  go_ret
  exact ⟨rfl, B⟩
set_option maxHeartbeats 4000000 in
set_option maxRecDepth 100000 in
theorem first_none (p : Option Addr) (la : List Stp) (ca : Nat) (q : Option Addr) (lb : List Stp) (cb : Nat) (fr tz bf : Int) (w : World) (hA : Sl w p la) (hB : Sl w q lb) (hl : (decide (250 < la.length) || decide (250 < lb.length)) = false)
    (hbf : 0 ≤ bf ∧ bf < 4294967296) (oa : okS la = true) (ob : okS lb = true) (hR : rng fr tz = true) (hn : bel la lb fr tz = none) :
    Calls Try.prog 8 #[.slice p la.length ca, .slice q lb.length cb, .int .i64 fr, .int .i64 tz, .int .u32 bf] w fun e w' => e = .returned (.bool true) ∧ Below w.heap.size w w' := by
  have ha := fun W => awake_any W
  have hf := fun W => few2 W p q la.length ca lb.length cb
  rw [hl, Bool.not_false] at hf
  have h1 := fun W h h' => below_any p q la lb ca cb fr tz W h h'
  have hbr : belR la lb fr tz = (0, 12) := by unfold belR; rw [oa, ob, if_pos (by rfl), if_pos hR, hn]
  rw [hbr] at h1
  have hr3 : plc fr = true ∧ plc tz = true ∧ fr ≤ tz := by unfold rng at hR; simpa [and_assoc] using hR
  have hp1 := (plc_iff _).1 hr3.1
  have hp2 := (plc_iff _).1 hr3.2.1
  have hft := hr3.2.2
  clear hl hbr hr3
  by_cases hw : fr = -1048576 ∧ tz = 1048576
  · obtain ⟨rfl, rfl⟩ := hw
    have hls := least_second (okS_to oa) (okS_to ob) hn
    have t1 := fun W h h' => least_ok p q la lb ca cb W h h' oa ob
    rw [hls] at t1
    have t2 := fun W h => short_ok q lb cb W h ob
    have t3 := fun p' c' q' d' W h h' => eq_same p' q' (sht lb) c' d' W h h'
    generalize sht lb = L at *
    simp only at t1
    clear hls hn oa ob hR hp1 hp2 hft hbf
    go_enter Try.func8, Try.ntmps8
    go_wp2_with (first
          | (go_at_call 11; (with_reducible refine (ha _).mono ?_); rintro e w1 ⟨rfl, hb⟩; have B := al hb (.cells #[.slice p la.length ca, .slice q lb.length cb] 22); clear hb)
          | (go_at_call 12; (with_reducible refine (hf _).mono ?_); rintro e w2 ⟨rfl, hw⟩; obtain rfl := hw.symm; clear hw)
          | (go_at_call 24; (with_reducible refine (h1 _ (hA.on B) (hB.on B)).mono ?_); rintro e w3 ⟨rfl, hb⟩; replace B := belows B hb; clear hb h1)
          | (go_at_call 21; (with_reducible refine (t1 _ (hA.on B) (hB.on B)).mono ?_); rintro e w4 ⟨p4, c4, rfl, S4, hb⟩; replace B := belows B hb; clear hb t1)
          | (go_at_call 14; (with_reducible refine (t2 _ (hB.on B)).mono ?_); rintro e w5 ⟨p5, c5, rfl, S5, hb⟩; replace B := belows B hb; replace S4 := S4.on hb; clear hb t2)
          | (go_at_call 18; (with_reducible refine (t3 p4 c4 p5 c5 _ S4 S5).mono ?_); rintro e w6 ⟨rfl, hb⟩; replace B := belows B hb; clear hb t3))
    go_ret
    exact ⟨by simp, B⟩
  · have hfull : (fr != -1048576) = true ∨ (fr != -1048576) = false ∧ (tz != 1048576) = true := by
      by_cases e : fr = -1048576
      · exact .inr ⟨by simp [e], by simp; exact fun e2 => hw ⟨e, e2⟩⟩
      · exact .inl (by simp [e])
    have HB := Lib.hid (fun y h1 h2 => bel_none (okS_to oa).asc (okS_to ob).asc hn (y := y) h1 h2)
    have hy1 := Int.tmod_nonneg (a := bf) (tz - fr + 1) hbf.1
    have hy2 := Int.tmod_lt_of_pos bf (show 0 < tz - fr + 1 by omega)
    have wd : IntKind.i64.wrap (tz - fr) = tz - fr := IntWalk.i64_in _ (by omega)
    have wd1 : IntKind.i64.wrap (tz - fr + 1) = tz - fr + 1 := IntWalk.i64_in _ (by omega)
    have wb : IntKind.i64.wrap bf = bf := IntWalk.i64_in _ (by omega)
    have hn0 : ¬ (tz - fr + 1 = 0) := by omega
    have hn1 : (tz - fr + 1 == 0) = false := by simpa using hn0
    have hn2 : decide (tz - fr + 1 = 0) = false := decide_eq_false hn0
    obtain ⟨r, hr⟩ : ∃ r, r = Int.tmod bf (tz - fr + 1) := ⟨_, rfl⟩
    rw [← hr] at hy1 hy2
    have hrr : Int.tmod bf (tz - fr + 1) = r := hr.symm
    have wr0 : IntKind.i64.wrap r = r := IntWalk.i64_in _ (by omega)
    obtain ⟨y, hy⟩ : ∃ y, y = fr + r := ⟨_, rfl⟩
    have wy : IntKind.i64.wrap (fr + r) = y := by rw [IntWalk.i64_in _ (by omega), hy]
    have hyr : fr ≤ y ∧ y ≤ tz := by omega
    clear hr hy hy1 hy2
    have t1 := fun W h => at_ok p la ca y W h oa
    have t2 := fun W h => at_ok q lb cb y W h ob
    have hge := HB.out y hyr.1 hyr.2
    generalize va la y = n at *
    generalize va lb y = m at *
    have g1 : decide (m ≤ n) = true := decide_eq_true hge
    clear hw hge hn oa ob hR hp1 hp2 hft hbf HB hyr
    rcases hfull with hfull | ⟨hfull, hfull2⟩
    all_goals (
      go_enter Try.func8, Try.ntmps8
      go_wp2_with (first
          | (go_at_call 11; (with_reducible refine (ha _).mono ?_); rintro e w1 ⟨rfl, hb⟩; have B := al hb (.cells #[.slice p la.length ca, .slice q lb.length cb] 22); clear hb)
          | (go_at_call 12; (with_reducible refine (hf _).mono ?_); rintro e w2 ⟨rfl, hw⟩; obtain rfl := hw.symm; clear hw)
          | (go_at_call 24; (with_reducible refine (h1 _ (hA.on B) (hB.on B)).mono ?_); rintro e w3 ⟨rfl, hb⟩; replace B := belows B hb; clear hb h1)
          | (go_at_call 13; (with_reducible refine (t1 _ (hA.on B)).mono ?_); rintro e w4 ⟨rfl, hb⟩; replace B := belows B hb; clear hb t1)
          | (go_at_call 13; (with_reducible refine (t2 _ (hB.on B)).mono ?_); rintro e w4 ⟨rfl, hb⟩; replace B := belows B hb; clear hb t2))
      go_ret
      exact ⟨by simp, B⟩)
set_option maxHeartbeats 4000000 in
set_option maxRecDepth 100000 in
theorem first_some (p : Option Addr) (la : List Stp) (ca : Nat) (q : Option Addr) (lb : List Stp) (cb : Nat) (fr tz bf : Int) (w : World) (hA : Sl w p la) (hB : Sl w q lb) (hl : (decide (250 < la.length) || decide (250 < lb.length)) = false)
    (hbf : 0 ≤ bf ∧ bf < 4294967296) (oa : okS la = true) (ob : okS lb = true) (hR : rng fr tz = true) (x : Int) (hs : bel la lb fr tz = some x) :
    Calls Try.prog 8 #[.slice p la.length ca, .slice q lb.length cb, .int .i64 fr, .int .i64 tz, .int .u32 bf] w fun e w' => e = .returned (.bool true) ∧ Below w.heap.size w w' := by
  have ha := fun W => awake_any W
  have hf := fun W => few2 W p q la.length ca lb.length cb
  rw [hl, Bool.not_false] at hf
  have h1 := fun W h h' => below_any p q la lb ca cb fr tz W h h'
  have hbr : belR la lb fr tz = (x, 0) := by unfold belR; rw [oa, ob, if_pos (by rfl), if_pos hR, hs]
  rw [hbr] at h1
  have hr3 : plc fr = true ∧ plc tz = true ∧ fr ≤ tz := by unfold rng at hR; simpa [and_assoc] using hR
  have hp1 := (plc_iff _).1 hr3.1
  have hp2 := (plc_iff _).1 hr3.2.1
  have hft := hr3.2.2
  obtain ⟨x1, x2, x3, x4⟩ := bel_some (okS_to oa).asc (okS_to ob).asc hft hs
  have c1 : decide (x < fr) = false := decide_eq_false (by omega)
  have c2 : decide (tz < x) = false := decide_eq_false (by omega)
  clear hl hbr hr3
  have hy1 := Int.tmod_nonneg (a := bf) (x - fr + 1) hbf.1
  have hy2 := Int.tmod_lt_of_pos bf (show 0 < x - fr + 1 by omega)
  have wd : IntKind.i64.wrap (x - fr) = x - fr := IntWalk.i64_in _ (by omega)
  have wd1 : IntKind.i64.wrap (x - fr + 1) = x - fr + 1 := IntWalk.i64_in _ (by omega)
  have wb : IntKind.i64.wrap bf = bf := IntWalk.i64_in _ (by omega)
  have hn0 : ¬ (x - fr + 1 = 0) := by omega
  have hn1 : (x - fr + 1 == 0) = false := by simpa using hn0
  have hn2 : decide (x - fr + 1 = 0) = false := decide_eq_false hn0
  obtain ⟨r, hr⟩ : ∃ r, r = Int.tmod bf (x - fr + 1) := ⟨_, rfl⟩
  rw [← hr] at hy1 hy2
  have hrr : Int.tmod bf (x - fr + 1) = r := hr.symm
  have wr0 : IntKind.i64.wrap r = r := IntWalk.i64_in _ (by omega)
  obtain ⟨y, hy⟩ : ∃ y, y = fr + r := ⟨_, rfl⟩
  have wy : IntKind.i64.wrap (fr + r) = y := by rw [IntWalk.i64_in _ (by omega), hy]
  have hyr : fr ≤ y ∧ y ≤ x := by omega
  clear hr hy hy1 hy2
  have t1 := fun W h => at_ok p la ca x W h oa
  have t2 := fun W h => at_ok q lb cb x W h ob
  have t3 := fun W h => at_ok p la ca y W h oa
  have t4 := fun W h => at_ok q lb cb y W h ob
  have hd : (y == x) = true ∨ (y == x) = false ∧ decide (va lb y ≤ va la y) = true := by
    by_cases e : y = x
    · exact .inl (by simp [e])
    · exact .inr ⟨by simp [e], decide_eq_true (x4 y hyr.1 (by omega))⟩
  have g1 : decide (va la x < va lb x) = true := decide_eq_true x3
  generalize va la x = n at *
  generalize va lb x = m at *
  generalize va la y = n2 at *
  generalize va lb y = m2 at *
  clear hs oa ob hR hp1 hp2 hft hbf hyr x1 x2 x3 x4
  rcases hd with hd | ⟨hd, hd2⟩
  all_goals (
    go_enter Try.func8, Try.ntmps8
    go_wp2_with (first
          | (go_at_call 11; (with_reducible refine (ha _).mono ?_); rintro e w1 ⟨rfl, hb⟩; have B := al hb (.cells #[.slice p la.length ca, .slice q lb.length cb] 22); clear hb)
          | (go_at_call 12; (with_reducible refine (hf _).mono ?_); rintro e w2 ⟨rfl, hw⟩; obtain rfl := hw.symm; clear hw)
          | (go_at_call 24; (with_reducible refine (h1 _ (hA.on B) (hB.on B)).mono ?_); rintro e w3 ⟨rfl, hb⟩; replace B := belows B hb; clear hb h1)
          | (go_at_call 13; (with_reducible refine (t1 _ (hA.on B)).mono ?_); rintro e w4 ⟨rfl, hb⟩; replace B := belows B hb; clear hb t1)
          | (go_at_call 13; (with_reducible refine (t2 _ (hB.on B)).mono ?_); rintro e w4 ⟨rfl, hb⟩; replace B := belows B hb; clear hb t2)
          | (go_at_call 13; (with_reducible refine (t3 _ (hA.on B)).mono ?_); rintro e w4 ⟨rfl, hb⟩; replace B := belows B hb; clear hb t3)
          | (go_at_call 13; (with_reducible refine (t4 _ (hB.on B)).mono ?_); rintro e w4 ⟨rfl, hb⟩; replace B := belows B hb; clear hb t4))
    go_ret
    exact ⟨by simp, B⟩)
theorem first_walk (p : Option Addr) (la : List Stp) (ca : Nat) (q : Option Addr) (lb : List Stp) (cb : Nat) (fr tz bf : Int) (w : World) (hA : Sl w p la) (hB : Sl w q lb) (h1 : I64 fr) (h2 : I64 tz) (hbf : 0 ≤ bf ∧ bf < 4294967296) :
    Calls Try.prog 8 #[.slice p la.length ca, .slice q lb.length cb, .int .i64 fr, .int .i64 tz, .int .u32 bf] w fun e w' => e = .returned (.bool true) ∧ Below w.heap.size w w' := by
  cases hl : (decide (250 < la.length) || decide (250 < lb.length))
  case true => exact first_long p la ca q lb cb fr tz bf w hl
  case false =>
    cases hv : (okS la && okS lb)
    · exact first_bad p la ca q lb cb fr tz bf w hA hB hl 1 (by unfold belR; rw [if_neg (by rw [hv]; simp)]) (by decide) (by decide)
    · have hv' := hv
      rw [Bool.and_eq_true] at hv'
      cases hR : rng fr tz
      · exact first_bad p la ca q lb cb fr tz bf w hA hB hl 2 (by unfold belR; rw [if_pos hv, if_neg (by rw [hR]; simp)]) (by decide) (by decide)
      · cases hb : bel la lb fr tz with
        | none => exact first_none p la ca q lb cb fr tz bf w hA hB hl hbf hv'.1 hv'.2 hR hb
        | some x => exact first_some p la ca q lb cb fr tz bf w hA hB hl hbf hv'.1 hv'.2 hR x hb
end Go.Proofs.Ytbohcedclnbcdaa
