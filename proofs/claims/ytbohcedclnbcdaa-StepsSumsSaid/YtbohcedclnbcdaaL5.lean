/- StepsRanges: the walk. -/
import Derived.Test.YtbohcedclnbcdaaV14
namespace Go.Proofs.Ytbohcedclnbcdaa
open Go.ChangeShapes Go.WideShapes Go.ChangeAt Go.RowKit
set_option linter.unusedVariables false
set_option linter.unusedSimpArgs false

set_option maxHeartbeats 2000000 in
set_option maxRecDepth 100000 in
theorem ranges_long (p : Option Addr) (la : List Stp) (ca : Nat) (q : Option Addr) (lb : List Stp) (cb : Nat) (fr tz : Int) (w : World) (hA : Sl w p la) (hB : Sl w q lb) (hl : (decide (250 < la.length) || decide (250 < lb.length)) = true) :
    Calls Try.prog 5 #[.slice p la.length ca, .slice q lb.length cb, .int .i64 fr, .int .i64 tz] w fun e w' => e = .returned (.bool true) ∧ Below w.heap.size w w' := by
  have ha := fun W => awake_any W
  have hf := fun W => few2 W p q la.length ca lb.length cb
  rw [hl, Bool.not_true] at hf
  clear hl
  go_enter Try.func5, Try.ntmps5
  go_wp2_with (first
      | (go_at_call 11; (with_reducible refine (ha _).mono ?_); rintro e w1 ⟨rfl, hb⟩; have B := al hb (.cells #[.slice p la.length ca, .slice q lb.length cb] 22); clear hb)
      | (go_at_call 12; (with_reducible refine (hf _).mono ?_); rintro e w2 ⟨rfl, hw⟩; obtain rfl := hw.symm; clear hw))
  go_ret
  exact ⟨by simp, B⟩
set_option maxHeartbeats 2000000 in
set_option maxRecDepth 100000 in
theorem ranges_bad (p : Option Addr) (la : List Stp) (ca : Nat) (q : Option Addr) (lb : List Stp) (cb : Nat) (fr tz : Int) (w : World) (hA : Sl w p la) (hB : Sl w q lb) (hl : (decide (250 < la.length) || decide (250 < lb.length)) = false) (oa : okS la = false) :
    Calls Try.prog 5 #[.slice p la.length ca, .slice q lb.length cb, .int .i64 fr, .int .i64 tz] w fun e w' => e = .returned (.bool true) ∧ Below w.heap.size w w' := by
  have ha := fun W => awake_any W
  have hf := fun W => few2 W p q la.length ca lb.length cb
  rw [hl, Bool.not_false] at hf
  have h1 := fun W h h' => below_any p q la lb ca cb fr tz W h h'
  have h2 := fun W h => sum_any p la ca fr tz W h
  have h3 := fun W h => rvalid_any p la ca W h
  have h4 := fun W => given_any fr tz W
  have h6 := fun W h => rvalid_any q lb cb W h
  have e1 : belR la lb fr tz = (0, 1) := by unfold belR; rw [oa]; rfl
  have e2 : sumV la fr tz = 0 ∧ sumC la fr tz = 1 := by unfold sumV sumC; rw [oa]; exact ⟨rfl, rfl⟩
  rw [e1] at h1
  rw [e2.1, e2.2] at h2
  rw [oa] at h3
  clear hl oa e1 e2 h4 h6
  go_enter Try.func5, Try.ntmps5
  go_wp2_with (first
      | (go_at_call 11; (with_reducible refine (ha _).mono ?_); rintro e w1 ⟨rfl, hb⟩; have B := al hb (.cells #[.slice p la.length ca, .slice q lb.length cb] 22); clear hb)
      | (go_at_call 12; (with_reducible refine (hf _).mono ?_); rintro e w2 ⟨rfl, hw⟩; obtain rfl := hw.symm; clear hw)
      | (go_at_call 24; (with_reducible refine (h1 _ (hA.on B) (hB.on B)).mono ?_); rintro e w3 ⟨rfl, hb⟩; replace B := belows B hb; clear hb h1)
      | (go_at_call 25; (with_reducible refine (h2 _ (hA.on B)).mono ?_); rintro e w4 ⟨rfl, hb⟩; replace B := belows B hb; clear hb h2)
      | (go_at_call 15; (with_reducible refine (h3 _ (hA.on B)).mono ?_); rintro e w5 ⟨rfl, hb⟩; replace B := belows B hb; clear hb h3))
  go_ret
  exact ⟨by simp, B⟩
set_option maxHeartbeats 2000000 in
set_option maxRecDepth 100000 in
theorem ranges_nn (p : Option Addr) (la : List Stp) (ca : Nat) (q : Option Addr) (lb : List Stp) (cb : Nat) (fr tz : Int) (w : World) (hA : Sl w p la) (hB : Sl w q lb) (hl : (decide (250 < la.length) || decide (250 < lb.length)) = false) (oa : okS la = true) (ob : okS lb = false) (hR : rng fr tz = false) :
    Calls Try.prog 5 #[.slice p la.length ca, .slice q lb.length cb, .int .i64 fr, .int .i64 tz] w fun e w' => e = .returned (.bool true) ∧ Below w.heap.size w w' := by
  have ha := fun W => awake_any W
  have hf := fun W => few2 W p q la.length ca lb.length cb
  rw [hl, Bool.not_false] at hf
  have h1 := fun W h h' => below_any p q la lb ca cb fr tz W h h'
  have h2 := fun W h => sum_any p la ca fr tz W h
  have h3 := fun W h => rvalid_any p la ca W h
  have h4 := fun W => given_any fr tz W
  have h6 := fun W h => rvalid_any q lb cb W h
  have e1 : belR la lb fr tz = (0, 1) := by unfold belR; rw [oa, ob]; rfl
  have e2 : sumV la fr tz = 0 ∧ sumC la fr tz = 2 := by unfold sumV sumC; rw [oa, hR]; exact ⟨rfl, rfl⟩
  rw [e1] at h1
  rw [e2.1, e2.2] at h2
  rw [oa] at h3
  rw [hR] at h4
  rw [ob] at h6
  simp only [Bool.false_eq_true, if_false] at h4
  clear hl oa ob hR e1 e2
  go_enter Try.func5, Try.ntmps5
  go_wp2_with (first
      | (go_at_call 11; (with_reducible refine (ha _).mono ?_); rintro e w1 ⟨rfl, hb⟩; have B := al hb (.cells #[.slice p la.length ca, .slice q lb.length cb] 22); clear hb)
      | (go_at_call 12; (with_reducible refine (hf _).mono ?_); rintro e w2 ⟨rfl, hw⟩; obtain rfl := hw.symm; clear hw)
      | (go_at_call 24; (with_reducible refine (h1 _ (hA.on B) (hB.on B)).mono ?_); rintro e w3 ⟨rfl, hb⟩; replace B := belows B hb; clear hb h1)
      | (go_at_call 25; (with_reducible refine (h2 _ (hA.on B)).mono ?_); rintro e w4 ⟨rfl, hb⟩; replace B := belows B hb; clear hb h2)
      | (go_at_call 15; (with_reducible refine (h3 _ (hA.on B)).mono ?_); rintro e w5 ⟨rfl, hb⟩; replace B := belows B hb; clear hb h3)
      | (go_at_call 26; (with_reducible refine (h4 _).mono ?_); rintro e w6 ⟨rfl, hw⟩; obtain rfl := hw.symm; clear hw)
      | (go_at_call 15; (with_reducible refine (h6 _ (hB.on B)).mono ?_); rintro e w8 ⟨rfl, hb⟩; replace B := belows B hb; clear hb h6))
  go_ret
  exact ⟨by simp, B⟩
set_option maxHeartbeats 2000000 in
set_option maxRecDepth 100000 in
theorem ranges_yn (p : Option Addr) (la : List Stp) (ca : Nat) (q : Option Addr) (lb : List Stp) (cb : Nat) (fr tz : Int) (w : World) (hA : Sl w p la) (hB : Sl w q lb) (hl : (decide (250 < la.length) || decide (250 < lb.length)) = false) (oa : okS la = true) (ob : okS lb = true) (hR : rng fr tz = false) :
    Calls Try.prog 5 #[.slice p la.length ca, .slice q lb.length cb, .int .i64 fr, .int .i64 tz] w fun e w' => e = .returned (.bool true) ∧ Below w.heap.size w w' := by
  have ha := fun W => awake_any W
  have hf := fun W => few2 W p q la.length ca lb.length cb
  rw [hl, Bool.not_false] at hf
  have h1 := fun W h h' => below_any p q la lb ca cb fr tz W h h'
  have h2 := fun W h => sum_any p la ca fr tz W h
  have h3 := fun W h => rvalid_any p la ca W h
  have h4 := fun W => given_any fr tz W
  have h6 := fun W h => rvalid_any q lb cb W h
  have e1 : belR la lb fr tz = (0, 2) := by unfold belR; rw [oa, ob, hR]; rfl
  have e2 : sumV la fr tz = 0 ∧ sumC la fr tz = 2 := by unfold sumV sumC; rw [oa, hR]; exact ⟨rfl, rfl⟩
  rw [e1] at h1
  rw [e2.1, e2.2] at h2
  rw [oa] at h3
  rw [hR] at h4
  rw [ob] at h6
  simp only [Bool.false_eq_true, if_false] at h4
  clear hl oa ob hR e1 e2
  go_enter Try.func5, Try.ntmps5
  go_wp2_with (first
      | (go_at_call 11; (with_reducible refine (ha _).mono ?_); rintro e w1 ⟨rfl, hb⟩; have B := al hb (.cells #[.slice p la.length ca, .slice q lb.length cb] 22); clear hb)
      | (go_at_call 12; (with_reducible refine (hf _).mono ?_); rintro e w2 ⟨rfl, hw⟩; obtain rfl := hw.symm; clear hw)
      | (go_at_call 24; (with_reducible refine (h1 _ (hA.on B) (hB.on B)).mono ?_); rintro e w3 ⟨rfl, hb⟩; replace B := belows B hb; clear hb h1)
      | (go_at_call 25; (with_reducible refine (h2 _ (hA.on B)).mono ?_); rintro e w4 ⟨rfl, hb⟩; replace B := belows B hb; clear hb h2)
      | (go_at_call 15; (with_reducible refine (h3 _ (hA.on B)).mono ?_); rintro e w5 ⟨rfl, hb⟩; replace B := belows B hb; clear hb h3)
      | (go_at_call 26; (with_reducible refine (h4 _).mono ?_); rintro e w6 ⟨rfl, hw⟩; obtain rfl := hw.symm; clear hw)
      | (go_at_call 15; (with_reducible refine (h6 _ (hB.on B)).mono ?_); rintro e w8 ⟨rfl, hb⟩; replace B := belows B hb; clear hb h6))
  go_ret
  exact ⟨by simp, B⟩
set_option maxHeartbeats 2000000 in
set_option maxRecDepth 100000 in
theorem ranges_ny (p : Option Addr) (la : List Stp) (ca : Nat) (q : Option Addr) (lb : List Stp) (cb : Nat) (fr tz : Int) (w : World) (hA : Sl w p la) (hB : Sl w q lb) (hl : (decide (250 < la.length) || decide (250 < lb.length)) = false) (oa : okS la = true) (ob : okS lb = false) (hR : rng fr tz = true) :
    Calls Try.prog 5 #[.slice p la.length ca, .slice q lb.length cb, .int .i64 fr, .int .i64 tz] w fun e w' => e = .returned (.bool true) ∧ Below w.heap.size w w' := by
  have ha := fun W => awake_any W
  have hf := fun W => few2 W p q la.length ca lb.length cb
  rw [hl, Bool.not_false] at hf
  have h1 := fun W h h' => below_any p q la lb ca cb fr tz W h h'
  have h2 := fun W h => sum_any p la ca fr tz W h
  have h3 := fun W h => rvalid_any p la ca W h
  have h4 := fun W => given_any fr tz W
  have h6 := fun W h => rvalid_any q lb cb W h
  have h5 := fun W h => rsum_any p la ca fr tz W h oa hR
  have e1 : belR la lb fr tz = (0, 1) := by unfold belR; rw [oa, ob]; rfl
  have e2 : sumV la fr tz = smT la fr tz ∧ sumC la fr tz = 0 := by unfold sumV sumC; rw [oa, hR]; exact ⟨rfl, rfl⟩
  rw [e1] at h1
  rw [e2.1, e2.2] at h2
  rw [oa] at h3
  rw [hR] at h4
  rw [ob] at h6
  simp only [if_true] at h4
  generalize smT la fr tz = z at *
  clear hl oa ob hR e1 e2
  go_enter Try.func5, Try.ntmps5
  go_wp2_with (first
      | (go_at_call 11; (with_reducible refine (ha _).mono ?_); rintro e w1 ⟨rfl, hb⟩; have B := al hb (.cells #[.slice p la.length ca, .slice q lb.length cb] 22); clear hb)
      | (go_at_call 12; (with_reducible refine (hf _).mono ?_); rintro e w2 ⟨rfl, hw⟩; obtain rfl := hw.symm; clear hw)
      | (go_at_call 24; (with_reducible refine (h1 _ (hA.on B) (hB.on B)).mono ?_); rintro e w3 ⟨rfl, hb⟩; replace B := belows B hb; clear hb h1)
      | (go_at_call 25; (with_reducible refine (h2 _ (hA.on B)).mono ?_); rintro e w4 ⟨rfl, hb⟩; replace B := belows B hb; clear hb h2)
      | (go_at_call 15; (with_reducible refine (h3 _ (hA.on B)).mono ?_); rintro e w5 ⟨rfl, hb⟩; replace B := belows B hb; clear hb h3)
      | (go_at_call 26; (with_reducible refine (h4 _).mono ?_); rintro e w6 ⟨rfl, hw⟩; obtain rfl := hw.symm; clear hw)
      | (go_at_call 27; (with_reducible refine (h5 _ (hA.on B)).mono ?_); rintro e w7 ⟨rfl, hw⟩; obtain rfl := hw.symm; clear hw)
      | (go_at_call 15; (with_reducible refine (h6 _ (hB.on B)).mono ?_); rintro e w8 ⟨rfl, hb⟩; replace B := belows B hb; clear hb h6))
  go_ret
  exact ⟨by simp, B⟩
set_option maxHeartbeats 2000000 in
set_option maxRecDepth 100000 in
theorem ranges_none (p : Option Addr) (la : List Stp) (ca : Nat) (q : Option Addr) (lb : List Stp) (cb : Nat) (fr tz : Int) (w : World) (hA : Sl w p la) (hB : Sl w q lb) (hl : (decide (250 < la.length) || decide (250 < lb.length)) = false) (oa : okS la = true) (ob : okS lb = true) (hR : rng fr tz = true) (hb0 : bel la lb fr tz = none) :
    Calls Try.prog 5 #[.slice p la.length ca, .slice q lb.length cb, .int .i64 fr, .int .i64 tz] w fun e w' => e = .returned (.bool true) ∧ Below w.heap.size w w' := by
  have ha := fun W => awake_any W
  have hf := fun W => few2 W p q la.length ca lb.length cb
  rw [hl, Bool.not_false] at hf
  have h1 := fun W h h' => below_any p q la lb ca cb fr tz W h h'
  have h2 := fun W h => sum_any p la ca fr tz W h
  have h3 := fun W h => rvalid_any p la ca W h
  have h4 := fun W => given_any fr tz W
  have h6 := fun W h => rvalid_any q lb cb W h
  have h5 := fun W h => rsum_any p la ca fr tz W h oa hR
  have h7 := fun W h h' => rbelow_any p q la lb ca cb fr tz W h h' (okS_to oa) (okS_to ob)
  have e1 : belR la lb fr tz = (0, 12) := by unfold belR; rw [oa, ob, if_pos (by rfl), if_pos hR, hb0]
  have e3 : belO la lb fr tz = (0, false) := by unfold belO; rw [hb0]
  have e2 : sumV la fr tz = smT la fr tz ∧ sumC la fr tz = 0 := by unfold sumV sumC; rw [oa, hR]; exact ⟨rfl, rfl⟩
  rw [e1] at h1
  rw [e2.1, e2.2] at h2
  rw [e3] at h7
  rw [oa] at h3
  rw [hR] at h4
  rw [ob] at h6
  simp only [if_true] at h4
  generalize smT la fr tz = z at *
  clear hl oa ob hR e1 e2 e3 hb0
  go_enter Try.func5, Try.ntmps5
  go_wp2_with (first
      | (go_at_call 11; (with_reducible refine (ha _).mono ?_); rintro e w1 ⟨rfl, hb⟩; have B := al hb (.cells #[.slice p la.length ca, .slice q lb.length cb] 22); clear hb)
      | (go_at_call 12; (with_reducible refine (hf _).mono ?_); rintro e w2 ⟨rfl, hw⟩; obtain rfl := hw.symm; clear hw)
      | (go_at_call 24; (with_reducible refine (h1 _ (hA.on B) (hB.on B)).mono ?_); rintro e w3 ⟨rfl, hb⟩; replace B := belows B hb; clear hb h1)
      | (go_at_call 25; (with_reducible refine (h2 _ (hA.on B)).mono ?_); rintro e w4 ⟨rfl, hb⟩; replace B := belows B hb; clear hb h2)
      | (go_at_call 15; (with_reducible refine (h3 _ (hA.on B)).mono ?_); rintro e w5 ⟨rfl, hb⟩; replace B := belows B hb; clear hb h3)
      | (go_at_call 26; (with_reducible refine (h4 _).mono ?_); rintro e w6 ⟨rfl, hw⟩; obtain rfl := hw.symm; clear hw)
      | (go_at_call 27; (with_reducible refine (h5 _ (hA.on B)).mono ?_); rintro e w7 ⟨rfl, hw⟩; obtain rfl := hw.symm; clear hw)
      | (go_at_call 15; (with_reducible refine (h6 _ (hB.on B)).mono ?_); rintro e w8 ⟨rfl, hb⟩; replace B := belows B hb; clear hb h6)
      | (go_at_call 28; (with_reducible refine (h7 _ (hA.on B) (hB.on B)).mono ?_); rintro e w9 ⟨rfl, hb⟩; replace B := belows B hb; clear hb h7))
  go_ret
  exact ⟨by simp, B⟩
set_option maxHeartbeats 2000000 in
set_option maxRecDepth 100000 in
theorem ranges_some (p : Option Addr) (la : List Stp) (ca : Nat) (q : Option Addr) (lb : List Stp) (cb : Nat) (fr tz : Int) (w : World) (hA : Sl w p la) (hB : Sl w q lb) (hl : (decide (250 < la.length) || decide (250 < lb.length)) = false) (oa : okS la = true) (ob : okS lb = true) (hR : rng fr tz = true) (x : Int) (hb0 : bel la lb fr tz = some x) :
    Calls Try.prog 5 #[.slice p la.length ca, .slice q lb.length cb, .int .i64 fr, .int .i64 tz] w fun e w' => e = .returned (.bool true) ∧ Below w.heap.size w w' := by
  have ha := fun W => awake_any W
  have hf := fun W => few2 W p q la.length ca lb.length cb
  rw [hl, Bool.not_false] at hf
  have h1 := fun W h h' => below_any p q la lb ca cb fr tz W h h'
  have h2 := fun W h => sum_any p la ca fr tz W h
  have h3 := fun W h => rvalid_any p la ca W h
  have h4 := fun W => given_any fr tz W
  have h6 := fun W h => rvalid_any q lb cb W h
  have h5 := fun W h => rsum_any p la ca fr tz W h oa hR
  have h7 := fun W h h' => rbelow_any p q la lb ca cb fr tz W h h' (okS_to oa) (okS_to ob)
  have e1 : belR la lb fr tz = (x, 0) := by unfold belR; rw [oa, ob, if_pos (by rfl), if_pos hR, hb0]
  have e3 : belO la lb fr tz = (x, true) := by unfold belO; rw [hb0]
  have e2 : sumV la fr tz = smT la fr tz ∧ sumC la fr tz = 0 := by unfold sumV sumC; rw [oa, hR]; exact ⟨rfl, rfl⟩
  rw [e1] at h1
  rw [e2.1, e2.2] at h2
  rw [e3] at h7
  rw [oa] at h3
  rw [hR] at h4
  rw [ob] at h6
  simp only [if_true] at h4
  generalize smT la fr tz = z at *
  clear hl oa ob hR e1 e2 e3 hb0
  go_enter Try.func5, Try.ntmps5
  go_wp2_with (first
      | (go_at_call 11; (with_reducible refine (ha _).mono ?_); rintro e w1 ⟨rfl, hb⟩; have B := al hb (.cells #[.slice p la.length ca, .slice q lb.length cb] 22); clear hb)
      | (go_at_call 12; (with_reducible refine (hf _).mono ?_); rintro e w2 ⟨rfl, hw⟩; obtain rfl := hw.symm; clear hw)
      | (go_at_call 24; (with_reducible refine (h1 _ (hA.on B) (hB.on B)).mono ?_); rintro e w3 ⟨rfl, hb⟩; replace B := belows B hb; clear hb h1)
      | (go_at_call 25; (with_reducible refine (h2 _ (hA.on B)).mono ?_); rintro e w4 ⟨rfl, hb⟩; replace B := belows B hb; clear hb h2)
      | (go_at_call 15; (with_reducible refine (h3 _ (hA.on B)).mono ?_); rintro e w5 ⟨rfl, hb⟩; replace B := belows B hb; clear hb h3)
      | (go_at_call 26; (with_reducible refine (h4 _).mono ?_); rintro e w6 ⟨rfl, hw⟩; obtain rfl := hw.symm; clear hw)
      | (go_at_call 27; (with_reducible refine (h5 _ (hA.on B)).mono ?_); rintro e w7 ⟨rfl, hw⟩; obtain rfl := hw.symm; clear hw)
      | (go_at_call 15; (with_reducible refine (h6 _ (hB.on B)).mono ?_); rintro e w8 ⟨rfl, hb⟩; replace B := belows B hb; clear hb h6)
      | (go_at_call 28; (with_reducible refine (h7 _ (hA.on B) (hB.on B)).mono ?_); rintro e w9 ⟨rfl, hb⟩; replace B := belows B hb; clear hb h7))
  go_ret
  exact ⟨by simp, B⟩
theorem ranges_walk (p : Option Addr) (la : List Stp) (ca : Nat) (q : Option Addr) (lb : List Stp) (cb : Nat) (fr tz : Int) (w : World) (hA : Sl w p la) (hB : Sl w q lb) (h1 : I64 fr) (h2 : I64 tz) :
    Calls Try.prog 5 #[.slice p la.length ca, .slice q lb.length cb, .int .i64 fr, .int .i64 tz] w fun e w' => e = .returned (.bool true) ∧ Below w.heap.size w w' := by
  cases hl : (decide (250 < la.length) || decide (250 < lb.length))
  case true => exact ranges_long p la ca q lb cb fr tz w hA hB hl
  case false =>
    cases oa : okS la
    · exact ranges_bad p la ca q lb cb fr tz w hA hB hl oa
    · cases ob : okS lb
      · cases hR : rng fr tz
        · exact ranges_nn p la ca q lb cb fr tz w hA hB hl oa ob hR
        · exact ranges_ny p la ca q lb cb fr tz w hA hB hl oa ob hR
      · cases hR : rng fr tz
        · exact ranges_yn p la ca q lb cb fr tz w hA hB hl oa ob hR
        · cases hb : bel la lb fr tz with
          | none => exact ranges_none p la ca q lb cb fr tz w hA hB hl oa ob hR hb
          | some x => exact ranges_some p la ca q lb cb fr tz w hA hB hl oa ob hR x hb
end Go.Proofs.Ytbohcedclnbcdaa
