/- StepsSums: the walk. -/
import Derived.Test.YtbohcedclnbcdaaV16
import Derived.Test.YtbohcedclnbcdaaL6
namespace Go.Proofs.Ytbohcedclnbcdaa
open Go.ChangeShapes Go.WideShapes Go.ChangeAt Go.RowKit
set_option linter.unusedVariables false
set_option linter.unusedSimpArgs false

theorem least_no (p q : Option Addr) (la lb : List Stp) (c d : Nat) (w : World) (hA : Sl w p la) (hB : Sl w q lb) (h : (okS la && okS lb) = false) :
    Calls Try.prog 21 #[.slice p la.length c, .slice q lb.length d] w fun e w' => ∃ p' c', e = .returned (.tuple #[.slice p' 0 c', .int .i64 1]) ∧ Below w.heap.size w w' := by
  refine (least_any p q la lb c d w hA hB).mono ?_
  rintro e w' ⟨v, rfl, ho, hb⟩
  have e : rs o46 la lb = ([], 1) := by unfold rs; rw [if_neg (by rw [h]; simp)]
  rw [e] at ho ⊢
  obtain ⟨p', c', rfl⟩ := ho.form
  exact ⟨p', c', rfl, hb⟩
set_option maxHeartbeats 2000000 in
set_option maxRecDepth 100000 in
theorem sums_walk (p : Option Addr) (la : List Stp) (ca : Nat) (q : Option Addr) (lb : List Stp) (cb : Nat) (w : World) (hA : Sl w p la) (hB : Sl w q lb) :
    Calls Try.prog 4 #[.slice p la.length ca, .slice q lb.length cb] w fun e w' => e = .returned (.bool true) ∧ Below w.heap.size w w' := by
  have ha := fun W => awake_any W
  have hf := fun W => few2 W p q la.length ca lb.length cb
  cases hl : (decide (250 < la.length) || decide (250 < lb.length))
  case true =>
    rw [hl, Bool.not_true] at hf
    clear hl
    go_enter Try.func4, Try.ntmps4
    go_wp2_with (first
      | (go_at_call 11; (with_reducible refine (ha _).mono ?_); rintro e w1 ⟨rfl, hb⟩; have B := al hb (.cells #[.slice p la.length ca, .slice q lb.length cb] 22); clear hb)
      | (go_at_call 12; (with_reducible refine (hf _).mono ?_); rintro e w2 ⟨rfl, hw⟩; obtain rfl := hw.symm; clear hw))
    go_ret
    exact ⟨rfl, B⟩
  case false =>
    rw [hl, Bool.not_false] at hf
    clear hl
    have h3 := fun W h => rvalid_any p la ca W h
    have h4 := fun W h => rvalid_any q lb cb W h
    cases hv : (okS la && okS lb)
    case false =>
      have h1 := fun W h h' => add_no p q la lb ca cb W h h' hv
      have h2 := fun W h h' => least_no p q la lb ca cb W h h' hv
      cases oa : okS la <;> cases ob : okS lb
      case true.true => rw [oa, ob] at hv; cases hv
      all_goals (
        rw [oa] at h3
        rw [ob] at h4
        clear hv oa ob
        go_enter Try.func4, Try.ntmps4
        go_wp2_with (first
          | (go_at_call 11; (with_reducible refine (ha _).mono ?_); rintro e w1 ⟨rfl, hb⟩; have B := al hb (.cells #[.slice p la.length ca, .slice q lb.length cb] 22); clear hb)
          | (go_at_call 12; (with_reducible refine (hf _).mono ?_); rintro e w2 ⟨rfl, hw⟩; obtain rfl := hw.symm; clear hw)
          | (go_at_call 20; (with_reducible refine (h1 _ (hA.on B) (hB.on B)).mono ?_); rintro e w3 ⟨p3, c3, rfl, hb⟩; replace B := belows B hb; clear hb h1)
          | (go_at_call 21; (with_reducible refine (h2 _ (hA.on B) (hB.on B)).mono ?_); rintro e w4 ⟨p4, c4, rfl, hb⟩; replace B := belows B hb; clear hb h2)
          | (go_at_call 15; (with_reducible refine (h3 _ (hA.on B)).mono ?_); rintro e w5 ⟨rfl, hb⟩; replace B := belows B hb; clear hb h3)
          | (go_at_call 15; (with_reducible refine (h4 _ (hB.on B)).mono ?_); rintro e w6 ⟨rfl, hb⟩; replace B := belows B hb; clear hb h4))
        go_ret
        exact ⟨by simp, B⟩)
    case true =>
      rw [Bool.and_eq_true] at hv
      rw [hv.1] at h3
      rw [hv.2] at h4
      have h1 := fun W h h' => add_ok p q la lb ca cb W h h' hv.1 hv.2
      have h2 := fun W h h' => least_ok p q la lb ca cb W h h' hv.1 hv.2
      have h5 := fun W h h' => radd_any p q la lb ca cb W h h' (okS_to hv.1) (okS_to hv.2)
      have h6 := fun W h h' => rleast_any p q la lb ca cb W h h' (okS_to hv.1) (okS_to hv.2)
      have e1 := fun p' c' q' d' W h h' => eq_same p' q' (cmb o45 la lb).1 c' d' W h h'
      have e2 := fun p' c' q' d' W h h' => eq_same p' q' (cmb o46 la lb).1 c' d' W h h'
      generalize cmb o45 la lb = R at *
      generalize cmb o46 la lb = T at *
      obtain ⟨L, C⟩ := R
      obtain ⟨M, D⟩ := T
      simp only at h1 h2 h5 h6 e1 e2
      clear hv
      go_enter Try.func4, Try.ntmps4
      go_wp2_with (first
        | (go_at_call 11; (with_reducible refine (ha _).mono ?_); rintro e w1 ⟨rfl, hb⟩; have B := al hb (.cells #[.slice p la.length ca, .slice q lb.length cb] 22); clear hb)
        | (go_at_call 12; (with_reducible refine (hf _).mono ?_); rintro e w2 ⟨rfl, hw⟩; obtain rfl := hw.symm; clear hw)
        | (go_at_call 20; (with_reducible refine (h1 _ (hA.on B) (hB.on B)).mono ?_); rintro e w3 ⟨p3, c3, rfl, S3, hb⟩; replace B := belows B hb; clear hb h1)
        | (go_at_call 21; (with_reducible refine (h2 _ (hA.on B) (hB.on B)).mono ?_); rintro e w4 ⟨p4, c4, rfl, S4, hb⟩; replace S3 := S3.on hb; replace B := belows B hb; clear hb h2)
        | (go_at_call 15; (with_reducible refine (h3 _ (hA.on B)).mono ?_); rintro e w5 ⟨rfl, hb⟩; replace S3 := S3.on hb; replace S4 := S4.on hb; replace B := belows B hb; clear hb h3)
        | (go_at_call 15; (with_reducible refine (h4 _ (hB.on B)).mono ?_); rintro e w6 ⟨rfl, hb⟩; replace S3 := S3.on hb; replace S4 := S4.on hb; replace B := belows B hb; clear hb h4)
        | (go_at_call 22; (with_reducible refine (h5 _ (hA.on B) (hB.on B)).mono ?_); rintro e w7 ⟨p7, c7, rfl, S7, hb⟩; replace S3 := S3.on hb; replace S4 := S4.on hb; replace B := belows B hb; clear hb h5)
        | (go_at_call 23; (with_reducible refine (h6 _ (hA.on B) (hB.on B)).mono ?_); rintro e w8 ⟨p8, c8, rfl, S8, hb⟩; replace S3 := S3.on hb; replace S4 := S4.on hb; replace S7 := S7.on hb; replace B := belows B hb; clear hb h6)
        | (go_at_call 18; (with_reducible refine (e1 p3 c3 p7 c7 _ S3 S7).mono ?_); rintro e w9 ⟨rfl, hb⟩; replace S4 := S4.on hb; replace S8 := S8.on hb; replace B := belows B hb; clear hb e1)
        | (go_at_call 18; (with_reducible refine (e2 p4 c4 p8 c8 _ S4 S8).mono ?_); rintro e w10 ⟨rfl, hb⟩; replace B := belows B hb; clear hb e2))
      go_ret
      exact ⟨by simp, B⟩
end Go.Proofs.Ytbohcedclnbcdaa
