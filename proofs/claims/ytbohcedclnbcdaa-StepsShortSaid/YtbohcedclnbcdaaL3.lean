/- StepsPoints: the walk. -/
import Derived.Test.YtbohcedclnbcdaaL2
namespace Go.Proofs.Ytbohcedclnbcdaa
open Go.ChangeShapes Go.WideShapes Go.ChangeAt Go.RowKit
set_option linter.unusedVariables false
set_option linter.unusedSimpArgs false

/-- What comes of two valid lists, if nothing is wrong. -/
theorem cmb_ok {o : Int → Int → Int} (h0 : o 0 0 = 0) {la lb : List Stp} (oa : OkS la) (ob : OkS lb) (h : (cmb o la lb).2 = 0) :
    OkS (cmb o la lb).1 ∧ (cmb o la lb).1 = sht (opl o (tog la lb)) ∧ ∀ x, va (cmb o la lb).1 x = o (va la x) (va lb x) := by
  unfold cmb at h ⊢
  simp only at h ⊢
  by_cases h1 : (opl o (tog la lb)).all (fun s => ara s.2) = true
  · rw [if_pos h1] at h ⊢
    by_cases h2 : (sht (opl o (tog la lb))).length ≤ 200
    · rw [if_pos h2] at h ⊢
      have hasc : Asc (opl o (tog la lb)) := opl_asc (tg_asc oa.asc ob.asc)
      refine ⟨⟨h2, fun s hs => ?_, fun s hs => ?_, shF_asc hasc⟩, rfl, fun x => ?_⟩
      · obtain ⟨e, he, rfl⟩ := List.mem_map.1 (shF_sub.subset hs)
        rcases tg_place e he with ⟨t, ht, k⟩ | ⟨t, ht, k⟩
        · show plc e.1 = true; rw [← k]; exact oa.pl t ht
        · show plc e.1 = true; rw [← k]; exact ob.pl t ht
      · exact List.all_eq_true.1 h1 s (shF_sub.subset hs)
      · show va (sht _) x = _
        rw [sht_va hasc, tog_op h0 oa.asc ob.asc]
    · rw [if_neg h2] at h; simp at h
  · rw [if_neg h1] at h; simp at h
theorem cmb_no {o : Int → Int → Int} {la lb : List Stp} (h : (cmb o la lb).2 ≠ 0) : (cmb o la lb).1 = [] := by
  unfold cmb at h ⊢
  simp only at h ⊢
  split
  · split
    · rename_i h1 h2; rw [if_pos h1, if_pos h2] at h; exact absurd rfl h
    · rfl
  · rfl
theorem cmb_i64 {o : Int → Int → Int} (h0 : o 0 0 = 0) {la lb : List Stp} (oa : OkS la) (ob : OkS lb) : (cmb o la lb).1.length ≤ maxLen ∧ ∀ x ∈ (cmb o la lb).1, I64 x.1 ∧ I64 x.2 := by
  by_cases h : (cmb o la lb).2 = 0
  · have k := (cmb_ok h0 oa ob h).1
    exact ⟨by have := k.len; unfold maxLen; omega, k.i64⟩
  · rw [cmb_no h]; exact ⟨Nat.zero_le _, fun x hx => (by cases hx)⟩
theorem add_ok (p q : Option Addr) (la lb : List Stp) (c d : Nat) (w : World) (hA : Sl w p la) (hB : Sl w q lb) (oa : okS la = true) (ob : okS lb = true) :
    Calls Try.prog 20 #[.slice p la.length c, .slice q lb.length d] w fun e w' => ∃ p' c', e = .returned (.tuple #[.slice p' (cmb o45 la lb).1.length c', .int .i64 (cmb o45 la lb).2]) ∧ Sl w' p' (cmb o45 la lb).1 ∧ Below w.heap.size w w' := by
  refine (add_any p q la lb c d w hA hB).mono ?_
  rintro e w' ⟨v, rfl, ho, hb⟩
  have e : rs o45 la lb = cmb o45 la lb := by unfold rs; rw [oa, ob]; rfl
  rw [e] at ho ⊢
  have k := cmb_i64 (o := o45) rfl (okS_to oa) (okS_to ob)
  obtain ⟨p', c', rfl, hs, -⟩ := ho.sl k.1 k.2
  exact ⟨p', c', rfl, hs, hb⟩
theorem least_ok (p q : Option Addr) (la lb : List Stp) (c d : Nat) (w : World) (hA : Sl w p la) (hB : Sl w q lb) (oa : okS la = true) (ob : okS lb = true) :
    Calls Try.prog 21 #[.slice p la.length c, .slice q lb.length d] w fun e w' => ∃ p' c', e = .returned (.tuple #[.slice p' (cmb o46 la lb).1.length c', .int .i64 (cmb o46 la lb).2]) ∧ Sl w' p' (cmb o46 la lb).1 ∧ Below w.heap.size w w' := by
  refine (least_any p q la lb c d w hA hB).mono ?_
  rintro e w' ⟨v, rfl, ho, hb⟩
  have e : rs o46 la lb = cmb o46 la lb := by unfold rs; rw [oa, ob]; rfl
  rw [e] at ho ⊢
  have k := cmb_i64 (o := o46) (by decide) (okS_to oa) (okS_to ob)
  obtain ⟨p', c', rfl, hs, -⟩ := ho.sl k.1 k.2
  exact ⟨p', c', rfl, hs, hb⟩
set_option maxHeartbeats 4000000 in
set_option maxRecDepth 100000 in
theorem points_walk (p : Option Addr) (la : List Stp) (ca : Nat) (q : Option Addr) (lb : List Stp) (cb : Nat) (x : Int) (w : World) (hA : Sl w p la) (hB : Sl w q lb) (hx : I64 x) :
    Calls Try.prog 7 #[.slice p la.length ca, .slice q lb.length cb, .int .i64 x] w fun e w' => e = .returned (.bool true) ∧ Below w.heap.size w w' := by
  have ha := fun W => awake_any W
  have hf := fun W => few2 W p q la.length ca lb.length cb
  cases hl : (decide (250 < la.length) || decide (250 < lb.length))
  case true =>
    rw [hl, Bool.not_true] at hf
    clear hl
    go_enter Try.func7, Try.ntmps7
    go_wp2_with (first
      | (go_at_call 11; (with_reducible refine (ha _).mono ?_); rintro e w1 ⟨rfl, hb⟩)
      | (go_at_call 12; (with_reducible refine (hf _).mono ?_); rintro e w2 ⟨rfl, hw⟩; obtain rfl := hw.symm; clear hw))
    go_ret
    exact ⟨rfl, al hb _⟩
  case false =>
    rw [hl, Bool.not_false] at hf
    clear hl
    cases hv : (okS la && okS lb)
    case false =>
      have h1 := fun W h => at_any p la ca x W h
      have h2 := fun W h => at_any q lb cb x W h
      cases oa : okS la <;> cases ob : okS lb
      case true.true => rw [oa, ob] at hv; cases hv
      all_goals (
        rw [oa] at h1
        rw [ob] at h2
        simp only [if_true, Bool.false_eq_true, if_false] at h1 h2
        generalize va la x = n at *
        generalize va lb x = m at *
        clear hv oa ob
        go_enter Try.func7, Try.ntmps7
        go_wp2_with (first
          | (go_at_call 11; (with_reducible refine (ha _).mono ?_); rintro e w1 ⟨rfl, hb⟩; have B := al hb (.cells #[.slice p la.length ca, .slice q lb.length cb] 22); clear hb)
          | (go_at_call 12; (with_reducible refine (hf _).mono ?_); rintro e w2 ⟨rfl, hw⟩; obtain rfl := hw.symm; clear hw)
          | (go_at_call 13; (with_reducible refine (h1 _ (hA.on B)).mono ?_); rintro e w3 ⟨rfl, hb⟩; replace B := belows B hb; clear hb h1)
          | (go_at_call 13; (with_reducible refine (h2 _ (hB.on B)).mono ?_); rintro e w4 ⟨rfl, hb⟩; replace B := belows B hb; clear hb h2))
        go_ret
        exact ⟨by simp, B⟩)
    case true =>
      rw [Bool.and_eq_true] at hv
      have h1 := fun W h => at_ok p la ca x W h hv.1
      have h2 := fun W h => at_ok q lb cb x W h hv.2
      have a1 := fun W h h' => add_ok p q la lb ca cb W h h' hv.1 hv.2
      have a2 := fun W h h' => add_ok q p lb la cb ca W h h' hv.2 hv.1
      have m1 := fun W h h' => least_ok p q la lb ca cb W h h' hv.1 hv.2
      have m2 := fun W h h' => least_ok q p lb la cb ca W h h' hv.2 hv.1
      rw [cmb_comm (o := o45) (fun x y => Int.add_comm x y) lb la] at a2
      rw [cmb_comm (o := o46) (fun x y => Int.min_comm x y) lb la] at m2
      have k1 := cmb_ok (o := o45) rfl (okS_to hv.1) (okS_to hv.2)
      have k2 := cmb_ok (o := o46) (by decide) (okS_to hv.1) (okS_to hv.2)
      have na := (ara_iff _).1 (va_ara (okS_to hv.1).ar x)
      have nb := (ara_iff _).1 (va_ara (okS_to hv.2).ar x)
      generalize cmb o45 la lb = R at *
      generalize cmb o46 la lb = T at *
      obtain ⟨L, C⟩ := R
      obtain ⟨M, D⟩ := T
      simp only at a1 a2 m1 m2 k1 k2
      have ek1 : C = 0 → okS L = true ∧ va L x = va la x + va lb x := fun h => ⟨okS_of (k1 h).1, (k1 h).2.2 x⟩
      have ek2 : D = 0 → okS M = true ∧ va M x = min (va la x) (va lb x) := fun h => ⟨okS_of (k2 h).1, (k2 h).2.2 x⟩
      have e1 := fun p' c' q' d' W h h' => eq_same p' q' L c' d' W h h'
      have e2 := fun p' c' q' d' W h h' => eq_same p' q' M c' d' W h h'
      have at1 : C = 0 → ∀ p' c' W, Sl W p' L → Calls Try.prog 13 #[.slice p' L.length c', .int .i64 x] W fun e w' => e = .returned (.tuple #[.int .i64 (va la x + va lb x), .int .i64 0]) ∧ Below W.heap.size W w' := fun h p' c' W hS => by
        have := at_ok p' L c' x W hS (ek1 h).1
        rw [(ek1 h).2] at this; exact this
      have at2 : D = 0 → ∀ p' c' W, Sl W p' M → Calls Try.prog 13 #[.slice p' M.length c', .int .i64 x] W fun e w' => e = .returned (.tuple #[.int .i64 (min (va la x) (va lb x)), .int .i64 0]) ∧ Below W.heap.size W w' := fun h p' c' W hS => by
        have := at_ok p' M c' x W hS (ek2 h).1
        rw [(ek2 h).2] at this; exact this
      clear k1 k2 ek1 ek2 hv
      generalize va la x = n at *
      generalize va lb x = m at *
      have ws : IntKind.i64.wrap (n + m) = n + m := IntWalk.i64_in _ (by omega)
      have hmin : min n m = if n < m then n else m := by split <;> omega
      have HMI := Lib.hid hmin
      clear na nb hmin hx
      obtain ⟨mn, hmn⟩ : ∃ mn, mn = min n m := ⟨_, rfl⟩
      rw [← hmn] at at2
      have HMN := Lib.hid hmn
      clear hmn
      by_cases hC : C = 0 <;> by_cases hD : D = 0
      · subst hC; replace at1 := at1 rfl
        subst hD; replace at2 := at2 rfl
        have hmi : (if n < m then n else m) = mn := by rw [HMN.out]; exact HMI.out.symm
        have hmi2 : (if m < n then m else n) = mn := by rw [HMN.out]; split <;> omega
        go_enter Try.func7, Try.ntmps7
        go_wp2_with (first
          | (go_at_call 11; (with_reducible refine (ha _).mono ?_); rintro e w1 ⟨rfl, hb⟩; have B := al hb (.cells #[.slice p la.length ca, .slice q lb.length cb] 22); clear hb)
          | (go_at_call 12; (with_reducible refine (hf _).mono ?_); rintro e w2 ⟨rfl, hw⟩; obtain rfl := hw.symm; clear hw)
          | (go_at_call 13; (with_reducible refine (h1 _ (hA.on B)).mono ?_); rintro e w3 ⟨rfl, hb⟩; replace B := belows B hb; clear hb h1)
          | (go_at_call 13; (with_reducible refine (h2 _ (hB.on B)).mono ?_); rintro e w4 ⟨rfl, hb⟩; replace B := belows B hb; clear hb h2)
          | (go_at_call 20; (with_reducible refine (a1 _ (hA.on B) (hB.on B)).mono ?_); rintro e w5 ⟨p5, c5, rfl, S5, hb⟩; replace B := belows B hb; clear hb a1)
          | (go_at_call 20; (with_reducible refine (a2 _ (hB.on B) (hA.on B)).mono ?_); rintro e w6 ⟨p6, c6, rfl, S6, hb⟩; replace B := belows B hb; replace S5 := S5.on hb; clear hb a2)
          | (go_at_call 18; (with_reducible refine (e1 p5 c5 p6 c6 _ S5 S6).mono ?_); rintro e w7 ⟨rfl, hb⟩; replace B := belows B hb; replace S5 := S5.on hb; clear hb e1)
          | (go_at_call 13; (with_reducible refine (at1 p5 c5 _ S5).mono ?_); rintro e w8 ⟨rfl, hb⟩; replace B := belows B hb; clear hb at1)
          | (go_at_call 21; (with_reducible refine (m1 _ (hA.on B) (hB.on B)).mono ?_); rintro e w9 ⟨p9, c9, rfl, S9, hb⟩; replace B := belows B hb; clear hb m1)
          | (go_at_call 21; (with_reducible refine (m2 _ (hB.on B) (hA.on B)).mono ?_); rintro e w10 ⟨p10, c10, rfl, S10, hb⟩; replace B := belows B hb; replace S9 := S9.on hb; clear hb m2)
          | (go_at_call 18; (with_reducible refine (e2 p9 c9 p10 c10 _ S9 S10).mono ?_); rintro e w11 ⟨rfl, hb⟩; replace B := belows B hb; replace S9 := S9.on hb; clear hb e2)
          | (go_at_call 13; (with_reducible refine (at2 p9 c9 _ S9).mono ?_); rintro e w12 ⟨rfl, hb⟩; replace B := belows B hb; clear hb at2))
        go_ret
        exact ⟨by simp, B⟩
      · subst hC; replace at1 := at1 rfl
        have q2 : (D == 0) = false := by simp [hD]
        have q2' : decide (D = 0) = false := decide_eq_false hD
        clear hD at2
        go_enter Try.func7, Try.ntmps7
        go_wp2_with (first
          | (go_at_call 11; (with_reducible refine (ha _).mono ?_); rintro e w1 ⟨rfl, hb⟩; have B := al hb (.cells #[.slice p la.length ca, .slice q lb.length cb] 22); clear hb)
          | (go_at_call 12; (with_reducible refine (hf _).mono ?_); rintro e w2 ⟨rfl, hw⟩; obtain rfl := hw.symm; clear hw)
          | (go_at_call 13; (with_reducible refine (h1 _ (hA.on B)).mono ?_); rintro e w3 ⟨rfl, hb⟩; replace B := belows B hb; clear hb h1)
          | (go_at_call 13; (with_reducible refine (h2 _ (hB.on B)).mono ?_); rintro e w4 ⟨rfl, hb⟩; replace B := belows B hb; clear hb h2)
          | (go_at_call 20; (with_reducible refine (a1 _ (hA.on B) (hB.on B)).mono ?_); rintro e w5 ⟨p5, c5, rfl, S5, hb⟩; replace B := belows B hb; clear hb a1)
          | (go_at_call 20; (with_reducible refine (a2 _ (hB.on B) (hA.on B)).mono ?_); rintro e w6 ⟨p6, c6, rfl, S6, hb⟩; replace B := belows B hb; replace S5 := S5.on hb; clear hb a2)
          | (go_at_call 18; (with_reducible refine (e1 p5 c5 p6 c6 _ S5 S6).mono ?_); rintro e w7 ⟨rfl, hb⟩; replace B := belows B hb; replace S5 := S5.on hb; clear hb e1)
          | (go_at_call 13; (with_reducible refine (at1 p5 c5 _ S5).mono ?_); rintro e w8 ⟨rfl, hb⟩; replace B := belows B hb; clear hb at1)
          | (go_at_call 21; (with_reducible refine (m1 _ (hA.on B) (hB.on B)).mono ?_); rintro e w9 ⟨p9, c9, rfl, S9, hb⟩; replace B := belows B hb; clear hb m1)
          | (go_at_call 21; (with_reducible refine (m2 _ (hB.on B) (hA.on B)).mono ?_); rintro e w10 ⟨p10, c10, rfl, S10, hb⟩; replace B := belows B hb; replace S9 := S9.on hb; clear hb m2)
          | (go_at_call 18; (with_reducible refine (e2 p9 c9 p10 c10 _ S9 S10).mono ?_); rintro e w11 ⟨rfl, hb⟩; replace B := belows B hb; replace S9 := S9.on hb; clear hb e2))
        go_ret
        exact ⟨by simp, B⟩
      · have q1 : (C == 0) = false := by simp [hC]
        have q1' : decide (C = 0) = false := decide_eq_false hC
        clear hC at1
        subst hD; replace at2 := at2 rfl
        have hmi : (if n < m then n else m) = mn := by rw [HMN.out]; exact HMI.out.symm
        have hmi2 : (if m < n then m else n) = mn := by rw [HMN.out]; split <;> omega
        go_enter Try.func7, Try.ntmps7
        go_wp2_with (first
          | (go_at_call 11; (with_reducible refine (ha _).mono ?_); rintro e w1 ⟨rfl, hb⟩; have B := al hb (.cells #[.slice p la.length ca, .slice q lb.length cb] 22); clear hb)
          | (go_at_call 12; (with_reducible refine (hf _).mono ?_); rintro e w2 ⟨rfl, hw⟩; obtain rfl := hw.symm; clear hw)
          | (go_at_call 13; (with_reducible refine (h1 _ (hA.on B)).mono ?_); rintro e w3 ⟨rfl, hb⟩; replace B := belows B hb; clear hb h1)
          | (go_at_call 13; (with_reducible refine (h2 _ (hB.on B)).mono ?_); rintro e w4 ⟨rfl, hb⟩; replace B := belows B hb; clear hb h2)
          | (go_at_call 20; (with_reducible refine (a1 _ (hA.on B) (hB.on B)).mono ?_); rintro e w5 ⟨p5, c5, rfl, S5, hb⟩; replace B := belows B hb; clear hb a1)
          | (go_at_call 20; (with_reducible refine (a2 _ (hB.on B) (hA.on B)).mono ?_); rintro e w6 ⟨p6, c6, rfl, S6, hb⟩; replace B := belows B hb; replace S5 := S5.on hb; clear hb a2)
          | (go_at_call 18; (with_reducible refine (e1 p5 c5 p6 c6 _ S5 S6).mono ?_); rintro e w7 ⟨rfl, hb⟩; replace B := belows B hb; replace S5 := S5.on hb; clear hb e1)
          | (go_at_call 21; (with_reducible refine (m1 _ (hA.on B) (hB.on B)).mono ?_); rintro e w9 ⟨p9, c9, rfl, S9, hb⟩; replace B := belows B hb; clear hb m1)
          | (go_at_call 21; (with_reducible refine (m2 _ (hB.on B) (hA.on B)).mono ?_); rintro e w10 ⟨p10, c10, rfl, S10, hb⟩; replace B := belows B hb; replace S9 := S9.on hb; clear hb m2)
          | (go_at_call 18; (with_reducible refine (e2 p9 c9 p10 c10 _ S9 S10).mono ?_); rintro e w11 ⟨rfl, hb⟩; replace B := belows B hb; replace S9 := S9.on hb; clear hb e2)
          | (go_at_call 13; (with_reducible refine (at2 p9 c9 _ S9).mono ?_); rintro e w12 ⟨rfl, hb⟩; replace B := belows B hb; clear hb at2))
        go_ret
        exact ⟨by simp, B⟩
      · have q1 : (C == 0) = false := by simp [hC]
        have q1' : decide (C = 0) = false := decide_eq_false hC
        clear hC at1
        have q2 : (D == 0) = false := by simp [hD]
        have q2' : decide (D = 0) = false := decide_eq_false hD
        clear hD at2
        go_enter Try.func7, Try.ntmps7
        go_wp2_with (first
          | (go_at_call 11; (with_reducible refine (ha _).mono ?_); rintro e w1 ⟨rfl, hb⟩; have B := al hb (.cells #[.slice p la.length ca, .slice q lb.length cb] 22); clear hb)
          | (go_at_call 12; (with_reducible refine (hf _).mono ?_); rintro e w2 ⟨rfl, hw⟩; obtain rfl := hw.symm; clear hw)
          | (go_at_call 13; (with_reducible refine (h1 _ (hA.on B)).mono ?_); rintro e w3 ⟨rfl, hb⟩; replace B := belows B hb; clear hb h1)
          | (go_at_call 13; (with_reducible refine (h2 _ (hB.on B)).mono ?_); rintro e w4 ⟨rfl, hb⟩; replace B := belows B hb; clear hb h2)
          | (go_at_call 20; (with_reducible refine (a1 _ (hA.on B) (hB.on B)).mono ?_); rintro e w5 ⟨p5, c5, rfl, S5, hb⟩; replace B := belows B hb; clear hb a1)
          | (go_at_call 20; (with_reducible refine (a2 _ (hB.on B) (hA.on B)).mono ?_); rintro e w6 ⟨p6, c6, rfl, S6, hb⟩; replace B := belows B hb; replace S5 := S5.on hb; clear hb a2)
          | (go_at_call 18; (with_reducible refine (e1 p5 c5 p6 c6 _ S5 S6).mono ?_); rintro e w7 ⟨rfl, hb⟩; replace B := belows B hb; replace S5 := S5.on hb; clear hb e1)
          | (go_at_call 21; (with_reducible refine (m1 _ (hA.on B) (hB.on B)).mono ?_); rintro e w9 ⟨p9, c9, rfl, S9, hb⟩; replace B := belows B hb; clear hb m1)
          | (go_at_call 21; (with_reducible refine (m2 _ (hB.on B) (hA.on B)).mono ?_); rintro e w10 ⟨p10, c10, rfl, S10, hb⟩; replace B := belows B hb; replace S9 := S9.on hb; clear hb m2)
          | (go_at_call 18; (with_reducible refine (e2 p9 c9 p10 c10 _ S9 S10).mono ?_); rintro e w11 ⟨rfl, hb⟩; replace B := belows B hb; replace S9 := S9.on hb; clear hb e2))
        go_ret
        exact ⟨by simp, B⟩
end Go.Proofs.Ytbohcedclnbcdaa
