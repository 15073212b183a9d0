/- The reference's Below and Sum. -/
import Derived.Test.YtbohcedclnbcdaaV13
namespace Go.Proofs.Ytbohcedclnbcdaa
open Go.ChangeShapes Go.WideShapes Go.ChangeAt Go.RowKit
set_option linter.unusedVariables false
set_option linter.unusedSimpArgs false

theorem places_ri (p q : Option Addr) (la lb : List Stp) (ca cb : Nat) (w : World) (hA : Sl w p la) (hB : Sl w q lb) (la2 : la.length ≤ 1000) (lb2 : lb.length ≤ 1000) :
    Calls Try.prog 47 #[.slice p la.length ca, .slice q lb.length cb] w fun e w' => ∃ p' c', e = .returned (.slice p' (tog la lb).length c') ∧ Ri w' p' (pls la lb) ∧ Below w.heap.size w w' := by
  refine (places_any p q la lb ca cb w hA hB la2 lb2).mono ?_
  rintro e w' ⟨v, rfl, ho, hb⟩
  obtain ⟨p', c', rfl⟩ := ho.form
  have e : (pls la lb).length = (tog la lb).length := by simp [pls]
  rw [e] at ho ⊢
  exact ⟨p', c', rfl, ho.ri, hb⟩
theorem find_at {t : List (Int × Int × Int)} {P : Int × Int × Int → Bool} {k : Nat} (hk : k < t.length) (h : ∀ e ∈ t.take k, P e = false) (hp : P t[k] = true) : t.find? P = some t[k] := by
  have e : t = t.take k ++ t[k] :: t.drop (k + 1) := by
    rw [← List.drop_eq_getElem_cons hk, List.take_append_drop]
  have hn : (t.take k).find? P = none := List.find?_eq_none.2 fun e he => by rw [h e he]; simp
  generalize ht : t[k] = u at *
  rw [e, List.find?_append, hn, Option.none_or, List.find?_cons, hp]
theorem take_more {t : List (Int × Int × Int)} {P : Int × Int × Int → Bool} {k : Nat} (hk : k < t.length) (h : ∀ e ∈ t.take k, P e = false) (hp : P t[k] = false) : ∀ e ∈ t.take (k + 1), P e = false := fun e he => by
  rw [List.take_succ_eq_append_getElem hk, List.mem_append] at he
  rcases he with he | he
  · exact h e he
  · rw [List.mem_singleton.1 he]; exact hp
def belO (la lb : List Stp) (fr tz : Int) : Int × Bool := match bel la lb fr tz with | some x => (x, true) | none => (0, false)
theorem rbelow_lt (p q : Option Addr) (la lb : List Stp) (ca cb : Nat) (fr tz : Int) (w : World) (hA : Sl w p la) (hB : Sl w q lb) (la2 : la.length ≤ 1000) (lb2 : lb.length ≤ 1000) (hlt : va la fr < va lb fr) :
    Calls Try.prog 28 #[.slice p la.length ca, .slice q lb.length cb, .int .i64 fr, .int .i64 tz] w fun e w' => e = .returned (.tuple #[.int .i64 fr, .bool true]) ∧ Below w.heap.size w w' := by
  have h1 := places_ri p q la lb ca cb w hA hB la2 lb2
  have h2 := fun W h => rat_any p la ca fr W h
  have h3 := fun W h => rat_any q lb cb fr W h
  have g1 : decide (va la fr < va lb fr) = true := decide_eq_true hlt
  generalize va la fr = n at *
  generalize va lb fr = m at *
  clear hlt
  go_enter Try.func28, Try.ntmps28
  go_wp2_with (first
    | (go_at_call 47; (with_reducible refine h1.mono ?_); rintro e w1 ⟨p1, c1, rfl, hr, B⟩)
    | (go_at_call 17; (with_reducible refine (h2 _ (hA.on B)).mono ?_); rintro e w2 ⟨rfl, hw⟩; obtain rfl := hw.symm; clear hw)
    | (go_at_call 17; (with_reducible refine (h3 _ (hB.on B)).mono ?_); rintro e w2 ⟨rfl, hw⟩; obtain rfl := hw.symm; clear hw))
  exact bodyPost_ret (v := .tuple #[.int .i64 fr, .bool true]) (by simp [results, Try.results28, go_sem]) rfl ⟨rfl, B⟩
set_option maxHeartbeats 4000000 in
set_option maxRecDepth 100000 in
theorem rbelow_ge (p q : Option Addr) (la lb : List Stp) (ca cb : Nat) (fr tz : Int) (w : World) (hA : Sl w p la) (hB : Sl w q lb) (la2 : la.length ≤ 1000) (lb2 : lb.length ≤ 1000) (aa : Asc la) (ab : Asc lb) (hlt : ¬ va la fr < va lb fr) :
    Calls Try.prog 28 #[.slice p la.length ca, .slice q lb.length cb, .int .i64 fr, .int .i64 tz] w fun e w' => e = .returned (.tuple #[.int .i64 (belO la lb fr tz).1, .bool (belO la lb fr tz).2]) ∧ Below w.heap.size w w' := by
  have h1 := places_ri p q la lb ca cb w hA hB la2 lb2
  have h2 := fun W h => rat_any p la ca fr W h
  have h3 := fun W h => rat_any q lb cb fr W h
  have g1 : decide (va la fr < va lb fr) = false := decide_eq_false hlt
  have hres : Hid (belO la lb fr tz = match ((tog la lb).find? (isB fr tz)).map (·.1) with | some x => (x, true) | none => (0, false)) := Lib.hid (by
    unfold belO bel; rw [if_neg hlt])
  have HV := Lib.hid (tog_val aa ab)
  have htl : (tog la lb).length ≤ 2000 := Nat.le_trans (tg_len _ _ _ _ _) (by omega)
  have HP : Hid (∀ j (h : j < (tog la lb).length), ∃ h' : j < (pls la lb).length, (pls la lb)[j] = (tog la lb)[j].1) := Lib.hid fun j h => ⟨by simp [pls]; exact h, by simp [pls]⟩
  generalize va la fr = n at *
  generalize va lb fr = m at *
  clear hlt aa ab
  go_enter Try.func28, Try.ntmps28
  go_wp2_with (first
    | (go_at_call 47; (with_reducible refine h1.mono ?_); rintro e w1 ⟨p1, c1, rfl, hr, B⟩)
    | (go_at_call 17; (with_reducible refine (h2 _ (hA.on B)).mono ?_); rintro e w2 ⟨rfl, hw⟩; obtain rfl := hw.symm; clear hw)
    | (go_at_call 17; (with_reducible refine (h3 _ (hB.on B)).mono ?_); rintro e w2 ⟨rfl, hw⟩; obtain rfl := hw.symm; clear hw))
  clear h1 h2 h3
  have HR := Lib.hid hr
  clear hr g1
  go_loopw [11] (fun v wr => ∃ k : Nat, v = .int .i64 k ∧ k ≤ (tog la lb).length ∧ Hid (∀ e ∈ (tog la lb).take k, isB fr tz e = false) ∧ Below w1.heap.size w1 wr) (fun v _ => (tog la lb).length - (intOf v).toNat)
  case atStart => exact ⟨0, rfl, Nat.zero_le _, Lib.hid (by simp), Below.refl _ _⟩
  case round =>
    obtain ⟨k, rfl, hk, hG, hbw⟩ := hrel
    by_cases hlt : k < (tog la lb).length
    · have gk : decide ((k : Int) < ((tog la lb).length : Int)) = true := by simp [hlt]
      have W1 : IntKind.i64.wrap ((k : Int) + 1) = ((k + 1 : Nat) : Int) := by rw [IntWalk.i64_in _ (by omega)]; omega
      have q1 : (0 : Int) ≤ (k : Int) := by omega
      have q2 : (k : Int) < ((tog la lb).length : Int) := by omega
      obtain ⟨hk', hpk⟩ := HP.out k hlt
      obtain ⟨a1, rfl, d0⟩ := (HR.out.on hbw) k hk'
      rw [hpk] at d0
      have hv := HV.out _ (List.getElem_mem hlt)
      have HS := Lib.hid (fun h => find_at hlt hG.out (P := isB fr tz) h)
      have HM := Lib.hid (fun h => take_more hlt hG.out (P := isB fr tz) h)
      have t1 := fun W h => rat_any p la ca (tog la lb)[k].1 W h
      have t2 := fun W h => rat_any q lb cb (tog la lb)[k].1 W h
      rw [← hv.1] at t1
      rw [← hv.2] at t2
      have HIB : Hid (isB fr tz (tog la lb)[k] = (decide (fr < (tog la lb)[k].1) && decide ((tog la lb)[k].1 ≤ tz) && decide ((tog la lb)[k].2.1 < (tog la lb)[k].2.2))) := Lib.hid rfl
      have HX : Hid (∀ x, x = (tog la lb)[k].1 → ((tog la lb).find? (isB fr tz) = some (tog la lb)[k] → (belO la lb fr tz) = (x, true))) := Lib.hid fun x hx h => by
        rw [hres.out, h, hx]; rfl
      have HXX := Lib.hid (HX.out _ rfl)
      clear hv HX hpk hk'
      generalize (tog la lb)[k].1 = x at *
      generalize (tog la lb)[k].2.1 = n2 at *
      generalize (tog la lb)[k].2.2 = m2 at *
      have hA1 := (hA.on B).on hbw
      have hB1 := (hB.on B).on hbw
      have u1 := fun nn => t1 (wr.drewN nn) (show Sl (wr.drewN nn) p la from hA1)
      have u2 := fun nn => t2 (wr.drewN nn) (show Sl (wr.drewN nn) q lb from hB1)
      clear t1 t2 hA1 hB1
      by_cases k1 : fr < x
      · have g1 : decide (fr < x) = true := decide_eq_true k1
        by_cases k2 : x ≤ tz
        · have g2 : decide (x ≤ tz) = true := decide_eq_true k2
          by_cases k3 : n2 < m2
          · have g3 : decide (n2 < m2) = true := decide_eq_true k3
            have HF := Lib.hid (HXX.out (HS.out (by rw [HIB.out, g1, g2, g3]; rfl)))
            clear k1 k2 k3
            go_wp2_with fail
            go_quiet (first | (with_reducible exact Calls.quiet_of_same (u1 _)) | (with_reducible exact Calls.quiet_of_same (u2 _)))
            go_wp2
            exact bodyPost_ret (v := .tuple #[.int .i64 x, .bool true]) (by simp [results, Try.results28, go_sem]) rfl ⟨by rw [HF.out], below_drewN (belows B hbw) _⟩
          · have g3 : decide (n2 < m2) = false := decide_eq_false k3
            have HF := Lib.hid (HM.out (by rw [HIB.out, g3, Bool.and_false]))
            clear k1 k2 k3
            go_wp2_with fail
            go_quiet (first | (with_reducible exact Calls.quiet_of_same (u1 _)) | (with_reducible exact Calls.quiet_of_same (u2 _)))
            go_wp2
            exact ⟨⟨k + 1, rfl, hlt, HF, below_drewN hbw _⟩, by simp [intOf]; omega⟩
        · have g2 : decide (x ≤ tz) = false := decide_eq_false k2
          have HF := Lib.hid (HM.out (by rw [HIB.out, g2, Bool.and_false, Bool.false_and]))
          clear k1 k2
          go_wp2_with fail
          go_quiet (first | (with_reducible exact Calls.quiet_of_same (u1 _)) | (with_reducible exact Calls.quiet_of_same (u2 _)))
          go_wp2
          exact ⟨⟨k + 1, rfl, hlt, HF, below_drewN hbw _⟩, by simp [intOf]; omega⟩
      · have g1 : decide (fr < x) = false := decide_eq_false k1
        have HF := Lib.hid (HM.out (by rw [HIB.out, g1, Bool.false_and, Bool.false_and]))
        clear k1
        go_wp2_with fail
        go_quiet (first | (with_reducible exact Calls.quiet_of_same (u1 _)) | (with_reducible exact Calls.quiet_of_same (u2 _)))
        go_wp2
        exact ⟨⟨k + 1, rfl, hlt, HF, below_drewN hbw _⟩, by simp [intOf]; omega⟩
    · have gk : decide ((k : Int) < ((tog la lb).length : Int)) = false := by simp; omega
      have HE : Hid (belO la lb fr tz = (0, false)) := Lib.hid (by
        have h0 := hG.out
        rw [List.take_of_length_le (by omega)] at h0
        have : (tog la lb).find? (isB fr tz) = none := List.find?_eq_none.2 fun e he => by rw [h0 e he]; simp
        rw [hres.out, this]; rfl)
      go_wp2
      exact bodyPost_ret (v := .tuple #[.int .i64 0, .bool false]) (by simp [results, Try.results28, go_sem]) rfl ⟨by rw [HE.out], belows B hbw⟩
theorem rbelow_any (p q : Option Addr) (la lb : List Stp) (ca cb : Nat) (fr tz : Int) (w : World) (hA : Sl w p la) (hB : Sl w q lb) (oa : OkS la) (ob : OkS lb) :
    Calls Try.prog 28 #[.slice p la.length ca, .slice q lb.length cb, .int .i64 fr, .int .i64 tz] w fun e w' => e = .returned (.tuple #[.int .i64 (belO la lb fr tz).1, .bool (belO la lb fr tz).2]) ∧ Below w.heap.size w w' := by
  have l1 := oa.len
  have l2 := ob.len
  by_cases hlt : va la fr < va lb fr
  · have e : belO la lb fr tz = (fr, true) := by unfold belO bel; rw [if_pos hlt]
    rw [e]
    exact rbelow_lt p q la lb ca cb fr tz w hA hB (by omega) (by omega) hlt
  · exact rbelow_ge p q la lb ca cb fr tz w hA hB (by omega) (by omega) oa.asc ob.asc hlt
set_option maxHeartbeats 4000000 in
set_option maxRecDepth 100000 in
theorem rsum_any (p : Option Addr) (l : List Stp) (cap : Nat) (fr tz : Int) (w : World) (hS : Sl w p l) (hO : okS l = true) (hR : rng fr tz = true) :
    Calls Try.prog 27 #[.slice p l.length cap, .int .i64 fr, .int .i64 tz] w fun e w' => e = .returned (.int .i64 (smT l fr tz)) ∧ w' = w := by
  have hm := hS.2.2.1
  unfold maxLen at hm
  have hr : plc fr = true ∧ plc tz = true ∧ fr ≤ tz := by unfold rng at hR; simpa [and_assoc] using hR
  have hf := (plc_iff _).1 hr.1
  have ht := (plc_iff _).1 hr.2.1
  have hft := hr.2.2
  have HB := Lib.hid (fun k hk => smP_small (okS_to hO) hr.1 hr.2.1 hr.2.2 k hk)
  have HO := Lib.hid (okS_to hO)
  clear hO hR hr
  go_enter Try.func27, Try.ntmps27
  go_wp2
  go_loop [7, 8] (fun s v => ∃ k : Nat, v = .int .i64 k ∧ k ≤ l.length ∧ s = .int .i64 (smP l fr tz k)) (fun _ v => l.length - (intOf v).toNat)
  case atStart => exact ⟨0, rfl, Nat.zero_le _, rfl⟩
  case round =>
    obtain ⟨k, rfl, hk, rfl⟩ := hrel
    by_cases hlt : k < l.length
    · have g1 : decide ((k : Int) < (l.length : Int)) = true := by simp [hlt]
      obtain ⟨a, rfl, c0, c1⟩ := hS.at hlt
      have W1 : IntKind.i64.wrap ((k : Int) + 1) = ((k + 1 : Nat) : Int) := by rw [IntWalk.i64_in _ (by omega)]; omega
      have qq1 : (0 : Int) ≤ (k : Int) := by omega
      have qq2 : (k : Int) < (l.length : Int) := by omega
      have hs := (plc_iff _).1 (HO.out.pl _ (List.getElem_mem hlt))
      have hv := (ara_iff _).1 (HO.out.ar _ (List.getElem_mem hlt))
      have hsum := HB.out k hk
      by_cases h3 : k + 1 < l.length
      · have g2 : decide (((k + 1 : Nat) : Int) < (l.length : Int)) = true := by simp; omega
        have g3 : decide ((k : Int) + 1 < (l.length : Int)) = true := by simp; omega
        obtain ⟨a', e', d0, -⟩ := hS.at h3
        cases e'
        have q1 : (0 : Int) ≤ ((k + 1 : Nat) : Int) := by omega
        have q2 : ((k + 1 : Nat) : Int) < (l.length : Int) := by omega
        have hn := (plc_iff _).1 (HO.out.pl _ (List.getElem_mem h3))
        have HN : Hid (smP l fr tz (k + 1) = smP l fr tz k + l[k].2 * max (min tz l[k + 1].1 - max l[k].1 fr) 0) := Lib.hid (by
          rw [smP, tm_val hlt rfl rfl rfl, en, if_pos h3, gdS h3])
        generalize l[k + 1].1 = n at *
        generalize l[k].1 = s at *
        generalize l[k].2 = v at *
        generalize smP l fr tz k = sum at *
        by_cases c1 : n < tz
        · by_cases c2 : fr < s
          · by_cases hc : s < n
            · have gc : decide (s < n) = true := decide_eq_true hc
              have em : max (min tz n - max s fr) 0 = n - s := by omega
              have hP := mul_area hv (D := n - s) (by omega)
              have wa : IntKind.i64.wrap (n - s) = n - s := IntWalk.i64_in _ (by omega)
              have wb : IntKind.i64.wrap (v * (n - s)) = v * (n - s) := IntWalk.i64_in _ (by omega)
              have wc : IntKind.i64.wrap (sum + v * (n - s)) = sum + v * (n - s) := IntWalk.i64_in _ (by omega)
              have HN2 : Hid (smP l fr tz (k + 1) = sum + v * (n - s)) := Lib.hid (by rw [HN.out, em])
              clear hP em
              go_wp2
              exact ⟨⟨k + 1, rfl, hlt, by rw [HN2.out]⟩, by simp [intOf]; omega⟩
            · have gc : decide (s < n) = false := decide_eq_false hc
              have em : max (min tz n - max s fr) 0 = 0 := by omega
              have HN2 : Hid (smP l fr tz (k + 1) = sum) := Lib.hid (by rw [HN.out, em, Int.mul_zero, Int.add_zero])
              clear em
              go_wp2
              exact ⟨⟨k + 1, rfl, hlt, by rw [HN2.out]⟩, by simp [intOf]; omega⟩
          · by_cases hc : fr < n
            · have gc : decide (fr < n) = true := decide_eq_true hc
              have em : max (min tz n - max s fr) 0 = n - fr := by omega
              have hP := mul_area hv (D := n - fr) (by omega)
              have wa : IntKind.i64.wrap (n - fr) = n - fr := IntWalk.i64_in _ (by omega)
              have wb : IntKind.i64.wrap (v * (n - fr)) = v * (n - fr) := IntWalk.i64_in _ (by omega)
              have wc : IntKind.i64.wrap (sum + v * (n - fr)) = sum + v * (n - fr) := IntWalk.i64_in _ (by omega)
              have HN2 : Hid (smP l fr tz (k + 1) = sum + v * (n - fr)) := Lib.hid (by rw [HN.out, em])
              clear hP em
              go_wp2
              exact ⟨⟨k + 1, rfl, hlt, by rw [HN2.out]⟩, by simp [intOf]; omega⟩
            · have gc : decide (fr < n) = false := decide_eq_false hc
              have em : max (min tz n - max s fr) 0 = 0 := by omega
              have HN2 : Hid (smP l fr tz (k + 1) = sum) := Lib.hid (by rw [HN.out, em, Int.mul_zero, Int.add_zero])
              clear em
              go_wp2
              exact ⟨⟨k + 1, rfl, hlt, by rw [HN2.out]⟩, by simp [intOf]; omega⟩
        · by_cases c2 : fr < s
          · by_cases hc : s < tz
            · have gc : decide (s < tz) = true := decide_eq_true hc
              have em : max (min tz n - max s fr) 0 = tz - s := by omega
              have hP := mul_area hv (D := tz - s) (by omega)
              have wa : IntKind.i64.wrap (tz - s) = tz - s := IntWalk.i64_in _ (by omega)
              have wb : IntKind.i64.wrap (v * (tz - s)) = v * (tz - s) := IntWalk.i64_in _ (by omega)
              have wc : IntKind.i64.wrap (sum + v * (tz - s)) = sum + v * (tz - s) := IntWalk.i64_in _ (by omega)
              have HN2 : Hid (smP l fr tz (k + 1) = sum + v * (tz - s)) := Lib.hid (by rw [HN.out, em])
              clear hP em
              go_wp2
              exact ⟨⟨k + 1, rfl, hlt, by rw [HN2.out]⟩, by simp [intOf]; omega⟩
            · have gc : decide (s < tz) = false := decide_eq_false hc
              have em : max (min tz n - max s fr) 0 = 0 := by omega
              have HN2 : Hid (smP l fr tz (k + 1) = sum) := Lib.hid (by rw [HN.out, em, Int.mul_zero, Int.add_zero])
              clear em
              go_wp2
              exact ⟨⟨k + 1, rfl, hlt, by rw [HN2.out]⟩, by simp [intOf]; omega⟩
          · by_cases hc : fr < tz
            · have gc : decide (fr < tz) = true := decide_eq_true hc
              have em : max (min tz n - max s fr) 0 = tz - fr := by omega
              have hP := mul_area hv (D := tz - fr) (by omega)
              have wa : IntKind.i64.wrap (tz - fr) = tz - fr := IntWalk.i64_in _ (by omega)
              have wb : IntKind.i64.wrap (v * (tz - fr)) = v * (tz - fr) := IntWalk.i64_in _ (by omega)
              have wc : IntKind.i64.wrap (sum + v * (tz - fr)) = sum + v * (tz - fr) := IntWalk.i64_in _ (by omega)
              have HN2 : Hid (smP l fr tz (k + 1) = sum + v * (tz - fr)) := Lib.hid (by rw [HN.out, em])
              clear hP em
              go_wp2
              exact ⟨⟨k + 1, rfl, hlt, by rw [HN2.out]⟩, by simp [intOf]; omega⟩
            · have gc : decide (fr < tz) = false := decide_eq_false hc
              have em : max (min tz n - max s fr) 0 = 0 := by omega
              have HN2 : Hid (smP l fr tz (k + 1) = sum) := Lib.hid (by rw [HN.out, em, Int.mul_zero, Int.add_zero])
              clear em
              go_wp2
              exact ⟨⟨k + 1, rfl, hlt, by rw [HN2.out]⟩, by simp [intOf]; omega⟩
      · have g2 : decide (((k + 1 : Nat) : Int) < (l.length : Int)) = false := by simp; omega
        have g3 : decide ((k : Int) + 1 < (l.length : Int)) = false := by simp; omega
        have HN : Hid (smP l fr tz (k + 1) = smP l fr tz k + l[k].2 * max (tz - max l[k].1 fr) 0) := Lib.hid (by
          rw [smP, tm_val hlt rfl rfl rfl, en, if_neg h3])
        generalize l[k].1 = s at *
        generalize l[k].2 = v at *
        generalize smP l fr tz k = sum at *
        by_cases c2 : fr < s
        · by_cases hc : s < tz
          · have gc : decide (s < tz) = true := decide_eq_true hc
            have em : max (tz - max s fr) 0 = tz - s := by omega
            have hP := mul_area hv (D := tz - s) (by omega)
            have wa : IntKind.i64.wrap (tz - s) = tz - s := IntWalk.i64_in _ (by omega)
            have wb : IntKind.i64.wrap (v * (tz - s)) = v * (tz - s) := IntWalk.i64_in _ (by omega)
            have wc : IntKind.i64.wrap (sum + v * (tz - s)) = sum + v * (tz - s) := IntWalk.i64_in _ (by omega)
            have HN2 : Hid (smP l fr tz (k + 1) = sum + v * (tz - s)) := Lib.hid (by rw [HN.out, em])
            clear hP em
            go_wp2
            exact ⟨⟨k + 1, rfl, hlt, by rw [HN2.out]⟩, by simp [intOf]; omega⟩
          · have gc : decide (s < tz) = false := decide_eq_false hc
            have em : max (tz - max s fr) 0 = 0 := by omega
            have HN2 : Hid (smP l fr tz (k + 1) = sum) := Lib.hid (by rw [HN.out, em, Int.mul_zero, Int.add_zero])
            clear em
            go_wp2
            exact ⟨⟨k + 1, rfl, hlt, by rw [HN2.out]⟩, by simp [intOf]; omega⟩
        · by_cases hc : fr < tz
          · have gc : decide (fr < tz) = true := decide_eq_true hc
            have em : max (tz - max s fr) 0 = tz - fr := by omega
            have hP := mul_area hv (D := tz - fr) (by omega)
            have wa : IntKind.i64.wrap (tz - fr) = tz - fr := IntWalk.i64_in _ (by omega)
            have wb : IntKind.i64.wrap (v * (tz - fr)) = v * (tz - fr) := IntWalk.i64_in _ (by omega)
            have wc : IntKind.i64.wrap (sum + v * (tz - fr)) = sum + v * (tz - fr) := IntWalk.i64_in _ (by omega)
            have HN2 : Hid (smP l fr tz (k + 1) = sum + v * (tz - fr)) := Lib.hid (by rw [HN.out, em])
            clear hP em
            go_wp2
            exact ⟨⟨k + 1, rfl, hlt, by rw [HN2.out]⟩, by simp [intOf]; omega⟩
          · have gc : decide (fr < tz) = false := decide_eq_false hc
            have em : max (tz - max s fr) 0 = 0 := by omega
            have HN2 : Hid (smP l fr tz (k + 1) = sum) := Lib.hid (by rw [HN.out, em, Int.mul_zero, Int.add_zero])
            clear em
            go_wp2
            exact ⟨⟨k + 1, rfl, hlt, by rw [HN2.out]⟩, by simp [intOf]; omega⟩
    · have g1 : decide ((k : Int) < (l.length : Int)) = false := by simp; omega
      have e : smT l fr tz = smP l fr tz k := by unfold smT; congr 1; omega
      go_wp2
      go_ret
      exact ⟨by first | rfl | (rw [e]; rfl), rfl⟩
end Go.Proofs.Ytbohcedclnbcdaa
