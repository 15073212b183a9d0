/- few; the reference's Valid, At, Given. -/
import Derived.Test.YtbohcedclnbcdaaV9
namespace Go.Proofs.Ytbohcedclnbcdaa
open Go.ChangeShapes Go.WideShapes Go.ChangeAt Go.RowKit
set_option linter.unusedVariables false
set_option linter.unusedSimpArgs false

theorem between_any (x lo hi : Int) (w : World) : Calls Try.prog 41 #[.int .i64 x, .int .i64 lo, .int .i64 hi] w fun e w' => e = .returned (.bool (decide (lo ≤ x) && decide (x ≤ hi))) ∧ w' = w := by
  by_cases h1 : lo ≤ x
  · by_cases h2 : x ≤ hi
    · have g1 : decide (lo ≤ x) = true := decide_eq_true h1
      have g2 : decide (x ≤ hi) = true := decide_eq_true h2
      rw [g1, g2]
      clear h1 h2
      go_enter Try.func41, Try.ntmps41
      go_wp2
      go_ret
      exact ⟨rfl, rfl⟩
    · have g1 : decide (lo ≤ x) = true := decide_eq_true h1
      have g2 : decide (x ≤ hi) = false := decide_eq_false h2
      rw [g1, g2]
      clear h1 h2
      go_enter Try.func41, Try.ntmps41
      go_wp2
      go_ret
      exact ⟨rfl, rfl⟩
  · have g1 : decide (lo ≤ x) = false := decide_eq_false h1
    rw [g1, Bool.false_and]
    clear h1
    go_enter Try.func41, Try.ntmps41
    go_wp2
    go_ret
    exact ⟨rfl, rfl⟩
theorem rarea_any (x : Int) (w : World) : Calls Try.prog 41 #[.int .i64 x, .int .i64 0, .int .i64 1099511627776] w fun e w' => e = .returned (.bool (ara x)) ∧ w' = w := between_any x 0 1099511627776 w
theorem rplace_any (x : Int) (w : World) : Calls Try.prog 40 #[.int .i64 x] w fun e w' => e = .returned (.bool (plc x)) ∧ w' = w := by
  have h := fun W => between_any x (-1048576) 1048576 W
  have e : (decide (-1048576 ≤ x) && decide (x ≤ 1048576)) = plc x := rfl
  rw [e] at h
  clear e
  generalize plc x = b at *
  go_enter Try.func40, Try.ntmps40
  go_wp2_with (go_at_call 41; (with_reducible refine (h _).mono ?_); rintro e w' ⟨rfl, rfl⟩)
  go_ret
  exact ⟨rfl, rfl⟩
theorem given_any (x y : Int) (w : World) : Calls Try.prog 26 #[.int .i64 x, .int .i64 y] w fun e w' => e = .returned (.int .i64 (if rng x y then 0 else 2)) ∧ w' = w := by
  have W1 := fun w => rplace_any x w
  have W2 := fun w => rplace_any y w
  have e : rng x y = (plc x && plc y && decide (x ≤ y)) := rfl
  rw [e]
  clear e
  generalize plc x = A at *
  generalize plc y = B at *
  by_cases h : x ≤ y
  · have g1 : decide (x ≤ y) = true := decide_eq_true h
    have g2 : decide (y < x) = false := decide_eq_false (by omega)
    rw [g1]
    clear h
    cases A <;> cases B
    all_goals (
      go_enter Try.func26, Try.ntmps26
      go_wp2_with (first | (go_at_call 40; (with_reducible refine (W1 _).mono ?_); rintro e w' ⟨rfl, rfl⟩) | (go_at_call 40; (with_reducible refine (W2 _).mono ?_); rintro e w' ⟨rfl, rfl⟩))
      go_ret
      exact ⟨rfl, rfl⟩)
  · have g1 : decide (x ≤ y) = false := decide_eq_false h
    have g2 : decide (y < x) = true := decide_eq_true (by omega)
    rw [g1]
    clear h
    cases A <;> cases B
    all_goals (
      go_enter Try.func26, Try.ntmps26
      go_wp2_with (first | (go_at_call 40; (with_reducible refine (W1 _).mono ?_); rintro e w' ⟨rfl, rfl⟩) | (go_at_call 40; (with_reducible refine (W2 _).mono ?_); rintro e w' ⟨rfl, rfl⟩))
      go_ret
      exact ⟨rfl, rfl⟩)
set_option maxRecDepth 100000 in
theorem rat_any (p : Option Addr) (l : List Stp) (cap : Nat) (x : Int) (w : World) (hS : Sl w p l) :
    Calls Try.prog 17 #[.slice p l.length cap, .int .i64 x] w fun e w' => e = .returned (.int .i64 (va l x)) ∧ w' = w := by
  have hm := hS.2.2.1
  unfold maxLen at hm
  go_enter Try.func17, Try.ntmps17
  go_wp2
  go_loop [5, 6] (fun v i => ∃ k : Nat, i = .int .i64 k ∧ k ≤ l.length ∧ v = .int .i64 (va (l.take k) x)) (fun v i => l.length - (intOf i).toNat)
  case atStart => exact ⟨0, rfl, Nat.zero_le _, rfl⟩
  case round =>
    obtain ⟨k, rfl, hk, rfl⟩ := hrel
    by_cases hlt : k < l.length
    · have g1 : decide ((k : Int) < (l.length : Int)) = true := by simp [hlt]
      obtain ⟨a, rfl, c0, c1⟩ := hS.at hlt
      have W1 : IntKind.i64.wrap ((k : Int) + 1) = ((k + 1 : Nat) : Int) := by rw [IntWalk.i64_in _ (by omega)]; omega
      have q1 : (0 : Int) ≤ (k : Int) := by omega
      have q2 : (k : Int) < (l.length : Int) := by omega
      have HV := Lib.hid (va_take hlt x)
      generalize l[k].1 = s at *
      generalize l[k].2 = t at *
      generalize va (l.take k) x = v at *
      by_cases h : s ≤ x
      · have g2 : decide (s ≤ x) = true := decide_eq_true h
        have HE := Lib.hid h
        clear h
        go_wp2
        exact ⟨⟨k + 1, rfl, hlt, by rw [HV.out, if_pos HE.out]⟩, by simp [intOf]; omega⟩
      · have g2 : decide (s ≤ x) = false := decide_eq_false h
        have HE := Lib.hid h
        clear h
        go_wp2
        exact ⟨⟨k + 1, rfl, hlt, by rw [HV.out, if_neg HE.out]⟩, by simp [intOf]; omega⟩
    · have g1 : decide ((k : Int) < (l.length : Int)) = false := by simp; omega
      have e : l.take k = l := List.take_of_length_le (by omega)
      go_wp2
      go_ret
      exact ⟨rfl, rfl⟩
set_option maxHeartbeats 2000000 in
set_option maxRecDepth 100000 in
theorem rvalid_any (p : Option Addr) (l : List Stp) (cap : Nat) (w : World) (hS : Sl w p l) :
    Calls Try.prog 15 #[.slice p l.length cap] w fun e w' => e = .returned (.bool (okS l)) ∧ Below w.heap.size w w' := by
  have hm := hS.2.2.1
  unfold maxLen at hm
  by_cases h2 : 200 < l.length
  · have h4 : (200 : Int) < l.length := by omega
    have e : okS l = false := by unfold okS; rw [decide_eq_false (by omega)]; rfl
    go_enter Try.func15, Try.ntmps15
    go_wp2
    go_ret
    exact ⟨by rw [e]; rfl, Below.refl _ _⟩
  · have h4 : ¬ (200 : Int) < l.length := by omega
    have h2' : l.length ≤ 200 := by omega
    have HM := Lib.hid hm
    clear hm
    go_enter Try.func15, Try.ntmps15
    go_wp2
    go_loopw [3] (fun v wr => ∃ k : Nat, v = .int .i64 k ∧ k ≤ l.length ∧ Hid (∀ j, j < k → oka l j = true) ∧ Below w.heap.size w wr) (fun v _ => l.length - (intOf v).toNat)
    case atStart => exact ⟨0, rfl, Nat.zero_le _, Lib.hid (fun j h => absurd h (Nat.not_lt_zero j)), Below.refl _ _⟩
    case round =>
      obtain ⟨k, rfl, hk, hG, hB⟩ := hrel
      by_cases hlt : k < l.length
      · have g1 : decide ((k : Int) < (l.length : Int)) = true := by simp [hlt]
        obtain ⟨a, rfl, c0, c1⟩ := (hS.on hB).at hlt
        have W1 : IntKind.i64.wrap ((k : Int) + 1) = ((k + 1 : Nat) : Int) := by rw [IntWalk.i64_in _ (by omega)]; omega
        have qk1 : (0 : Int) ≤ (k : Int) := by omega
        have qk2 : (k : Int) < (l.length : Int) := by omega
        have HO : Hid (oka l k = (plc l[k].1 && ara l[k].2 && (decide (k = 0) || decide ((l.getD (k - 1) (0, 0)).1 < l[k].1)))) := Lib.hid (by unfold oka; rw [gdS hlt])
        have HS := Lib.hid (fun h => okS_stop hlt h)
        have HN : Hid (oka l k = true → ∀ j, j < k + 1 → oka l j = true) := Lib.hid fun h j hj => by
          rcases Nat.lt_or_ge j k with h1 | h1
          · exact hG.out j h1
          · rw [show j = k by omega]; exact h
        have P1 := fun W => rplace_any l[k].1 W
        have P2 := fun W => rarea_any l[k].2 W
        rcases Nat.eq_zero_or_pos k with hz | hp
        · have g0 : decide (0 < k) = false := by simp; omega
          have HO' : Hid (oka l k = (plc l[k].1 && ara l[k].2)) := Lib.hid (by rw [HO.out, decide_eq_true hz]; simp)
          clear HO
          generalize l[k].1 = s at *
          generalize l[k].2 = t at *
          generalize plc s = A at *
          generalize ara t = C at *
          clear hz
          cases A <;> cases C
          case true.true =>
            go_wp2_with fail
            go_quiet (first | exact Calls.quiet_of_same (P1 _) | exact Calls.quiet_of_same (P2 _))
            go_wp2
            exact ⟨⟨k + 1, rfl, hlt, Lib.hid (HN.out HO'.out), below_drewN hB _⟩, by simp [intOf]; omega⟩
          all_goals (
            go_wp2_with fail
            go_quiet (first | exact Calls.quiet_of_same (P1 _) | exact Calls.quiet_of_same (P2 _))
            go_wp2
            go_ret
            exact ⟨by rw [HS.out HO'.out]; rfl, below_drewN hB _⟩)
        · have g0 : decide (0 < k) = true := by simp; omega
          have W2 : IntKind.i64.wrap ((k : Int) - 1) = ((k - 1 : Nat) : Int) := by rw [IntWalk.i64_in _ (by omega)]; omega
          have q1 : (0 : Int) ≤ ((k - 1 : Nat) : Int) := by omega
          have q2 : ((k - 1 : Nat) : Int) < (l.length : Int) := by omega
          obtain ⟨a', e', d0, d1⟩ := (hS.on hB).at (show k - 1 < l.length by omega)
          cases e'
          have HO' : Hid (oka l k = (plc l[k].1 && ara l[k].2 && decide ((l[k - 1]'(by omega)).1 < l[k].1))) := Lib.hid (by rw [HO.out, decide_eq_false (by omega), gdS (show k - 1 < l.length by omega)]; rfl)
          clear HO d1
          generalize (l[k - 1]'(by omega)).1 = u at *
          generalize l[k].1 = s at *
          generalize l[k].2 = t at *
          by_cases hu : u < s
          · have g2 : decide (s ≤ u) = false := by simp; omega
            have HO2 : Hid (oka l k = (plc s && ara t)) := Lib.hid (by rw [HO'.out, decide_eq_true hu, Bool.and_true])
            clear HO' hu
            generalize plc s = A at *
            generalize ara t = C at *
            cases A <;> cases C
            case true.true =>
              go_wp2_with fail
              go_quiet (first | exact Calls.quiet_of_same (P1 _) | exact Calls.quiet_of_same (P2 _))
              go_wp2
              exact ⟨⟨k + 1, rfl, hlt, Lib.hid (HN.out HO2.out), below_drewN hB _⟩, by simp [intOf]; omega⟩
            all_goals (
              go_wp2_with fail
              go_quiet (first | exact Calls.quiet_of_same (P1 _) | exact Calls.quiet_of_same (P2 _))
              go_wp2
              go_ret
              exact ⟨by rw [HS.out HO2.out]; rfl, below_drewN hB _⟩)
          · have g2 : decide (s ≤ u) = true := by simp; omega
            have HO2 : Hid (oka l k = false) := Lib.hid (by rw [HO'.out, decide_eq_false hu, Bool.and_false])
            clear HO' hu
            generalize plc s = A at *
            generalize ara t = C at *
            cases A <;> cases C
            all_goals (
              go_wp2_with fail
              go_quiet (first | exact Calls.quiet_of_same (P1 _) | exact Calls.quiet_of_same (P2 _))
              go_wp2
              go_ret
              exact ⟨by rw [HS.out HO2.out]; rfl, below_drewN hB _⟩)
      · have g1 : decide ((k : Int) < (l.length : Int)) = false := by simp; omega
        have HE : Hid (okS l = true) := Lib.hid (by
          unfold okS
          rw [decide_eq_true h2', Bool.true_and, List.all_eq_true]
          exact fun j hj => hG.out j (by rw [List.mem_range] at hj; omega))
        go_wp2
        go_ret
        exact ⟨by rw [HE.out]; rfl, hB⟩
/-- A list of slices that can be read. -/
def Ls (w : World) (a : Addr) (xs : List (Option Addr × Nat × Nat)) : Prop := ∀ i (h : i < xs.length), w.cell? (a.add i) = some (.slice xs[i].1 xs[i].2.1 xs[i].2.2)
theorem long_any (p : Option Addr) (n c : Nat) (w : World) : Calls Try.prog 38 #[.slice p n c] w fun e w' => e = .returned (.bool (decide (250 < n))) ∧ w' = w := by
  by_cases h : 250 < n
  · have h4 : (250 : Int) < n := by omega
    rw [decide_eq_true h]
    go_enter Try.func38, Try.ntmps38
    go_wp2
    go_ret
    exact ⟨by simp [h], rfl⟩
  · have h4 : ¬ (250 : Int) < n := by omega
    rw [decide_eq_false h]
    go_enter Try.func38, Try.ntmps38
    go_wp2
    go_ret
    exact ⟨by simp [h], rfl⟩
set_option maxRecDepth 100000 in
theorem lidx_any (a : Addr) (xs : List (Option Addr × Nat × Nat)) (cap : Nat) (w : World) (hL : Ls w a xs) (hx : xs.length ≤ 100) :
    Calls Try.prog 55 #[.slice (some a) xs.length cap, .func (.func 38) #[] #[]] w fun e w' => ∃ i : Int, e = .returned (.int .i64 i) ∧ decide (0 ≤ i) = xs.any (fun x => decide (250 < x.2.1)) ∧ w' = w := by
  go_enter Try.func55, Try.ntmps55
  go_wp2
  go_loop [8] (fun v => ∃ k : Nat, v = .int .i64 k ∧ k ≤ xs.length ∧ Hid (∀ x ∈ xs.take k, decide (250 < x.2.1) = false)) (fun v => xs.length - (intOf v).toNat)
  case atStart => exact ⟨0, rfl, Nat.zero_le _, Lib.hid (by simp)⟩
  case round =>
    obtain ⟨k, rfl, hk, hG⟩ := hrel
    by_cases hlt : k < xs.length
    · have g1 : decide ((k : Int) < (xs.length : Int)) = true := by simp [hlt]
      have c0 := hL k hlt
      have W1 : IntKind.i64.wrap ((k : Int) + 1) = ((k + 1 : Nat) : Int) := by rw [IntWalk.i64_in _ (by omega)]; omega
      have q1 : (0 : Int) ≤ (k : Int) := by omega
      have q2 : (k : Int) < (xs.length : Int) := by omega
      have hb := fun W => long_any xs[k].1 xs[k].2.1 xs[k].2.2 W
      have HN : Hid (∀ b, decide (250 < xs[k].2.1) = b → (b = false → ∀ x ∈ xs.take (k + 1), decide (250 < x.2.1) = false) ∧ (b = true → xs.any (fun x => decide (250 < x.2.1)) = true)) := Lib.hid fun b hb => ⟨fun e x hx => by
          rw [List.take_succ_eq_append_getElem hlt, List.mem_append] at hx
          rcases hx with hx | hx
          · exact hG.out x hx
          · rw [List.mem_singleton.1 hx, hb, e], fun e => List.any_eq_true.2 ⟨xs[k], List.getElem_mem hlt, by rw [hb, e]⟩⟩
      generalize xs[k].2.1 = m at *
      generalize xs[k].1 = m1 at *
      generalize xs[k].2.2 = m2 at *
      obtain ⟨b, hbb⟩ : ∃ b, b = decide (250 < m) := ⟨_, rfl⟩
      rw [← hbb] at hb
      have HB := Lib.hid (HN.out b hbb.symm)
      clear hbb HN
      cases b
      · go_wp2_with (go_at_call 38; (with_reducible refine (hb _).mono ?_); rintro e1 w1 ⟨rfl, hw⟩; obtain rfl := hw.symm; clear hw)
        exact ⟨⟨k + 1, rfl, hlt, Lib.hid (HB.out.1 (by first | rfl | trivial))⟩, by simp [intOf]; omega⟩
      · go_wp2_with (go_at_call 38; (with_reducible refine (hb _).mono ?_); rintro e1 w1 ⟨rfl, hw⟩; obtain rfl := hw.symm; clear hw)
        go_ret
        exact ⟨_, rfl, by rw [HB.out.2 (by first | rfl | trivial)]; simp, rfl⟩
    · have g1 : decide ((k : Int) < (xs.length : Int)) = false := by simp; omega
      have HE : Hid (xs.any (fun x => decide (250 < x.2.1)) = false) := Lib.hid (by
        have := hG.out
        rw [List.take_of_length_le (by omega)] at this
        exact List.any_eq_false.2 fun x hx => by rw [this x hx]; simp)
      go_wp2
      go_ret
      exact ⟨-1, rfl, by rw [HE.out]; rfl, rfl⟩
theorem few_any (a : Addr) (xs : List (Option Addr × Nat × Nat)) (cap : Nat) (w : World) (hL : Ls w a xs) (hx : xs.length ≤ 100) :
    Calls Try.prog 12 #[.slice (some a) xs.length cap] w fun e w' => e = .returned (.bool (!xs.any (fun x => decide (250 < x.2.1)))) ∧ w' = w := by
  have h := lidx_any a xs cap w hL hx
  have h37 : Calls Try.prog 37 #[.slice (some a) xs.length cap, .func (.func 38) #[] #[]] w fun e w' => e = .returned (.bool (xs.any (fun x => decide (250 < x.2.1)))) ∧ w' = w := by
    generalize xs.any (fun x => decide (250 < x.2.1)) = b at *
    go_enter Try.func37, Try.ntmps37
    go_wp2_with (go_at_call 55; (with_reducible refine h.mono ?_); rintro e1 w1 ⟨i, rfl, hi, rfl⟩)
    go_ret
    exact ⟨rfl, rfl⟩
  clear h
  generalize xs.any (fun x => decide (250 < x.2.1)) = b at *
  go_enter Try.func12, Try.ntmps12
  go_wp2_with (go_at_call 37; (with_reducible refine h37.mono ?_); rintro e1 w1 ⟨rfl, rfl⟩)
  go_ret
  exact ⟨rfl, rfl⟩
end Go.Proofs.Ytbohcedclnbcdaa
