/- Places, areas, ranges; the value at a number; Valid. -/
import Derived.Test.YtbohcedclnbcdaaP0
namespace Go.Proofs.Ytbohcedclnbcdaa
open Go.ChangeShapes Go.WideShapes Go.ChangeAt Go.RowKit
set_option linter.unusedVariables false
set_option linter.unusedSimpArgs false

theorem place_any (x : Int) (w : World) : Calls Try.prog 42 #[.int .i64 x] w fun e w' => e = .returned (.bool (plc x)) ∧ w = w' := by
  by_cases h1 : -1048576 ≤ x
  · by_cases h2 : x ≤ 1048576
    · go_enter Try.func42, Try.ntmps42
      go_wp2
      go_ret
      exact ⟨by simp [plc, h1, h2], rfl⟩
    · go_enter Try.func42, Try.ntmps42
      go_wp2
      go_ret
      exact ⟨by simp [plc, h1, h2], rfl⟩
  · go_enter Try.func42, Try.ntmps42
    go_wp2
    go_ret
    exact ⟨by have : decide (-1048576 ≤ x) = false := decide_eq_false (by omega)
              simp [plc, this], rfl⟩
theorem area_any (x : Int) (w : World) : Calls Try.prog 43 #[.int .i64 x] w fun e w' => e = .returned (.bool (ara x)) ∧ w = w' := by
  by_cases h1 : 0 ≤ x
  · by_cases h2 : x ≤ 1099511627776
    · go_enter Try.func43, Try.ntmps43
      go_wp2
      go_ret
      exact ⟨by simp [ara, h1, h2], rfl⟩
    · go_enter Try.func43, Try.ntmps43
      go_wp2
      go_ret
      exact ⟨by simp [ara, h1, h2], rfl⟩
  · go_enter Try.func43, Try.ntmps43
    go_wp2
    go_ret
    exact ⟨by have : decide (0 ≤ x) = false := decide_eq_false (by omega)
              simp [ara, this], rfl⟩
def rng (x y : Int) : Bool := plc x && plc y && decide (x ≤ y)
theorem range_any (x y : Int) (w : World) : Calls Try.prog 49 #[.int .i64 x, .int .i64 y] w fun e w' => e = .returned (.bool (rng x y)) ∧ w = w' := by
  have W1 := fun w => place_any x w
  have W2 := fun w => place_any y w
  have e : rng x y = (plc x && plc y && decide (x ≤ y)) := rfl
  generalize plc x = A at *
  generalize plc y = B at *
  by_cases h : x ≤ y
  · cases A <;> cases B
    all_goals (
      go_enter Try.func49, Try.ntmps49
      go_wp2_with (first | (go_at_call 42; (with_reducible refine (W1 _).mono ?_); rintro e w' ⟨rfl, rfl⟩) | (go_at_call 42; (with_reducible refine (W2 _).mono ?_); rintro e w' ⟨rfl, rfl⟩))
      go_ret
      exact ⟨by rw [e]; simp [h], rfl⟩)
  · cases A <;> cases B
    all_goals (
      go_enter Try.func49, Try.ntmps49
      go_wp2_with (first | (go_at_call 42; (with_reducible refine (W1 _).mono ?_); rintro e w' ⟨rfl, rfl⟩) | (go_at_call 42; (with_reducible refine (W2 _).mono ?_); rintro e w' ⟨rfl, rfl⟩))
      go_ret
      exact ⟨by rw [e]; simp [h], rfl⟩)
theorem vaF_snoc {l : List Stp} {v y : Int} {s : Stp} : vaF v (l ++ [s]) y = if s.1 ≤ y then s.2 else vaF v l y := by
  induction l generalizing v with
  | nil => rfl
  | cons t l ih => rw [List.cons_append, vaF, vaF, ih]
theorem va_take {l : List Stp} {k : Nat} (hk : k < l.length) (y : Int) : va (l.take (k + 1)) y = if l[k].1 ≤ y then l[k].2 else va (l.take k) y := by
  unfold va
  rw [List.take_succ_eq_append_getElem hk, vaF_snoc]
theorem va_end {l : List Stp} (h : Asc l) {k : Nat} (hk : k < l.length) {y : Int} (hy : y < l[k].1) : va l y = va (l.take k) y := by
  have e : l = l.take k ++ l.drop k := (List.take_append_drop k l).symm
  have hd : ∀ s ∈ l.drop k, y < s.1 := by
    intro s hs
    obtain ⟨j, hj, rfl⟩ := List.getElem_of_mem hs
    rw [List.length_drop] at hj
    rw [List.getElem_drop]
    rcases Nat.eq_zero_or_pos j with rfl | hp
    · simpa using hy
    · have := List.pairwise_iff_getElem.1 h k (k + j) hk (by omega) (by omega)
      omega
  have gen : ∀ (a b : List Stp) (v : Int), vaF v (a ++ b) y = vaF (vaF v a y) b y := by
    intro a b
    induction a with
    | nil => intro v; rfl
    | cons t a ih => intro v; rw [List.cons_append, vaF, vaF, ih]
  unfold va
  conv => lhs; rw [e]
  rw [gen, vaF_lt hd]
set_option maxRecDepth 100000 in
theorem value_any (p : Option Addr) (l : List Stp) (cap : Nat) (x : Int) (w : World) (hS : Sl w p l) (ha : Asc l) :
    Calls Try.prog 39 #[.slice p l.length cap, .int .i64 x] w fun e w' => e = .returned (.int .i64 (va l x)) ∧ Below w.heap.size w w' := by
  have hm := hS.2.2.1
  unfold maxLen at hm
  have HA := Lib.hid ha
  clear ha
  go_enter Try.func39, Try.ntmps39
  go_wp2
  go_loopw [5, 10] (fun v i wr => ∃ k : Nat, i = .int .i64 k ∧ k ≤ l.length ∧ v = .int .i64 (va (l.take k) x) ∧ Below w.heap.size w wr) (fun v i _ => l.length - (intOf i).toNat)
  case atStart => exact ⟨0, rfl, Nat.zero_le _, rfl, Below.refl _ _⟩
  case round =>
    obtain ⟨k, rfl, hk, rfl, hB⟩ := hrel
    by_cases hlt : k < l.length
    · have g1 : decide ((k : Int) < (l.length : Int)) = true := by simp [hlt]
      obtain ⟨a, rfl, c0, c1⟩ := (hS.on hB).at hlt
      have W1 : IntKind.i64.wrap ((k : Int) + 1) = ((k + 1 : Nat) : Int) := by rw [IntWalk.i64_in _ (by omega)]; omega
      have HV := Lib.hid (va_take hlt x)
      have HE := Lib.hid (fun h => va_end HA.out hlt (y := x) h)
      generalize l[k].1 = s at *
      generalize l[k].2 = t at *
      generalize va (l.take k) x = v at *
      by_cases h : x < s
      · go_wp2
        go_ret
        exact ⟨by rw [HE.out h]; rfl, al hB _⟩
      · have h' : ¬ (s > x) := h
        go_wp2
        exact ⟨⟨k + 1, rfl, hlt, by rw [HV.out, if_pos (by omega)], al hB _⟩, by simp [intOf]; omega⟩
    · have g1 : decide ((k : Int) < (l.length : Int)) = false := by simp; omega
      have e : l.take k = l := List.take_of_length_le (by omega)
      go_wp2
      go_ret
      exact ⟨by rw [e]; rfl, hB⟩
/-- Whether the step at k is right. -/
def oka (l : List Stp) (k : Nat) : Bool := plc (l.getD k (0, 0)).1 && ara (l.getD k (0, 0)).2 && (decide (k = 0) || decide ((l.getD (k - 1) (0, 0)).1 < (l.getD k (0, 0)).1))
def okS (l : List Stp) : Bool := decide (l.length ≤ 200) && (List.range l.length).all (oka l)
theorem gdS {l : List Stp} {k : Nat} (h : k < l.length) : l.getD k (0, 0) = l[k] := by simp [List.getD, h]
theorem okS_of {l : List Stp} (h : OkS l) : okS l = true := by
  unfold okS
  rw [Bool.and_eq_true, List.all_eq_true]
  refine ⟨decide_eq_true h.len, fun k hk => ?_⟩
  rw [List.mem_range] at hk
  unfold oka
  rw [gdS hk, h.pl _ (List.getElem_mem hk), h.ar _ (List.getElem_mem hk)]
  rcases Nat.eq_zero_or_pos k with rfl | hp
  · rfl
  · rw [gdS (show k - 1 < l.length by omega)]
    have := List.pairwise_iff_getElem.1 h.asc (k - 1) k (by omega) hk (by omega)
    simp [this]
theorem asc_of {l : List Stp} (h : ∀ k, 0 < k → (hk : k < l.length) → (l[k - 1]'(by omega)).1 < l[k].1) : Asc l := by
  refine List.pairwise_iff_getElem.2 fun i j hi hj hij => ?_
  obtain ⟨d, rfl⟩ : ∃ d, j = i + d + 1 := ⟨j - i - 1, by omega⟩
  clear hij
  induction d with
  | zero => exact h (i + 0 + 1) (by omega) hj
  | succ d ih =>
    have h1 := ih (by omega)
    have h2 := h (i + (d + 1) + 1) (by omega) hj
    simp only [Nat.add_sub_cancel] at h2
    have e : i + (d + 1) = i + d + 1 := by omega
    simp only [e] at h2 ⊢
    omega
theorem okS_to {l : List Stp} (h : okS l = true) : OkS l := by
  unfold okS at h
  rw [Bool.and_eq_true, List.all_eq_true] at h
  have k : ∀ i (hi : i < l.length), plc l[i].1 = true ∧ ara l[i].2 = true ∧ (i = 0 ∨ (l.getD (i - 1) (0, 0)).1 < l[i].1) := fun i hi => by
    have := h.2 i (List.mem_range.2 hi)
    unfold oka at this
    rw [gdS hi] at this
    simp only [Bool.and_eq_true, Bool.or_eq_true, decide_eq_true_eq] at this
    exact ⟨this.1.1, this.1.2, this.2⟩
  refine ⟨of_decide_eq_true h.1, fun s hs => ?_, fun s hs => ?_, asc_of fun i hp hi => ?_⟩
  · obtain ⟨i, hi, rfl⟩ := List.getElem_of_mem hs; exact (k i hi).1
  · obtain ⟨i, hi, rfl⟩ := List.getElem_of_mem hs; exact (k i hi).2.1
  · rcases (k i hi).2.2 with e | e
    · omega
    · rw [gdS (show i - 1 < l.length by omega)] at e; exact e
theorem okS_iff (l : List Stp) : okS l = true ↔ OkS l := ⟨okS_to, okS_of⟩
theorem okS_stop {l : List Stp} {k : Nat} (hk : k < l.length) (h : oka l k = false) : okS l = false := by
  unfold okS
  rw [Bool.and_eq_false_iff]
  exact .inr (List.all_eq_false.2 ⟨k, List.mem_range.2 hk, by simp [h]⟩)
set_option maxHeartbeats 2000000 in
set_option maxRecDepth 100000 in
theorem valid_any (p : Option Addr) (l : List Stp) (cap : Nat) (w : World) (hS : Sl w p l) :
    Calls Try.prog 16 #[.slice p l.length cap] w fun e w' => e = .returned (.bool (okS l)) ∧ Below w.heap.size w w' := by
  have hm := hS.2.2.1
  unfold maxLen at hm
  by_cases h2 : 200 < l.length
  · have h4 : (200 : Int) < l.length := by omega
    have e : okS l = false := by unfold okS; rw [decide_eq_false (by omega)]; rfl
    go_enter Try.func16, Try.ntmps16
    go_wp2
    go_ret
    exact ⟨by rw [e]; rfl, Below.refl _ _⟩
  · have h4 : ¬ (200 : Int) < l.length := by omega
    have h2' : l.length ≤ 200 := by omega
    have HM := Lib.hid hm
    clear hm
    go_enter Try.func16, Try.ntmps16
    go_wp2
    go_loopw [10] (fun v wr => ∃ k : Nat, v = .int .i64 k ∧ k ≤ l.length ∧ Hid (∀ j, j < k → oka l j = true) ∧ Below w.heap.size w wr) (fun v _ => l.length - (intOf v).toNat)
    case atStart => exact ⟨0, rfl, Nat.zero_le _, Lib.hid (fun j h => absurd h (Nat.not_lt_zero j)), Below.refl _ _⟩
    case round =>
      obtain ⟨k, rfl, hk, hG, hB⟩ := hrel
      by_cases hlt : k < l.length
      · have g1 : decide ((k : Int) < (l.length : Int)) = true := by simp [hlt]
        obtain ⟨a, rfl, c0, c1⟩ := (hS.on hB).at hlt
        have W1 : IntKind.i64.wrap ((k : Int) + 1) = ((k + 1 : Nat) : Int) := by rw [IntWalk.i64_in _ (by omega)]; omega
        have hB1 := al hB (.cells #[.int .i64 l[k].1, .int .i64 l[k].2] 34)
        have HO : Hid (oka l k = (plc l[k].1 && ara l[k].2 && (decide (k = 0) || decide ((l.getD (k - 1) (0, 0)).1 < l[k].1)))) := Lib.hid (by unfold oka; rw [gdS hlt])
        have HS := Lib.hid (fun h => okS_stop hlt h)
        have HN : Hid (oka l k = true → ∀ j, j < k + 1 → oka l j = true) := Lib.hid fun h j hj => by
          rcases Nat.lt_or_ge j k with h1 | h1
          · exact hG.out j h1
          · rw [show j = k by omega]; exact h
        have P1 := fun W => (place_any l[k].1 W).mono fun e w' h => And.intro h.1 h.2.symm
        have P2 := fun W => (area_any l[k].2 W).mono fun e w' h => And.intro h.1 h.2.symm
        rcases Nat.eq_zero_or_pos k with hz | hp
        · have g0 : decide (0 < k) = false := by simp; omega
          have HO' : Hid (oka l k = (plc l[k].1 && ara l[k].2)) := Lib.hid (by rw [HO.out, decide_eq_true hz]; simp)
          clear HO
          generalize l[k].1 = s at *
          generalize l[k].2 = t at *
          generalize plc s = A at *
          generalize ara t = C at *
          clear hz
          cases A <;> cases C
          case true.true =>
            go_wp2_with fail
            go_quiet (first | exact Calls.quiet_of_same (P1 _) | exact Calls.quiet_of_same (P2 _))
            go_wp2
            exact ⟨⟨k + 1, rfl, hlt, Lib.hid (HN.out HO'.out), below_drewN hB1 _⟩, by simp [intOf]; omega⟩
          all_goals (
            go_wp2_with fail
            go_quiet (first | exact Calls.quiet_of_same (P1 _) | exact Calls.quiet_of_same (P2 _))
            go_wp2
            go_ret
            exact ⟨by rw [HS.out HO'.out]; rfl, below_drewN hB1 _⟩)
        · have g0 : decide (0 < k) = true := by simp; omega
          have W2 : IntKind.i64.wrap ((k : Int) - 1) = ((k - 1 : Nat) : Int) := by rw [IntWalk.i64_in _ (by omega)]; omega
          have q1 : (0 : Int) ≤ ((k - 1 : Nat) : Int) := by omega
          have q2 : ((k - 1 : Nat) : Int) < (l.length : Int) := by omega
          obtain ⟨a', e', d0, d1⟩ := (hS.on hB).at (show k - 1 < l.length by omega)
          cases e'
          have HO' : Hid (oka l k = (plc l[k].1 && ara l[k].2 && decide ((l[k - 1]'(by omega)).1 < l[k].1))) := Lib.hid (by rw [HO.out, decide_eq_false (by omega), gdS (show k - 1 < l.length by omega)]; rfl)
          have D0 := cell_later (al1 wr (.cells #[.int .i64 l[k].1, .int .i64 l[k].2] 34)) d0
          clear HO d1
          generalize (l[k - 1]'(by omega)).1 = u at *
          generalize l[k].1 = s at *
          generalize l[k].2 = t at *
          by_cases hu : u < s
          · have g2 : decide (s ≤ u) = false := by simp; omega
            have HO2 : Hid (oka l k = (plc s && ara t)) := Lib.hid (by rw [HO'.out, decide_eq_true hu, Bool.and_true])
            clear HO' hu
            generalize plc s = A at *
            generalize ara t = C at *
            cases A <;> cases C
            case true.true =>
              go_wp2_with fail
              go_quiet (first | exact Calls.quiet_of_same (P1 _) | exact Calls.quiet_of_same (P2 _))
              go_wp2
              exact ⟨⟨k + 1, rfl, hlt, Lib.hid (HN.out HO2.out), below_drewN hB1 _⟩, by simp [intOf]; omega⟩
            all_goals (
              go_wp2_with fail
              go_quiet (first | exact Calls.quiet_of_same (P1 _) | exact Calls.quiet_of_same (P2 _))
              go_wp2
              go_ret
              exact ⟨by rw [HS.out HO2.out]; rfl, below_drewN hB1 _⟩)
          · have g2 : decide (s ≤ u) = true := by simp; omega
            have HO2 : Hid (oka l k = false) := Lib.hid (by rw [HO'.out, decide_eq_false hu, Bool.and_false])
            clear HO' hu
            generalize plc s = A at *
            generalize ara t = C at *
            cases A <;> cases C
            all_goals (
              go_wp2_with fail
              go_quiet (first | exact Calls.quiet_of_same (P1 _) | exact Calls.quiet_of_same (P2 _))
              go_wp2
              go_ret
              exact ⟨by rw [HS.out HO2.out]; rfl, below_drewN hB1 _⟩)
      · have g1 : decide ((k : Int) < (l.length : Int)) = false := by simp; omega
        have HE : Hid (okS l = true) := Lib.hid (by
          unfold okS
          rw [decide_eq_true h2', Bool.true_and, List.all_eq_true]
          exact fun j hj => hG.out j (by rw [List.mem_range] at hj; omega))
        go_wp2
        go_ret
        exact ⟨by rw [HE.out]; rfl, hB⟩
end Go.Proofs.Ytbohcedclnbcdaa
