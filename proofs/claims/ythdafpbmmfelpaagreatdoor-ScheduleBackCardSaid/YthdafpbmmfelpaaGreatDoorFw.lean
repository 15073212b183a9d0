/- few: small schedules; Kind. -/
import Derived.Test.YthdafpbmmfelpaaGreatDoorBl
import Derived.Test.YthdafpbmmfelpaaGreatDoorM2
namespace Go.Proofs.YthdafpbmmfelpaaGreatDoor
open Go.ChangeShapes Go.WideShapes Go.ChangeAt Go.RowKit
set_option linter.unusedVariables false
set_option linter.unusedSimpArgs false

def smallB (b : Bar) : Bool := decide (b.mark.size ≤ 60) && decide (b.ds.length ≤ 12)
def smallL (l : List Bar) : Bool := decide (l.length ≤ 70) && l.all smallB
theorem small_and {l : List Bar} (h : smallL l = true) : l.length ≤ 70 ∧ ∀ b ∈ l, b.mark.size ≤ 60 ∧ b.ds.length ≤ 12 := by
  unfold smallL smallB at h
  simp only [Bool.and_eq_true, decide_eq_true_eq, List.all_eq_true] at h
  exact h
set_option maxHeartbeats 4000000 in
set_option maxRecDepth 100000 in
theorem small_any (p : Option Addr) (l : List Bar) (cap : Nat) (w : World) (hS : Slb w p l cap) :
    Calls Tryz.prog 37 #[.slice p l.length cap, .int .i64 70] w fun e w' => e = .returned (.bool (smallL l)) ∧ w = w' := by
  have hm := hS.mx
  unfold maxLen at hm
  by_cases hl : ¬ l.length ≤ 70
  · have hR : smallL l = false := by simp [smallL, hl]
    rw [hR]
    have g0 : decide ((l.length : Int) > 70) = true := by simp; omega
    clear hR hl
    go_enter Tryz.func37, Tryz.ntmps37
    go_wp2
    go_ret
    exact ⟨rfl, rfl⟩
  rw [Decidable.not_not] at hl
  have g0 : decide ((l.length : Int) > 70) = false := by simp; omega
  have HV := Lib.hid (show smallL l = l.all smallB by simp [smallL, hl])
  go_enter Tryz.func37, Tryz.ntmps37
  go_wp2
  go_loop [5] (fun v => ∃ k : Nat, v = .int .i64 k ∧ k ≤ l.length ∧ Hid (∀ i (h : i < l.length), i < k → smallB l[i] = true)) (fun v => l.length - (intOf v).toNat)
  case atStart => exact ⟨0, rfl, Nat.zero_le _, Lib.hid (fun i h1 h => absurd h (Nat.not_lt_zero i))⟩
  case round =>
    obtain ⟨k, rfl, hk, hG⟩ := hrel
    by_cases hlt : k < l.length
    · have g1 : decide ((k : Int) < (l.length : Int)) = true := by simp [hlt]
      have W1 : IntKind.i64.wrap ((k : Int) + 1) = ((k + 1 : Nat) : Int) := by rw [IntWalk.i64_in _ (by omega)]; omega
      have q1 : (0 : Int) ≤ (k : Int) := by omega
      have q2 : (k : Int) < (l.length : Int) := by omega
      obtain ⟨a, rfl, c0, c1, c2, c3, c4⟩ := hS.at_ k hlt
      have hno : smallB l[k] = false → Hid (smallL l = false) := fun h => Lib.hid (by
        rw [HV.out]
        exact List.all_eq_false.2 ⟨_, List.getElem_mem hlt, by simp [h]⟩)
      by_cases h1 : l[k].mark.size ≤ 60
      · have t1 : decide ((l[k].mark.size : Int) > 60) = false := by simp; omega
        by_cases h2 : l[k].ds.length ≤ 12
        · have t2 : decide ((l[k].ds.length : Int) > 12) = false := by simp; omega
          have HG : Hid (∀ i (h : i < l.length), i < k + 1 → smallB l[i] = true) := Lib.hid fun i h h3 => by
            rcases Nat.lt_or_ge i k with h4 | h4
            · exact hG.out i h h4
            · obtain rfl : i = k := by omega
              simp [smallB, h1, h2]
          clear h1 h2 hno
          generalize l[k].mark = mk at *
          generalize l[k].ds.length = dl at *
          go_wp2
          exact ⟨⟨k + 1, rfl, hlt, HG⟩, by simp [intOf]; omega⟩
        · have t2 : decide ((l[k].ds.length : Int) > 12) = true := by simp; omega
          have HR := hno (by simp [smallB, h2])
          clear h1 h2 hno
          generalize l[k].mark = mk at *
          generalize l[k].ds.length = dl at *
          go_wp2
          go_ret
          exact ⟨by rw [HR.out]; rfl, rfl⟩
      · have t1 : decide ((l[k].mark.size : Int) > 60) = true := by simp; omega
        have HR := hno (by simp [smallB, h1])
        clear h1 hno
        generalize l[k].mark = mk at *
        go_wp2
        go_ret
        exact ⟨by rw [HR.out]; rfl, rfl⟩
    · have g1 : decide ((k : Int) < (l.length : Int)) = false := by simp; omega
      go_wp2
      go_ret
      refine ⟨?_, rfl⟩
      rw [HV.out, show l.all smallB = true from List.all_eq_true.2 fun x hx => by
        obtain ⟨i, hi, rfl⟩ := List.mem_iff_getElem.1 hx
        exact hG.out i hi (by omega)]; rfl
theorem clo36 (p : Option Addr) (l : List Bar) (cap : Nat) (w : World) (hS : Slb w p l cap) :
    Calls Tryz.prog 36 #[.slice p l.length cap] w fun e w' => e = .returned (.bool (!smallL l)) ∧ w = w' := by
  have h := small_any p l cap w hS
  go_enter Tryz.func36, Tryz.ntmps36
  go_wp2_with (go_at_call 37; (with_reducible refine h.mono ?_); rintro X wq ⟨rfl, rfl⟩)
  go_ret
  exact ⟨rfl, rfl⟩
structure Q where
  p : Option Addr
  l : List Bar
  c : Nat
def Q.v (q : Q) : Value := .slice q.p q.l.length q.c
set_option maxRecDepth 100000 in
theorem few_any (g : Nat) (xs : List Q) (w : World) (hx : ∀ i (h : i < xs.length), w.cell? ⟨g, i, none⟩ = some xs[i].v ∧ Slb w xs[i].p xs[i].l xs[i].c) (hn : xs.length ≤ 10) :
    Calls Tryz.prog 11 #[.slice (some ⟨g, 0, none⟩) xs.length xs.length] w fun e w' => e = .returned (.bool (xs.all fun q => smallL q.l)) ∧ w = w' := by
  have HX := Lib.hid hx
  clear hx
  have h64 : Calls Tryz.prog 64 #[.slice (some ⟨g, 0, none⟩) xs.length xs.length, .func (.func 36) #[] #[]] w fun e w' => ∃ i : Int, e = .returned (.int .i64 i) ∧ decide (i ≥ 0) = !(xs.all fun q => smallL q.l) ∧ w = w' := by
    go_enter Tryz.func64, Tryz.ntmps64
    go_wp2
    go_loop [8] (fun v => ∃ k : Nat, v = .int .i64 k ∧ k ≤ xs.length ∧ Hid (∀ i (h : i < xs.length), i < k → smallL xs[i].l = true)) (fun v => xs.length - (intOf v).toNat)
    case atStart => exact ⟨0, rfl, Nat.zero_le _, Lib.hid (fun i h h2 => absurd h2 (Nat.not_lt_zero i))⟩
    case round =>
      obtain ⟨k, rfl, hk, hG⟩ := hrel
      by_cases hlt : k < xs.length
      · have g1 : decide ((k : Int) < (xs.length : Int)) = true := by simp [hlt]
        have W1 : IntKind.i64.wrap ((k : Int) + 1) = ((k + 1 : Nat) : Int) := by rw [IntWalk.i64_in _ (by omega)]; omega
        have q1 : (0 : Int) ≤ (k : Int) := by omega
        have q2 : (k : Int) < (xs.length : Int) := by omega
        obtain ⟨c0, hS⟩ := HX.out k hlt
        have h36 := clo36 _ _ _ w hS
        have HV : Hid (∃ v, v = smallL xs[k].l) := Lib.hid ⟨_, rfl⟩
        obtain ⟨V, hV⟩ := HV.out
        rw [← hV] at h36
        have HVV := Lib.hid hV
        unfold Q.v at c0
        clear hV HV hS
        generalize xs[k].p = pk at *
        generalize xs[k].c = ck at *
        cases V
        · have e : (xs.all fun q => smallL q.l) = false := List.all_eq_false.2 ⟨_, List.getElem_mem hlt, by rw [← HVV.out]; simp⟩
          generalize xs[k].l.length = lk at *
          go_wp2_with (go_at_call 36; (with_reducible refine h36.mono ?_); rintro e1 w1 ⟨rfl, rfl⟩)
          go_ret
          exact ⟨_, rfl, by first | (rw [e]; simp) | simp, rfl⟩
        · have HG : Hid (∀ i (h : i < xs.length), i < k + 1 → smallL xs[i].l = true) := Lib.hid fun i h h3 => by
            rcases Nat.lt_or_ge i k with h4 | h4
            · exact hG.out i h h4
            · obtain rfl : i = k := by omega
              exact HVV.out.symm
          generalize xs[k].l.length = lk at *
          go_wp2_with (go_at_call 36; (with_reducible refine h36.mono ?_); rintro e1 w1 ⟨rfl, rfl⟩)
          exact ⟨⟨k + 1, rfl, hlt, HG⟩, by simp [intOf]; omega⟩
      · have g1 : decide ((k : Int) < (xs.length : Int)) = false := by simp; omega
        have e : (xs.all fun q => smallL q.l) = true := List.all_eq_true.2 fun x hx => by
          obtain ⟨i, hi, rfl⟩ := List.mem_iff_getElem.1 hx
          exact hG.out i hi (by omega)
        go_wp2
        go_ret
        exact ⟨-1, rfl, by first | (rw [e]; rfl) | decide, rfl⟩
  have h35 : Calls Tryz.prog 35 #[.slice (some ⟨g, 0, none⟩) xs.length xs.length, .func (.func 36) #[] #[]] w fun e w' => e = .returned (.bool (!(xs.all fun q => smallL q.l))) ∧ w = w' := by
    go_enter Tryz.func35, Tryz.ntmps35
    go_wp2_with (go_at_call 64; (with_reducible refine h64.mono ?_); rintro e1 w1 ⟨i, rfl, hi, rfl⟩)
    go_ret
    exact ⟨rfl, rfl⟩
  go_enter Tryz.func11, Tryz.ntmps11
  go_wp2_with (go_at_call 35; (with_reducible refine h35.mono ?_); rintro e1 w1 ⟨rfl, rfl⟩)
  go_ret
  exact ⟨by simp, rfl⟩
/-- few of one schedule, which the law hands over in a slice of its own. -/
theorem few_one (p : Option Addr) (l : List Bar) (c : Nat) (w : World) (hS : Slb w p l c) :
    Calls Tryz.prog 11 #[.slice (some ⟨w.heap.size, 0, none⟩) 1 1] (w.alloc (.cells #[.slice p l.length c] 22)) fun e w' => e = .returned (.bool (smallL l)) ∧ w.alloc (.cells #[.slice p l.length c] 22) = w' := by
  have HN := Has.new_ w 22 #[.slice p l.length c]
  refine (few_any w.heap.size [⟨p, l, c⟩] _ (fun i h => ?_) (by simp)).mono fun e w' h => ⟨by rw [h.1]; simp, h.2⟩
  obtain rfl : i = 0 := by simp at h; omega
  exact ⟨by rw [HN.read]; rfl, hS.on (al1 w _)⟩
theorem few_two (p q : Option Addr) (l m : List Bar) (c d : Nat) (w : World) (hS : Slb w p l c) (hT : Slb w q m d) :
    Calls Tryz.prog 11 #[.slice (some ⟨w.heap.size, 0, none⟩) 2 2] (w.alloc (.cells #[.slice p l.length c, .slice q m.length d] 22)) fun e w' => e = .returned (.bool (smallL l && smallL m)) ∧ w.alloc (.cells #[.slice p l.length c, .slice q m.length d] 22) = w' := by
  have HN := Has.new_ w 22 #[.slice p l.length c, .slice q m.length d]
  refine (few_any w.heap.size [⟨p, l, c⟩, ⟨q, m, d⟩] _ (fun i h => ?_) (by simp)).mono fun e w' h => ⟨by rw [h.1]; simp, h.2⟩
  match i, h with
  | 0, _ => exact ⟨by rw [HN.read]; rfl, hS.on (al1 w _)⟩
  | 1, _ => exact ⟨by rw [HN.read]; rfl, hT.on (al1 w _)⟩
theorem kind_any (d : Int) (w : World) : Calls Tryz.prog 24 #[.int .i64 d] w fun e w' => e = .returned (.bool (isz d)) ∧ Below w.heap.size w w' := by
  have h := fun W => riz_any d W
  go_enter Tryz.func24, Tryz.ntmps24
  go_wp2_with (go_at_call 55; (with_reducible refine (h _).mono ?_); rintro X wq ⟨rfl, hb⟩)
  go_ret
  exact ⟨rfl, hb⟩
end Go.Proofs.YthdafpbmmfelpaaGreatDoor
