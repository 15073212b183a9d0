/- Distances, comparisons, and the closure of Nearest. -/
import Derived.Test.YtepcokgpepcccaaDoorAsc
import Derived.StillTailTactics
namespace Go.Proofs.YtepcokgpepcccaaDoor
open Go.ChangeShapes Go.WideShapes Go.ChangeAt Go.RowKit
set_option linter.unusedVariables false
set_option linter.unusedSimpArgs false

def Sml (z : Int) : Prop := -2305843009213693952 ≤ z ∧ z ≤ 2305843009213693952
def dst (a b : Int) : Int := max (a - b) (b - a)
theorem dst_any (a b : Int) (ha : Sml a) (hb : Sml b) (w : World) : Calls Tryd.prog 45 #[.int .i64 a, .int .i64 b] w fun e w' => e = .returned (.int .i64 (dst a b)) ∧ w' = w := by
  unfold Sml at ha hb
  have W1 : IntKind.i64.wrap (a - b) = a - b := IntWalk.i64_in _ (by omega)
  have W2 : IntKind.i64.wrap (b - a) = b - a := IntWalk.i64_in _ (by omega)
  go_enter Tryd.func45, Tryd.ntmps45
  go_wp2
  go_ret
  exact ⟨rfl, rfl⟩
theorem nan_any (a : Int) (w : World) : Calls Tryd.prog 68 #[.int .i64 a] w fun e w' => e = .returned (.bool false) ∧ w' = w := by
  have g : (a != a) = false := by simp
  go_enter Tryd.func68, Tryd.ntmps68
  go_wp2
  go_ret
  exact ⟨rfl, rfl⟩
def cmpv (a b : Int) : Int := if a < b then -1 else if b < a then 1 else 0
theorem cmp_any (a b : Int) (w : World) : Calls Tryd.prog 44 #[.int .i64 a, .int .i64 b] w fun e w' => e = .returned (.int .i64 (cmpv a b)) ∧ w' = w := by
  have hn := fun a => nan_any a
  go_enter Tryd.func44, Tryd.ntmps44
  by_cases h1 : a < b
  · have g1 : decide (a < b) = true := by simp [h1]
    go_wp2_with (go_at_call 68; (with_reducible refine (hn _ _).mono ?_); rintro e1 w1 ⟨rfl, hw⟩; subst w1)
    go_ret
    exact ⟨by simp [cmpv, h1], rfl⟩
  · have g1 : decide (a < b) = false := by simp; omega
    by_cases h2 : b < a
    · have g2 : decide (b < a) = true := by simp [h2]
      go_wp2_with (go_at_call 68; (with_reducible refine (hn _ _).mono ?_); rintro e1 w1 ⟨rfl, hw⟩; subst w1)
      go_ret
      exact ⟨by simp [cmpv, h1, h2], rfl⟩
    · have g2 : decide (b < a) = false := by simp; omega
      have e0 : cmpv a b = 0 := by rw [cmpv, if_neg h1, if_neg h2]
      go_wp2_with (go_at_call 68; (with_reducible refine (hn _ _).mono ?_); rintro e1 w1 ⟨rfl, hw⟩; subst w1)
      go_ret
      exact ⟨ret_one e0.symm, rfl⟩
def orv (a b : Int) : Int := if a = 0 then b else a
theorem or_any (g : Nat) (a b : Int) (w : World) (h1 : w.cell? ⟨g, 0, none⟩ = some (.int .i64 a)) (h2 : w.cell? ⟨g, 1, none⟩ = some (.int .i64 b)) :
    Calls Tryd.prog 43 #[.slice (some ⟨g, 0, none⟩) 2 2] w fun e w' => e = .returned (.int .i64 (orv a b)) ∧ w' = w := by
  go_enter Tryd.func43, Tryd.ntmps43
  go_wp2
  go_loopw [8] (fun v wr => w = wr ∧ (v = .int .i64 0 ∨ v = .int .i64 1 ∧ a = 0 ∨ v = .int .i64 2 ∧ a = 0 ∧ b = 0)) (fun v _ => 2 - (intOf v).toNat)
  case atStart => exact ⟨rfl, .inl rfl⟩
  case round =>
    obtain ⟨rfl, rfl | ⟨rfl, ha⟩ | ⟨rfl, ha, hb⟩⟩ := hrel
    · by_cases k : a = 0
      · have g1 : (a != 0) = false := by simp [k]
        go_wp2
        exact ⟨⟨trivial, .inr (.inl ⟨rfl, k⟩)⟩, by simp [intOf]⟩
      · have g1 : (a != 0) = true := by simp [k]
        go_wp2
        go_ret
        exact ⟨by simp [orv, k], rfl⟩
    · by_cases k : b = 0
      · have g1 : (b != 0) = false := by simp [k]
        go_wp2
        exact ⟨⟨trivial, .inr (.inr ⟨rfl, ha, k⟩)⟩, by simp [intOf]⟩
      · have g1 : (b != 0) = true := by simp [k]
        go_wp2
        go_ret
        exact ⟨by simp [orv, ha], rfl⟩
    · go_wp2
      go_ret
      exact ⟨by simp [orv, ha, hb], rfl⟩
def cmpn (sum a b : Int) : Int := orv (cmpv (dst a sum) (dst b sum)) (cmpv a b)
set_option maxRecDepth 100000 in
set_option maxHeartbeats 2000000 in
theorem nrc_any (bs : Nat) (a b sum : Int) (w : World) (ha : Sml a) (hb : Sml b) (hs : Sml sum) (hc : w.cell? ⟨bs, 0, none⟩ = some (.int .i64 sum)) :
    Calls Tryd.prog 42 #[.int .i64 a, .int .i64 b, .pointer (some ⟨bs, 0, none⟩)] w fun e w' => e = .returned (.int .i64 (cmpn sum a b)) ∧ Below w.heap.size w w' := by
  have d1 := fun w => dst_any a sum ha hs w
  have d2 := fun w => dst_any b sum hb hs w
  have k1 := fun w => cmp_any (dst a sum) (dst b sum) w
  have k2 := fun w => cmp_any a b w
  have k3 : orv (cmpv (dst a sum) (dst b sum)) (cmpv a b) = cmpn sum a b := rfl
  obtain ⟨x, hx⟩ : ∃ x, dst a sum = x := ⟨_, rfl⟩
  obtain ⟨y, hy⟩ : ∃ y, dst b sum = y := ⟨_, rfl⟩
  rw [hx] at d1 k1 k3
  rw [hy] at d2 k1 k3
  obtain ⟨c1, hc1⟩ : ∃ c, cmpv x y = c := ⟨_, rfl⟩
  obtain ⟨c2, hc2⟩ : ∃ c, cmpv a b = c := ⟨_, rfl⟩
  rw [hc1] at k1 k3
  rw [hc2] at k2 k3
  have K3 := Lib.hid k3
  clear hx hy hc1 hc2 k3
  go_enter Tryd.func42, Tryd.ntmps42
  go_upto_region 1 with fail
  refine wp_region_still_tail 10 (by kernel_rfl) (by kernel_rfl) ?_
  simp only [List.take_succ_cons, List.take_zero, List.drop_succ_cons, List.drop_zero]
  have hc' : w.drew.cell? ⟨bs, 0, none⟩ = some (.int .i64 sum) := hc
  have hB : Below w.heap.size w w.drew := Below.drew (Below.refl _ _)
  show wpStill _ _ w.drew _ _ _
  generalize w.drew = W at hc' hB ⊢
  clear hc
  repeat still_step
  still_call (d1 W)
  repeat still_step
  still_call (d2 W)
  still_call (k1 W)
  repeat still_step
  still_call (k2 W)
  refine wpStill_nil ?_
  have b1 : Below w.heap.size w (w.alloc (.cells #[.int .i64 c1, .int .i64 c2] 3)).drew := Below.drew (al1 w _)
  have r1 : (w.alloc (.cells #[.int .i64 c1, .int .i64 c2] 3)).drew.cell? ⟨w.heap.size, 0, none⟩ = some (.int .i64 c1) := Has.read (Has.drew_ (Has.new_ w 3 _)) 0
  have r2 : (w.alloc (.cells #[.int .i64 c1, .int .i64 c2] 3)).drew.cell? ⟨w.heap.size, 1, none⟩ = some (.int .i64 c2) := Has.read (Has.drew_ (Has.new_ w 3 _)) 1
  go_wp2_with (go_at_call 43; (with_reducible refine (or_any _ _ _ _ r1 r2).mono ?_); rintro e1 w1 ⟨rfl, hw⟩; subst w1)
  go_ret
  exact ⟨ret_one K3.out, b1⟩
end Go.Proofs.YtepcokgpepcccaaDoor
