/- Lists of whole numbers that are read; which lists are at fault. -/
import Derived.Test.YtepcokgpepcccaaDoorBas
namespace Go.Proofs.YtepcokgpepcccaaDoor
open Go.ChangeShapes Go.WideShapes Go.ChangeAt Go.RowKit
set_option linter.unusedVariables false
set_option linter.unusedSimpArgs false

theorem cell_later {w w' : World} {a : Addr} {v : Value} (hb : Below w.heap.size w w') (h : w.cell? a = some v) : w'.cell? a = some v := by
  have hl : a.block < w.heap.size := by
    by_cases hl : a.block < w.heap.size
    · exact hl
    · exfalso
      have e : w.heap[a.block]? = none := Array.getElem?_eq_none (by omega)
      simp [World.cell?, e] at h
  have e := hb.block a.block hl
  simp only [World.cell?, e] at h ⊢
  exact h
/-- The value is a list of these whole numbers. -/
def Rdz (w : World) (v : Value) (zs : List Int) : Prop := ∃ q c, v = .slice q zs.length c ∧ ∀ j (h : j < zs.length), ∃ a, q = some a ∧ w.cell? (a.add j) = some (.int .i64 zs[j])
theorem Rdz.on {w w1 : World} {v : Value} {zs : List Int} (h : Rdz w v zs) (hb : Below w.heap.size w w1) : Rdz w1 v zs := by
  obtain ⟨q, c, rfl, k⟩ := h
  refine ⟨q, c, rfl, fun j hj => ?_⟩
  obtain ⟨g, e, hc⟩ := k j hj
  exact ⟨g, e, cell_later hb hc⟩
theorem Rdz.nil (w : World) (c : Nat) : Rdz w (.slice none 0 c) [] := ⟨none, c, rfl, fun j h => by simp at h⟩
/-- A number that a list may hold. -/
def okZ (z : Int) : Bool := decide (-1125899906842624 ≤ z) && decide (z ≤ 1125899906842624)
def allZ (zs : List Int) : Bool := zs.all okZ
def fau (zs : List Int) : Int := if 16 < zs.length then 6 else if allZ zs then 0 else 1

theorem far_any (z : Int) (w : World) : Calls Tryd.prog 65 #[.int .i64 z] w fun e w' => e = .returned (.bool (!okZ z)) ∧ w' = w := by
  go_enter Tryd.func65, Tryd.ntmps65
  by_cases h1 : z < -1125899906842624
  · have g1 : decide (z < -1125899906842624) = true := by simp [h1]
    go_wp2
    go_ret
    have : okZ z = false := by unfold okZ; simp; omega
    exact ⟨by rw [this]; rfl, rfl⟩
  · have g1 : decide (z < -1125899906842624) = false := by simp; omega
    by_cases h2 : 1125899906842624 < z
    · have g2 : decide (1125899906842624 < z) = true := by simp [h2]
      go_wp2
      go_ret
      have : okZ z = false := by unfold okZ; simp; omega
      exact ⟨by rw [this]; rfl, rfl⟩
    · have g2 : decide (1125899906842624 < z) = false := by simp; omega
      go_wp2
      go_ret
      have : okZ z = true := by unfold okZ; simp; omega
      exact ⟨by rw [this]; rfl, rfl⟩
theorem idx_any (u : Value) (zs : List Int) (w : World) (hR : Rdz w u zs) (hl : zs.length ≤ 100000) :
    Calls Tryd.prog 64 #[u, .func (.func 65) #[] #[]] w fun e w' => ∃ i : Int, e = .returned (.int .i64 i) ∧ decide (0 ≤ i) = !allZ zs ∧ w' = w := by
  obtain ⟨q, c, rfl, hq⟩ := hR
  go_enter Tryd.func64, Tryd.ntmps64
  go_wp2
  go_loopw [8] (fun v wr => ∃ k : Nat, v = .int .i64 k ∧ k ≤ zs.length ∧ Hid (∀ x ∈ zs.take k, okZ x = true) ∧ w = wr) (fun v _ => zs.length - (intOf v).toNat)
  case atStart => exact ⟨0, rfl, Nat.zero_le _, Lib.hid (by simp), rfl⟩
  case round =>
    obtain ⟨k, rfl, hk, hG, rfl⟩ := hrel
    by_cases hlt : k < zs.length
    · have g1 : decide ((k : Int) < (zs.length : Int)) = true := by simp [hlt]
      obtain ⟨a, rfl, cu⟩ := hq k hlt
      have W1 : IntKind.i64.wrap ((k : Int) + 1) = ((k + 1 : Nat) : Int) := by rw [IntWalk.i64_in _ (by omega)]; omega
      have q1 : (0 : Int) ≤ (k : Int) := by omega
      have q2 : (k : Int) < (zs.length : Int) := by omega
      have hf := far_any zs[k] w
      obtain ⟨z, hz⟩ : ∃ z, z = zs[k] := ⟨_, rfl⟩
      rw [← hz] at cu hf
      have HZ := Lib.hid hz
      clear hz
      cases hv : okZ z
      · rw [hv] at hf
        have e : allZ zs = false := List.all_eq_false.2 ⟨_, List.getElem_mem hlt, by rw [← HZ.out, hv]; simp⟩
        go_wp2_with (go_at_call 65; (with_reducible refine hf.mono ?_); rintro e1 w1 ⟨rfl, rfl⟩)
        go_ret
        exact ⟨_, rfl, by rw [e]; simp, rfl⟩
      · rw [hv] at hf
        go_wp2_with (go_at_call 65; (with_reducible refine hf.mono ?_); rintro e1 w1 ⟨rfl, rfl⟩)
        refine ⟨⟨k + 1, rfl, hlt, Lib.hid ?_, trivial⟩, by simp [intOf]; omega⟩
        intro x hx'
        rw [List.take_succ_eq_append_getElem hlt, List.mem_append] at hx'
        rcases hx' with hx' | hx'
        · exact hG.out x hx'
        · rw [List.mem_singleton.1 hx', ← HZ.out]; exact hv
    · have g1 : decide ((k : Int) < (zs.length : Int)) = false := by simp; omega
      go_wp2
      go_ret
      have := hG.out
      rw [List.take_of_length_le (by omega)] at this
      have e : allZ zs = true := List.all_eq_true.2 this
      exact ⟨-1, rfl, by rw [e]; rfl, rfl⟩
theorem outs_any (u : Value) (zs : List Int) (w : World) (hR : Rdz w u zs) (hl : zs.length ≤ 100000) :
    Calls Tryd.prog 35 #[u, .func (.func 65) #[] #[]] w fun e w' => e = .returned (.bool (!allZ zs)) ∧ w' = w := by
  have h := idx_any u zs w hR hl
  go_enter Tryd.func35, Tryd.ntmps35
  go_wp2_with (go_at_call 64; (with_reducible refine h.mono ?_); rintro e1 w1 ⟨i, rfl, hi, rfl⟩)
  go_ret
  exact ⟨rfl, rfl⟩
theorem fault_any (u : Value) (zs : List Int) (w : World) (hR : Rdz w u zs) :
    Calls Tryd.prog 38 #[u] w fun e w' => e = .returned (.int .i64 (fau zs)) ∧ w' = w := by
  have ho := outs_any u zs w hR
  obtain ⟨q, c, rfl, hq⟩ := hR
  go_enter Tryd.func38, Tryd.ntmps38
  by_cases hl : 16 < zs.length
  · have g1 : decide ((16 : Int) < (zs.length : Int)) = true := by simp; omega
    go_wp2
    go_ret
    exact ⟨by rw [fau, if_pos hl]; rfl, rfl⟩
  · have g1 : decide ((16 : Int) < (zs.length : Int)) = false := by simp; omega
    have h := ho (by omega)
    cases hv : allZ zs
    · rw [hv] at h
      go_wp2_with (go_at_call 35; (with_reducible refine h.mono ?_); rintro e1 w1 ⟨rfl, rfl⟩)
      go_ret
      exact ⟨by rw [fau, if_neg hl, hv]; rfl, rfl⟩
    · rw [hv] at h
      go_wp2_with (go_at_call 35; (with_reducible refine h.mono ?_); rintro e1 w1 ⟨rfl, rfl⟩)
      go_ret
      exact ⟨by rw [fau, if_neg hl, hv]; rfl, rfl⟩
theorem given_any (u : Value) (zs : List Int) (w : World) (hR : Rdz w u zs) :
    Calls Tryd.prog 13 #[u] w fun e w' => e = .returned (.int .i64 (fau zs)) ∧ w' = w := by
  obtain ⟨q, c, rfl, hq⟩ := hR
  go_enter Tryd.func13, Tryd.ntmps13
  by_cases hl : 16 < zs.length
  · have g1 : decide ((16 : Int) < (zs.length : Int)) = true := by simp; omega
    go_wp2
    go_ret
    exact ⟨by rw [fau, if_pos hl]; rfl, rfl⟩
  · have g1 : decide ((16 : Int) < (zs.length : Int)) = false := by simp; omega
    go_wp2
    go_loopw [3] (fun v wr => ∃ k : Nat, v = .int .i64 k ∧ k ≤ zs.length ∧ Hid (∀ x ∈ zs.take k, okZ x = true) ∧ w = wr) (fun v _ => zs.length - (intOf v).toNat)
    case atStart => exact ⟨0, rfl, Nat.zero_le _, Lib.hid (by simp), rfl⟩
    case round =>
      obtain ⟨k, rfl, hk, hG, rfl⟩ := hrel
      by_cases hlt : k < zs.length
      · have g1 : decide ((k : Int) < (zs.length : Int)) = true := by simp [hlt]
        obtain ⟨a, rfl, cu⟩ := hq k hlt
        have W1 : IntKind.i64.wrap ((k : Int) + 1) = ((k + 1 : Nat) : Int) := by rw [IntWalk.i64_in _ (by omega)]; omega
        have q1 : (0 : Int) ≤ (k : Int) := by omega
        have q2 : (k : Int) < (zs.length : Int) := by omega
        obtain ⟨z, hz⟩ : ∃ z, z = zs[k] := ⟨_, rfl⟩
        rw [← hz] at cu
        have HZ := Lib.hid hz
        clear hz
        by_cases h1 : z < -1125899906842624
        · have g2 : decide (z < -1125899906842624) = true := by simp [h1]
          go_wp2
          go_ret
          have : okZ z = false := by unfold okZ; simp; omega
          have e : allZ zs = false := List.all_eq_false.2 ⟨_, List.getElem_mem hlt, by rw [← HZ.out, this]; simp⟩
          exact ⟨by rw [fau, if_neg hl, e]; rfl, rfl⟩
        · have g2 : decide (z < -1125899906842624) = false := by simp; omega
          by_cases h2 : 1125899906842624 < z
          · have g3 : decide (1125899906842624 < z) = true := by simp [h2]
            go_wp2
            go_ret
            have : okZ z = false := by unfold okZ; simp; omega
            have e : allZ zs = false := List.all_eq_false.2 ⟨_, List.getElem_mem hlt, by rw [← HZ.out, this]; simp⟩
            exact ⟨by rw [fau, if_neg hl, e]; rfl, rfl⟩
          · have g3 : decide (1125899906842624 < z) = false := by simp; omega
            have hv : okZ z = true := by unfold okZ; simp; omega
            go_wp2
            refine ⟨⟨k + 1, rfl, hlt, Lib.hid ?_, trivial⟩, by simp [intOf]; omega⟩
            intro x hx'
            rw [List.take_succ_eq_append_getElem hlt, List.mem_append] at hx'
            rcases hx' with hx' | hx'
            · exact hG.out x hx'
            · rw [List.mem_singleton.1 hx', ← HZ.out]; exact hv
      · have g1 : decide ((k : Int) < (zs.length : Int)) = false := by simp; omega
        go_wp2
        go_ret
        have := hG.out
        rw [List.take_of_length_le (by omega)] at this
        have e : allZ zs = true := List.all_eq_true.2 this
        exact ⟨by rw [fau, if_neg hl, e]; rfl, rfl⟩
end Go.Proofs.YtepcokgpepcccaaDoor
