/- many; the reference's All. -/
import Derived.Test.YtffigpkkdljaiaaRf
namespace Go.Proofs.Ytffigpkkdljaiaa
open Go.ChangeShapes Go.WideShapes Go.ChangeAt Go.RowKit
set_option linter.unusedVariables false
set_option linter.unusedSimpArgs false

def manyB (n : Nat) : Bool := decide (8 < n ∧ n ≤ 40 ∨ 45 < n)
set_option maxRecDepth 100000 in
theorem many_any (p : Option Addr) (n cap : Nat) (w : World) : Calls Try.prog 26 #[.slice p n cap] w fun e w' => e = .returned (.bool (manyB n)) ∧ Below w.heap.size w w' := by
  by_cases h1 : 8 < n
  · by_cases h2 : n ≤ 40
    · have e : manyB n = true := by simp [manyB]; omega
      rw [e]
      have g1 : decide ((8 : Int) < (n : Int)) = true := by simp; omega
      have g2 : decide ((n : Int) ≤ 40) = true := by simp; omega
      go_enter Try.func26, Try.ntmps26
      go_wp2
      go_ret
      exact ⟨rfl, Below.refl _ _⟩
    · by_cases h3 : 45 < n
      · have e : manyB n = true := by simp [manyB]; omega
        rw [e]
        have g1 : decide ((8 : Int) < (n : Int)) = true := by simp; omega
        have g2 : decide ((n : Int) ≤ 40) = false := by simp; omega
        have g3 : decide ((45 : Int) < (n : Int)) = true := by simp; omega
        go_enter Try.func26, Try.ntmps26
        go_wp2
        go_ret
        exact ⟨rfl, Below.refl _ _⟩
      · have e : manyB n = false := by simp [manyB]; omega
        rw [e]
        have g1 : decide ((8 : Int) < (n : Int)) = true := by simp; omega
        have g2 : decide ((n : Int) ≤ 40) = false := by simp; omega
        have g3 : decide ((45 : Int) < (n : Int)) = false := by simp; omega
        go_enter Try.func26, Try.ntmps26
        go_wp2
        go_ret
        exact ⟨rfl, Below.refl _ _⟩
  · have e : manyB n = false := by simp [manyB]; omega
    rw [e]
    have g1 : decide ((8 : Int) < (n : Int)) = false := by simp; omega
    have g3 : decide ((45 : Int) < (n : Int)) = false := by simp; omega
    go_enter Try.func26, Try.ntmps26
    go_wp2
    go_ret
    exact ⟨rfl, Below.refl _ _⟩
set_option maxRecDepth 100000 in
theorem rall_any (p : Option Addr) (l : List Bx) (cap : Nat) (w : World) (hS : Sl w p l) :
    Calls Try.prog 27 #[.slice p l.length cap] w fun e w' => e = .returned (.bool (l.all Bx.ok)) ∧ Below w.heap.size w w' := by
  have hm := hS.2.2
  unfold maxLen at hm
  obtain ⟨RES, hRES⟩ : ∃ R, R = l.all Bx.ok := ⟨_, rfl⟩
  rw [← hRES]
  have HR := Lib.hid hRES
  clear hRES
  go_enter Try.func27, Try.ntmps27
  go_wp2
  go_loopw [3] (fun v wr => ∃ k : Nat, v = .int .i64 k ∧ k ≤ l.length ∧ Hid (∀ x ∈ l.take k, x.ok = true) ∧ Below w.heap.size w wr) (fun v _ => l.length - (intOf v).toNat)
  case atStart => exact ⟨0, rfl, Nat.zero_le _, Lib.hid (by simp), Below.refl _ _⟩
  case round =>
    obtain ⟨k, rfl, hk, hG, hB⟩ := hrel
    by_cases hlt : k < l.length
    · have g1 : decide ((k : Int) < (l.length : Int)) = true := by simp [hlt]
      obtain ⟨a, rfl, c0, c1, c2, c3, c4, c5⟩ := (hS.on hB).at hlt
      have W1 : IntKind.i64.wrap ((k : Int) + 1) = ((k + 1 : Nat) : Int) := by rw [IntWalk.i64_in _ (by omega)]; omega
      have hb := fun w => rvalid_any l[k] w
      unfold Bx.val at hb
      cases hv : l[k].ok
      · have e : RES = false := by rw [HR.out]; exact List.all_eq_false.2 ⟨_, List.getElem_mem hlt, by simp [hv]⟩
        subst e
        simp only [hv] at hb
        go_wp2_with (go_at_call 14; (with_reducible refine (hb _).mono ?_); rintro e1 w1 ⟨rfl, hb1⟩)
        go_ret
        exact ⟨rfl, belows hB hb1⟩
      · simp only [hv] at hb
        go_wp2_with (go_at_call 14; (with_reducible refine (hb _).mono ?_); rintro e1 w1 ⟨rfl, hb1⟩)
        exact ⟨⟨k + 1, rfl, hlt, Lib.hid (all_drop hlt hG.out hv), belows hB hb1⟩, by simp [intOf]; omega⟩
    · have g1 : decide ((k : Int) < (l.length : Int)) = false := by simp; omega
      have := hG.out
      rw [List.take_of_length_le (by omega)] at this
      have e : RES = true := by rw [HR.out]; exact List.all_eq_true.2 this
      subst e
      go_wp2
      go_ret
      exact ⟨rfl, hB⟩
end Go.Proofs.Ytffigpkkdljaiaa
