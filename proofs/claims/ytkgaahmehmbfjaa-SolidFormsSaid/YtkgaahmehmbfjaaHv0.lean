/- Halves of a box (pure). -/
import Derived.Test.YtkgaahmehmbfjaaTb
import Derived.Test.YtkgaahmehmbfjaaTc
import Derived.Test.YtkgaahmehmbfjaaZ6
namespace Go.Proofs.Ytkgaahmehmbfjaa
open Go.ChangeShapes Go.WideShapes Go.ChangeAt Go.RowKit
set_option linter.unusedVariables false
set_option linter.unusedSimpArgs false

theorem gap_neg (x y : Bx) : gapB x y < 0 ↔ (x.a < y.d ∧ y.a < x.d) ∧ (x.b < y.e ∧ y.b < x.e) ∧ (x.c < y.f ∧ y.c < x.f) := by
  have h : ∀ a b c : Int, mx (mx a b) c < 0 ↔ a < 0 ∧ b < 0 ∧ c < 0 := fun a b c => by unfold mx; split <;> split <;> omega
  have h2 : ∀ a b : Int, mx a b < 0 ↔ a < 0 ∧ b < 0 := fun a b => by unfold mx; split <;> omega
  unfold gapB
  rw [h]
  simp only [gp, gapS, Bx.side, h2]
  omega
/-- A half of a box along an axis, up to a place, and from it on. -/
def lfB (k : Nat) (b : Bx) (p : Int) : Bx := match k with
  | 0 => ⟨b.a, b.b, b.c, p, b.e, b.f⟩
  | 1 => ⟨b.a, b.b, b.c, b.d, p, b.f⟩
  | _ => ⟨b.a, b.b, b.c, b.d, b.e, p⟩
def rtB (k : Nat) (b : Bx) (p : Int) : Bx := match k with
  | 0 => ⟨p, b.b, b.c, b.d, b.e, b.f⟩
  | 1 => ⟨b.a, p, b.c, b.d, b.e, b.f⟩
  | _ => ⟨b.a, b.b, p, b.d, b.e, b.f⟩
theorem hv_ok {k : Nat} {b : Bx} {p : Int} (hb : b.ok = true) (hp : pk b.a b.b b.c k ≤ p ∧ p ≤ pk b.d b.e b.f k) : (lfB k b p).ok = true ∧ (rtB k b p).ok = true := by
  rw [Bx.ok_i] at *
  rw [Bx.ok_i]
  rcases k with _ | _ | k <;> simp only [lfB, rtB, pk] at * <;> omega
theorem in_halves {l h : List Bx} (hs : okS l h = true) {k : Nat} {b : Bx} {p : Int} (hb : b.ok = true) (hp : pk b.a b.b b.c k ≤ p ∧ p ≤ pk b.d b.e b.f k) : inS l h b = (inS l h (lfB k b p) && inS l h (rtB k b p)) := by
  obtain ⟨h1, h2⟩ := hv_ok hb hp
  obtain ⟨-, -, -, hht⟩ := okS_i.1 hs
  have hc : covB l b = (covB l (lfB k b p) && covB l (rtB k b p)) := by
    rw [Bool.eq_iff_iff, Bool.and_eq_true, covB_iff l b hb, covB_iff l _ h1, covB_iff l _ h2]
    constructor
    · intro q
      refine ⟨fun s t u hi => q s t u ?_, fun s t u hi => q s t u ?_⟩
      all_goals (rcases k with _ | _ | k <;> simp only [In3, lfB, rtB, pk] at hi hp ⊢ <;> omega)
    · rintro ⟨q1, q2⟩ s t u hi
      by_cases c : pk s t u k ≤ 2 * p
      · exact q1 s t u (by rcases k with _ | _ | k <;> simp only [In3, lfB, pk] at hi hp c ⊢ <;> omega)
      · exact q2 s t u (by rcases k with _ | _ | k <;> simp only [In3, rtB, pk] at hi hp c ⊢ <;> omega)
  have hg : (h.all fun x => decide (0 ≤ gapB x b)) = ((h.all fun x => decide (0 ≤ gapB x (lfB k b p))) && (h.all fun x => decide (0 ≤ gapB x (rtB k b p)))) := by
    rw [Bool.eq_iff_iff, Bool.and_eq_true, List.all_eq_true, List.all_eq_true, List.all_eq_true]
    simp only [decide_eq_true_eq]
    have one : ∀ x ∈ h, 0 ≤ gapB x b ↔ 0 ≤ gapB x (lfB k b p) ∧ 0 ≤ gapB x (rtB k b p) := fun x hx => by
      have ht := tk_i.1 (hht x hx)
      have a1 := gap_neg x b
      have a2 := gap_neg x (lfB k b p)
      have a3 := gap_neg x (rtB k b p)
      rcases k with _ | _ | k <;> simp only [lfB, rtB, pk] at * <;> omega
    exact ⟨fun q => ⟨fun x hx => ((one x hx).1 (q x hx)).1, fun x hx => ((one x hx).1 (q x hx)).2⟩, fun q x hx => (one x hx).2 ⟨q.1 x hx, q.2 x hx⟩⟩
  unfold inS
  rw [hc, hg]
  cases (h.all fun x => decide (0 ≤ gapB x (lfB k b p))) <;> cases (h.all fun x => decide (0 ≤ gapB x (rtB k b p))) <;> cases covB l (lfB k b p) <;> cases covB l (rtB k b p) <;> rfl
theorem in_point {l h : List Bx} {b : Bx} {x y z : Int} (hb : b.ok = true) (hx : b.a ≤ x ∧ x ≤ b.d) (hy : b.b ≤ y ∧ y ≤ b.e) (hz : b.c ≤ z ∧ z ≤ b.f) (hi : inS l h b = true) : inS l h (ptX x y z) = true := by
  have hk := Bx.ok_i.1 hb
  have hp : (ptX x y z).ok = true := by rw [Bx.ok_i]; simp only [ptX]; omega
  unfold inS at *
  rw [Bool.and_eq_true] at *
  refine ⟨List.all_eq_true.2 fun q hq => ?_, ?_⟩
  · have h1 := List.all_eq_true.1 hi.1 q hq
    simp only [decide_eq_true_eq] at h1 ⊢
    have a1 := gap_neg q b
    have a2 := gap_neg q (ptX x y z)
    simp only [ptX] at a2
    have e : gapB q (ptX x y z) = gapB q ⟨x, y, z, x, y, z⟩ := rfl
    omega
  · have h2 := hi.2
    rw [covB_iff l b hb] at h2
    rw [covB_iff l _ hp]
    intro s t u hs
    exact h2 s t u (by simp only [In3, ptX] at hs ⊢; omega)
end Go.Proofs.Ytkgaahmehmbfjaa
