/- The example; awake; few. -/
import Derived.Test.YtbohcedclnbcdaaV8
namespace Go.Proofs.Ytbohcedclnbcdaa
open Go.ChangeShapes Go.WideShapes Go.ChangeAt Go.RowKit
set_option linter.unusedVariables false
set_option linter.unusedSimpArgs false

theorem Has.sl {w : World} {g : Nat} {l : List Stp} (h : Has w g 34 (cells l).toArray) (hm : l.length ≤ maxLen) (h6 : ∀ x ∈ l, I64 x.1 ∧ I64 x.2) : Sl w (some ⟨g, 0, none⟩) l :=
  ⟨fun e => (by cases e), fun a ha i hi => (by
    cases ha
    have hc := cells_at l hi
    rw [Addr.add_lit]
    simp only [Nat.zero_add]
    refine ⟨?_, ?_⟩
    · rw [h.read (i * 2)]; simpa using hc.1
    · rw [h.read (i * 2 + 1)]; simpa using hc.2), hm, h6⟩
def xa : List Stp := [(0, 5), (10, 0)]
def xb : List Stp := [(4, 2), (12, 0)]
def xs4 : List Stp := [(0, 5), (4, 7), (10, 2), (12, 0)]
def xs2 : List Stp := [(4, 2), (10, 0)]
instance (n : Int) : Decidable (I64 n) := by unfold I64; infer_instance
theorem r_add : rs o45 xa xb = (xs4, 0) := by decide +kernel
theorem r_least : rs o46 xa xb = (xs2, 0) := by decide +kernel
theorem r_below : belR xa xb (-3) 20 = (10, 0) := by decide +kernel
theorem r_sum : sumV xa (-3) 20 = 50 ∧ sumC xa (-3) 20 = 0 := by decide +kernel
theorem ex_add (p q : Option Addr) (c d : Nat) (w : World) (hA : Sl w p xa) (hB : Sl w q xb) :
    Calls Try.prog 20 #[.slice p 2 c, .slice q 2 d] w fun e w' => ∃ p' c', e = .returned (.tuple #[.slice p' 4 c', .int .i64 0]) ∧ Sl w' p' xs4 ∧ Below w.heap.size w w' := by
  refine (add_any p q xa xb c d w hA hB).mono ?_
  rintro e w' ⟨v, rfl, ho, hb⟩
  rw [r_add] at ho ⊢
  obtain ⟨p', c', rfl, hs, -⟩ := ho.sl (by decide) (by decide)
  exact ⟨p', c', rfl, hs, hb⟩
theorem ex_least (p q : Option Addr) (c d : Nat) (w : World) (hA : Sl w p xa) (hB : Sl w q xb) :
    Calls Try.prog 21 #[.slice p 2 c, .slice q 2 d] w fun e w' => ∃ p' c', e = .returned (.tuple #[.slice p' 2 c', .int .i64 0]) ∧ Sl w' p' xs2 ∧ Below w.heap.size w w' := by
  refine (least_any p q xa xb c d w hA hB).mono ?_
  rintro e w' ⟨v, rfl, ho, hb⟩
  rw [r_least] at ho ⊢
  obtain ⟨p', c', rfl, hs, -⟩ := ho.sl (by decide) (by decide)
  exact ⟨p', c', rfl, hs, hb⟩
theorem ex_below (p q : Option Addr) (c d : Nat) (w : World) (hA : Sl w p xa) (hB : Sl w q xb) :
    Calls Try.prog 24 #[.slice p 2 c, .slice q 2 d, .int .i64 (-3), .int .i64 20] w fun e w' => e = .returned (.tuple #[.int .i64 10, .int .i64 0]) ∧ Below w.heap.size w w' := by
  have h := below_any p q xa xb c d (-3) 20 w hA hB
  rw [r_below] at h
  exact h
theorem ex_sum (p : Option Addr) (c : Nat) (w : World) (hA : Sl w p xa) :
    Calls Try.prog 25 #[.slice p 2 c, .int .i64 (-3), .int .i64 20] w fun e w' => e = .returned (.tuple #[.int .i64 50, .int .i64 0]) ∧ Below w.heap.size w w' := by
  have h := sum_any p xa c (-3) 20 w hA
  rw [r_sum.1, r_sum.2] at h
  exact h
theorem ex_eq4 (p q : Option Addr) (c d : Nat) (w : World) (hA : Sl w p xs4) (hB : Sl w q xs4) :
    Calls Try.prog 18 #[.slice p 4 c, .slice q 4 d] w fun e w' => e = .returned (.bool true) ∧ Below w.heap.size w w' := by
  refine (equal_any p q xs4 xs4 c d w hA hB).mono ?_
  rintro e w' ⟨rfl, n, rfl⟩
  exact ⟨by simp, below_drewN (Below.refl _ _) _⟩
theorem ex_eq2 (p q : Option Addr) (c d : Nat) (w : World) (hA : Sl w p xs2) (hB : Sl w q xs2) :
    Calls Try.prog 18 #[.slice p 2 c, .slice q 2 d] w fun e w' => e = .returned (.bool true) ∧ Below w.heap.size w w' := by
  refine (equal_any p q xs2 xs2 c d w hA hB).mono ?_
  rintro e w' ⟨rfl, n, rfl⟩
  exact ⟨by simp, below_drewN (Below.refl _ _) _⟩
set_option maxRecDepth 100000 in
theorem example_any (w : World) :
    Calls Try.prog 36 #[] w fun e w' => ∃ p q, e = .returned (.tuple #[.slice p 2 2, .slice q 2 2]) ∧ Sl w' p xa ∧ Sl w' q xb ∧ Below w.heap.size w w' := by
  go_enter Try.func36, Try.ntmps36
  go_wp2
  have H1 := Has.new_ w 34 #[.int .i64 0, .int .i64 5, .int .i64 10, .int .i64 0]
  have H2 := Has.new_ (w.alloc (.cells #[.int .i64 0, .int .i64 5, .int .i64 10, .int .i64 0] 34)) 34 #[.int .i64 4, .int .i64 2, .int .i64 12, .int .i64 0]
  rw [World.size_alloc] at H2
  replace H1 := H1.on (al1 _ (.cells #[.int .i64 4, .int .i64 2, .int .i64 12, .int .i64 0] 34))
  have S1 : Sl _ _ xa := Has.sl (l := xa) H1 (by decide) (by decide)
  have S2 : Sl _ _ xb := Has.sl (l := xb) H2 (by decide) (by decide)
  exact bodyPost_ret (v := .tuple #[.slice (some ⟨w.heap.size, 0, none⟩) 2 2, .slice (some ⟨w.heap.size + 1, 0, none⟩) 2 2]) (by simp [results, Try.results36, go_sem]) rfl ⟨_, _, rfl, S1, S2, al (al1 _ _) _⟩
set_option maxHeartbeats 2000000 in
set_option maxRecDepth 100000 in
theorem awake_any (w : World) : Calls Try.prog 11 #[] w fun e w' => e = .returned (.bool true) ∧ Below w.heap.size w w' := by
  go_enter Try.func11, Try.ntmps11
  go_wp2_with (first
    | (go_at_call 36; (with_reducible refine (example_any _).mono ?_); rintro e w1 ⟨p, q, rfl, hA, hB, hb⟩)
    | (go_at_call 20; (with_reducible refine (ex_add p q 2 2 _ hA hB).mono ?_); rintro e w2 ⟨p4, c4, rfl, hS4, hb2⟩; replace hA := hA.on hb2; replace hB := hB.on hb2; replace hb := belows hb hb2; clear hb2)
    | (go_at_call 21; (with_reducible refine (ex_least p q 2 2 _ hA hB).mono ?_); rintro e w3 ⟨p2, c2, rfl, hS2, hb2⟩; replace hA := hA.on hb2; replace hB := hB.on hb2; replace hb := belows hb hb2; replace hS4 := hS4.on hb2; clear hb2)
    | (go_at_call 24; (with_reducible refine (ex_below p q 2 2 _ hA hB).mono ?_); rintro e w4 ⟨rfl, hb2⟩; replace hA := hA.on hb2; replace hb := belows hb hb2; replace hS4 := hS4.on hb2; replace hS2 := hS2.on hb2; clear hb2 hB)
    | (go_at_call 25; (with_reducible refine (ex_sum p 2 _ hA).mono ?_); rintro e w5 ⟨rfl, hb2⟩; replace hb := belows hb hb2; replace hS4 := hS4.on hb2; replace hS2 := hS2.on hb2; clear hb2 hA; have h4 := fun W h h' => ex_eq4 p4 (some ⟨w5.heap.size, 0, none⟩) c4 4 W h h'; have H4 := Has.new_ w5 34 #[.int .i64 0, .int .i64 5, .int .i64 4, .int .i64 7, .int .i64 10, .int .i64 2, .int .i64 12, .int .i64 0])
    | (go_at_call 18; (with_reducible refine (h4 _ (hS4.on (al1 _ _)) (Has.sl (l := xs4) H4 (by decide) (by decide))).mono ?_); rintro e w6 ⟨rfl, hb2⟩; replace hb := belows (al hb _) hb2; replace hS2 := (hS2.on (al1 _ _)).on hb2; clear hb2 h4 H4; have h2 := fun W h h' => ex_eq2 p2 (some ⟨w6.heap.size, 0, none⟩) c2 2 W h h'; have H2 := Has.new_ w6 34 #[.int .i64 4, .int .i64 2, .int .i64 10, .int .i64 0])
    | (go_at_call 18; (with_reducible refine (h2 _ (hS2.on (al1 _ _)) (Has.sl (l := xs2) H2 (by decide) (by decide))).mono ?_); rintro e w7 ⟨rfl, hb2⟩; replace hb := belows (al hb _) hb2; clear hb2 h2 H2))
  go_ret
  exact ⟨rfl, hb⟩
end Go.Proofs.Ytbohcedclnbcdaa
