/- StepsForms: the walk. -/
import Derived.Test.YtbohcedclnbcdaaV12
namespace Go.Proofs.Ytbohcedclnbcdaa
open Go.ChangeShapes Go.WideShapes Go.ChangeAt Go.RowKit
set_option linter.unusedVariables false
set_option linter.unusedSimpArgs false

theorem eq_same (p q : Option Addr) (l : List Stp) (c d : Nat) (w : World) (h1 : Sl w p l) (h2 : Sl w q l) :
    Calls Try.prog 18 #[.slice p l.length c, .slice q l.length d] w fun e w' => e = .returned (.bool true) ∧ Below w.heap.size w w' := by
  refine (equal_any p q l l c d w h1 h2).mono ?_
  rintro e w' ⟨rfl, n, rfl⟩
  exact ⟨by simp, below_drewN (Below.refl _ _) _⟩
theorem i64_sht {l : List Stp} (h : OkS l) : ∀ x ∈ sht l, I64 x.1 ∧ I64 x.2 := fun x hx => h.i64 x (shF_sub.subset hx)
theorem len_sht {l : List Stp} (h : l.length ≤ 1000) : (sht l).length ≤ maxLen := Nat.le_trans shF_sub.length_le (by unfold maxLen; omega)
theorem short_ok (p : Option Addr) (l : List Stp) (c : Nat) (w : World) (hS : Sl w p l) (h : okS l = true) :
    Calls Try.prog 14 #[.slice p l.length c] w fun e w' => ∃ p' c', e = .returned (.tuple #[.slice p' (sht l).length c', .int .i64 0]) ∧ Sl w' p' (sht l) ∧ Below w.heap.size w w' := by
  refine (short_any p l c w hS).mono ?_
  rintro e w' ⟨v, rfl, ho, hb⟩
  have e : sc l = (sht l, 0) := by unfold sc; rw [h]; rfl
  rw [e] at ho ⊢
  obtain ⟨p', c', rfl, hs, -⟩ := ho.sl (len_sht (by have := (okS_to h).len; omega)) (i64_sht (okS_to h))
  exact ⟨p', c', rfl, hs, hb⟩
theorem short_no (p : Option Addr) (l : List Stp) (c : Nat) (w : World) (hS : Sl w p l) (h : okS l = false) :
    Calls Try.prog 14 #[.slice p l.length c] w fun e w' => ∃ p' c', e = .returned (.tuple #[.slice p' 0 c', .int .i64 1]) ∧ Below w.heap.size w w' := by
  refine (short_any p l c w hS).mono ?_
  rintro e w' ⟨v, rfl, ho, hb⟩
  have e : sc l = ([], 1) := by unfold sc; rw [h]; rfl
  rw [e] at ho ⊢
  obtain ⟨p', c', rfl⟩ := ho.form
  exact ⟨p', c', rfl, hb⟩
theorem rshort_ok (p : Option Addr) (l : List Stp) (c : Nat) (w : World) (hS : Sl w p l) (h : OkS l) :
    Calls Try.prog 19 #[.slice p l.length c] w fun e w' => ∃ p' c', e = .returned (.slice p' (sht l).length c') ∧ Sl w' p' (sht l) ∧ Below w.heap.size w w' := by
  have hl := h.len
  refine (rshort_any p l c w hS (by omega)).mono ?_
  rintro e w' ⟨v, rfl, ho, hb⟩
  obtain ⟨p', c', rfl, hs, -⟩ := ho.sl (len_sht (by omega)) (i64_sht h)
  exact ⟨p', c', rfl, hs, hb⟩
theorem few1 (w : World) (p : Option Addr) (n c : Nat) :
    Calls Try.prog 12 #[.slice (some ⟨w.heap.size, 0, none⟩) 1 1] (w.alloc (.cells #[.slice p n c] 22)) fun e w' => e = .returned (.bool (!decide (250 < n))) ∧ w' = w.alloc (.cells #[.slice p n c] 22) := by
  have h := few_any ⟨w.heap.size, 0, none⟩ [(p, n, c)] 1 (w.alloc (.cells #[.slice p n c] 22)) (fun i hi => by
    have hz : i = 0 := by simpa using hi
    subst hz
    exact (Has.new_ w 22 #[.slice p n c]).read 0) (by simp)
  simpa using h
theorem few2 (w : World) (p q : Option Addr) (n c m d : Nat) :
    Calls Try.prog 12 #[.slice (some ⟨w.heap.size, 0, none⟩) 2 2] (w.alloc (.cells #[.slice p n c, .slice q m d] 22)) fun e w' => e = .returned (.bool (!(decide (250 < n) || decide (250 < m)))) ∧ w' = w.alloc (.cells #[.slice p n c, .slice q m d] 22) := by
  have hr := Has.new_ w 22 #[.slice p n c, .slice q m d]
  have h := few_any ⟨w.heap.size, 0, none⟩ [(p, n, c), (q, m, d)] 2 (w.alloc (.cells #[.slice p n c, .slice q m d] 22)) (fun i hi => by
    have hz : i = 0 ∨ i = 1 := by simp at hi; omega
    rcases hz with rfl | rfl
    · exact hr.read 0
    · rw [Addr.add_lit]; exact hr.read 1) (by simp)
  simpa using h
theorem at_ok (p : Option Addr) (l : List Stp) (cap : Nat) (x : Int) (w : World) (hS : Sl w p l) (h : okS l = true) :
    Calls Try.prog 13 #[.slice p l.length cap, .int .i64 x] w fun e w' => e = .returned (.tuple #[.int .i64 (va l x), .int .i64 0]) ∧ Below w.heap.size w w' := by
  have k := at_any p l cap x w hS
  rw [h] at k
  exact k
theorem at_no (p : Option Addr) (l : List Stp) (cap : Nat) (x : Int) (w : World) (hS : Sl w p l) (h : okS l = false) :
    Calls Try.prog 13 #[.slice p l.length cap, .int .i64 x] w fun e w' => e = .returned (.tuple #[.int .i64 0, .int .i64 1]) ∧ Below w.heap.size w w' := by
  have k := at_any p l cap x w hS
  rw [h] at k
  exact k
set_option maxHeartbeats 2000000 in
set_option maxRecDepth 100000 in
theorem forms_walk (p : Option Addr) (l : List Stp) (cap : Nat) (x : Int) (w : World) (hS : Sl w p l) (hx : I64 x) :
    Calls Try.prog 3 #[.slice p l.length cap, .int .i64 x] w fun e w' => e = .returned (.bool true) ∧ Below w.heap.size w w' := by
  have ha := fun W => awake_any W
  have hf := fun W => few1 W p l.length cap
  by_cases hl : 250 < l.length
  · rw [decide_eq_true hl, Bool.not_true] at hf
    clear hl
    go_enter Try.func3, Try.ntmps3
    go_wp2_with (first
      | (go_at_call 11; (with_reducible refine (ha _).mono ?_); rintro e w1 ⟨rfl, hb⟩)
      | (go_at_call 12; (with_reducible refine (hf _).mono ?_); rintro e w2 ⟨rfl, hw⟩; obtain rfl := hw.symm; clear hw))
    go_ret
    exact ⟨rfl, al hb _⟩
  · rw [decide_eq_false hl, Bool.not_false] at hf
    clear hl
    cases hO : okS l
    · have h1 := fun W h => at_no p l cap x W h hO
      have h2 := fun W h => short_no p l cap W h hO
      have h3 := fun W h => rvalid_any p l cap W h
      have h4 := fun W h => valid_any p l cap W h
      rw [hO] at h3 h4
      clear hO
      go_enter Try.func3, Try.ntmps3
      go_wp2_with (first
        | (go_at_call 11; (with_reducible refine (ha _).mono ?_); rintro e w1 ⟨rfl, hb⟩; have B := al hb (.cells #[.slice p l.length cap] 22); clear hb)
        | (go_at_call 12; (with_reducible refine (hf _).mono ?_); rintro e w2 ⟨rfl, hw⟩; obtain rfl := hw.symm; clear hw)
        | (go_at_call 13; (with_reducible refine (h1 _ (hS.on B)).mono ?_); rintro e w3 ⟨rfl, hb⟩; replace B := belows B hb; clear hb)
        | (go_at_call 14; (with_reducible refine (h2 _ (hS.on B)).mono ?_); rintro e w4 ⟨p4, c4, rfl, hb⟩; replace B := belows B hb; clear hb)
        | (go_at_call 15; (with_reducible refine (h3 _ (hS.on B)).mono ?_); rintro e w5 ⟨rfl, hb⟩; replace B := belows B hb; clear hb)
        | (go_at_call 16; (with_reducible refine (h4 _ (hS.on B)).mono ?_); rintro e w6 ⟨rfl, hb⟩; replace B := belows B hb; clear hb))
      go_ret
      exact ⟨rfl, B⟩
    · have h1 := fun W h => at_ok p l cap x W h hO
      have h2 := fun W h => short_ok p l cap W h hO
      have h3 := fun W h => rvalid_any p l cap W h
      have h4 := fun W h => valid_any p l cap W h
      rw [hO] at h3 h4
      have h5 := fun W h => rat_any p l cap x W h
      have h6 := fun W h => rshort_ok p l cap W h (okS_to hO)
      have h7 := fun p4 c4 p8 c8 W h h' => eq_same p4 p8 (sht l) c4 c8 W h h'
      generalize va l x = v at *
      generalize sht l = L at *
      clear hO
      go_enter Try.func3, Try.ntmps3
      go_wp2_with (first
        | (go_at_call 11; (with_reducible refine (ha _).mono ?_); rintro e w1 ⟨rfl, hb⟩; have B := al hb (.cells #[.slice p l.length cap] 22); clear hb)
        | (go_at_call 12; (with_reducible refine (hf _).mono ?_); rintro e w2 ⟨rfl, hw⟩; obtain rfl := hw.symm; clear hw)
        | (go_at_call 13; (with_reducible refine (h1 _ (hS.on B)).mono ?_); rintro e w3 ⟨rfl, hb⟩; replace B := belows B hb; clear hb)
        | (go_at_call 14; (with_reducible refine (h2 _ (hS.on B)).mono ?_); rintro e w4 ⟨p4, c4, rfl, hS4, hb⟩; replace B := belows B hb; clear hb)
        | (go_at_call 15; (with_reducible refine (h3 _ (hS.on B)).mono ?_); rintro e w5 ⟨rfl, hb⟩; replace B := belows B hb; replace hS4 := hS4.on hb; clear hb)
        | (go_at_call 16; (with_reducible refine (h4 _ (hS.on B)).mono ?_); rintro e w6 ⟨rfl, hb⟩; replace B := belows B hb; replace hS4 := hS4.on hb; clear hb)
        | (go_at_call 17; (with_reducible refine (h5 _ (hS.on B)).mono ?_); rintro e w7 ⟨rfl, hw⟩; obtain rfl := hw.symm; clear hw)
        | (go_at_call 19; (with_reducible refine (h6 _ (hS.on B)).mono ?_); rintro e w8 ⟨p8, c8, rfl, hS8, hb⟩; replace B := belows B hb; replace hS4 := hS4.on hb; clear hb)
        | (go_at_call 18; (with_reducible refine (h7 p4 c4 p8 c8 _ hS4 hS8).mono ?_); rintro e w9 ⟨rfl, hb⟩; replace B := belows B hb; clear hb))
      go_ret
      exact ⟨by simp, B⟩
end Go.Proofs.Ytbohcedclnbcdaa
