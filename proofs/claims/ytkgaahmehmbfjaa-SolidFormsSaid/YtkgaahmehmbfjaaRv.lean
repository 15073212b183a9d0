/- The reference's thick, Valid; right, small. -/
import Derived.Test.YtkgaahmehmbfjaaTa
import Derived.Test.YtkgaahmehmbfjaaZ7
namespace Go.Proofs.Ytkgaahmehmbfjaa
open Go.ChangeShapes Go.WideShapes Go.ChangeAt Go.RowKit
set_option linter.unusedVariables false
set_option linter.unusedSimpArgs false

set_option maxHeartbeats 8000000 in
set_option maxRecDepth 100000 in
theorem thick_any (x : Bx) (w : World) : Calls Try.prog 50 #[x.val] w fun e w' => e = .returned (.bool (tkB x)) ∧ Below w.heap.size w w' := by
  have h : ∀ W, Calls Try.prog 19 #[x.val] W fun e w' => e = .returned (.bool x.ok) ∧ Below W.heap.size W w' := fun W => rvalid_any x W
  have E := (Env.nil w).add w.heap.size 30 #[.int .i64 x.a, .int .i64 x.b, .int .i64 x.c, .int .i64 x.d, .int .i64 x.e, .int .i64 x.f] rfl
  have C := E.cells
  simp [BC, CF] at C
  cases hv : x.ok
  · rw [hv] at h
    rw [show tkB x = false by unfold tkB thB; rw [hv]; rfl]
    unfold Bx.val at *
    go_enter Try.func50, Try.ntmps50
    go_wp2_with (first
      | (go_at_call 19; (with_reducible refine (h _).mono ?_); rintro X wq ⟨rfl, hb⟩; replace E := E.on hb; replace C := E.cells; simp [BC, CF] at C; clear hb))
    go_ret
    exact ⟨rfl, E.1⟩
  rw [hv] at h
  have hk : (-1048576 ≤ x.a ∧ x.d ≤ 1048576) ∧ (-1048576 ≤ x.b ∧ x.e ≤ 1048576) ∧ (-1048576 ≤ x.c ∧ x.f ≤ 1048576) := by
    unfold Bx.ok vB sdV at hv
    simp only [Bool.and_eq_true, decide_eq_true_eq] at hv
    omega
  unfold Bx.val at *
  by_cases e1 : x.a < x.d
  · have g1 : decide (x.a < x.d) = true := by simp [e1]
    by_cases e2 : x.b < x.e
    · have g2 : decide (x.b < x.e) = true := by simp [e2]
      by_cases e3 : x.c < x.f
      · have g3 : decide (x.c < x.f) = true := by simp [e3]
        rw [show tkB x = true from tk_i.2 (by omega)]
        clear e1 e2 e3 hk
        go_enter Try.func50, Try.ntmps50
        go_wp2_with (first
          | (go_at_call 19; (with_reducible refine (h _).mono ?_); rintro X wq ⟨rfl, hb⟩; replace E := E.on hb; replace C := E.cells; simp [BC, CF] at C; clear hb))
        go_ret
        exact ⟨rfl, E.1⟩
      · have g3 : decide (x.c < x.f) = false := by simp; omega
        rw [show tkB x = false from Bool.eq_false_iff.2 fun t => e3 (tk_i.1 t).2.2.2.1]
        clear e1 e2 e3 hk
        go_enter Try.func50, Try.ntmps50
        go_wp2_with (first
          | (go_at_call 19; (with_reducible refine (h _).mono ?_); rintro X wq ⟨rfl, hb⟩; replace E := E.on hb; replace C := E.cells; simp [BC, CF] at C; clear hb))
        go_ret
        exact ⟨rfl, E.1⟩
    · have g2 : decide (x.b < x.e) = false := by simp; omega
      rw [show tkB x = false from Bool.eq_false_iff.2 fun t => e2 (tk_i.1 t).2.1.2.1]
      clear e1 e2 hk
      go_enter Try.func50, Try.ntmps50
      go_wp2_with (first
        | (go_at_call 19; (with_reducible refine (h _).mono ?_); rintro X wq ⟨rfl, hb⟩; replace E := E.on hb; replace C := E.cells; simp [BC, CF] at C; clear hb))
      go_ret
      exact ⟨rfl, E.1⟩
  · have g1 : decide (x.a < x.d) = false := by simp; omega
    rw [show tkB x = false from Bool.eq_false_iff.2 fun t => e1 (tk_i.1 t).1.2.1]
    clear e1 hk
    go_enter Try.func50, Try.ntmps50
    go_wp2_with (first
      | (go_at_call 19; (with_reducible refine (h _).mono ?_); rintro X wq ⟨rfl, hb⟩; replace E := E.on hb; replace C := E.cells; simp [BC, CF] at C; clear hb))
    go_ret
    exact ⟨rfl, E.1⟩
theorem envC {w0 w : World} {l : List Fb} (h : Env w0 w l) : Below w0.heap.size w0 w := h.1
set_option maxHeartbeats 8000000 in
set_option maxRecDepth 100000 in
theorem rvalid_15 (p q : Option Addr) (l h : List Bx) (c d : Nat) (w : World) (hS : Sl w p l) (hT : Sl w q h) :
    Calls Try.prog 15 #[sv p q l h c d] w fun e w' => e = .returned (.bool (okS l h)) ∧ Below w.heap.size w w' := by
  have hm := hS.2.2
  have hn := hT.2.2
  unfold maxLen at hm hn
  have E := (Env.nil w).add w.heap.size 24 #[.slice p l.length c, .slice q h.length d] rfl
  have C := E.cells
  simp [BC, CF] at C
  obtain ⟨RES, hRES⟩ : ∃ R, R = okS l h := ⟨_, rfl⟩
  rw [← hRES]
  have HR : Hid (okS l h = false → RES = false) := Lib.hid (fun e => hRES.trans e)
  have HY : Hid (okS l h = true → RES = true) := Lib.hid (fun e => hRES.trans e)
  clear hRES
  rcases Nat.eq_zero_or_pos l.length with h0 | h0
  · have g0 : decide ((l.length : Int) < 1) = true := by simp only [decide_eq_true_eq]; omega
    have e := HR.out (Bool.eq_false_iff.2 fun q => by have := (okS_i.1 q).1.1; omega)
    subst e
    clear h0
    go_enter Try.func15, Try.ntmps15
    go_wp2
    go_ret
    exact ⟨rfl, E.1⟩
  have g0 : decide ((l.length : Int) < 1) = false := by simp only [decide_eq_false_iff_not]; omega
  rcases Nat.lt_or_ge 20 l.length with h1 | h1
  · have g1 : decide ((20 : Int) < (l.length : Int)) = true := by simp only [decide_eq_true_eq]; omega
    have e := HR.out (Bool.eq_false_iff.2 fun q => by have := (okS_i.1 q).1.2; omega)
    subst e
    go_enter Try.func15, Try.ntmps15
    go_wp2
    go_ret
    exact ⟨rfl, E.1⟩
  have g1 : decide ((20 : Int) < (l.length : Int)) = false := by simp only [decide_eq_false_iff_not]; omega
  rcases Nat.lt_or_ge 20 h.length with h2 | h2
  · have g2 : decide ((20 : Int) < (h.length : Int)) = true := by simp only [decide_eq_true_eq]; omega
    have e := HR.out (Bool.eq_false_iff.2 fun q => by have := (okS_i.1 q).2.1; omega)
    subst e
    go_enter Try.func15, Try.ntmps15
    go_wp2
    go_ret
    exact ⟨rfl, E.1⟩
  have g2 : decide ((20 : Int) < (h.length : Int)) = false := by simp only [decide_eq_false_iff_not]; omega
  go_enter Try.func15, Try.ntmps15
  go_upto_region 4 with fail
  go_loopw [3] (fun v wr => ∃ k : Nat, v = .int .i64 (k : Int) ∧ k ≤ l.length ∧ Hid (∀ x ∈ l.take k, tkB x = true) ∧ Env w wr [⟨w.heap.size, 24, #[.slice p l.length c, .slice q h.length d]⟩]) (fun v _ => l.length - (intOf v).toNat)
  case atStart => exact ⟨0, rfl, Nat.zero_le _, Lib.hid (by simp), E⟩
  case round =>
  clear E C
  obtain ⟨k, rfl, hk, hG, E⟩ := hrel
  have C := E.cells
  simp [BC, CF] at C
  by_cases hlt : k < l.length
  · have g1 : decide ((k : Int) < (l.length : Int)) = true := by simp [hlt]
    obtain ⟨a, rfl, c0, c1, c2, c3, c4, c5⟩ := (hS.on (envC E)).at hlt
    have W1 : IntKind.i64.wrap ((k : Int) + 1) = ((k + 1 : Nat) : Int) := by rw [IntWalk.i64_in _ (by omega)]; omega
    have hb := fun w => thick_any l[k] w
    unfold Bx.val at hb
    cases hv : tkB l[k]
    · simp only [hv] at hb
      have e := HR.out (by
        rcases Bool.eq_false_or_eq_true (okS l h) with q | q
        · have := (okS_i.1 q).2.2.1 _ (List.getElem_mem hlt)
          rw [hv] at this; cases this
        · exact q)
      subst e
      go_wp2_with (go_at_call 50; (with_reducible refine (hb _).mono ?_); rintro X wq ⟨rfl, hb1⟩; replace E := E.on hb1; clear hb1)
      go_ret
      exact ⟨rfl, E.1⟩
    · simp only [hv] at hb
      go_wp2_with (go_at_call 50; (with_reducible refine (hb _).mono ?_); rintro X wq ⟨rfl, hb1⟩; replace E := E.on hb1; clear hb1)
      exact ⟨⟨k + 1, rfl, hlt, Lib.hid (all_dropt hlt hG.out hv), E⟩, by simp [intOf]; omega⟩
  · have g1 : decide ((k : Int) < (l.length : Int)) = false := by simp; omega
    have hfl := hG.out
    rw [List.take_of_length_le (by omega)] at hfl
    go_upto_region 9 with fail
    go_loopw [4] (fun v wr => ∃ k : Nat, v = .int .i64 (k : Int) ∧ k ≤ h.length ∧ Hid (∀ x ∈ h.take k, tkB x = true) ∧ Env w wr [⟨w.heap.size, 24, #[.slice p l.length c, .slice q h.length d]⟩]) (fun v _ => h.length - (intOf v).toNat)
    case atStart => exact ⟨0, rfl, Nat.zero_le _, Lib.hid (by simp), E⟩
    case round =>
    clear E C
    obtain ⟨k, rfl, hk, hG, E⟩ := hrel
    have C := E.cells
    simp [BC, CF] at C
    by_cases hlt : k < h.length
    · have g1 : decide ((k : Int) < (h.length : Int)) = true := by simp [hlt]
      obtain ⟨a, rfl, c0, c1, c2, c3, c4, c5⟩ := (hT.on (envC E)).at hlt
      have W1 : IntKind.i64.wrap ((k : Int) + 1) = ((k + 1 : Nat) : Int) := by rw [IntWalk.i64_in _ (by omega)]; omega
      have hb := fun w => thick_any h[k] w
      unfold Bx.val at hb
      cases hv : tkB h[k]
      · simp only [hv] at hb
        have e := HR.out (by
          rcases Bool.eq_false_or_eq_true (okS l h) with q | q
          · have := (okS_i.1 q).2.2.2 _ (List.getElem_mem hlt)
            rw [hv] at this; cases this
          · exact q)
        subst e
        go_wp2_with (go_at_call 50; (with_reducible refine (hb _).mono ?_); rintro X wq ⟨rfl, hb1⟩; replace E := E.on hb1; clear hb1)
        go_ret
        exact ⟨rfl, E.1⟩
      · simp only [hv] at hb
        go_wp2_with (go_at_call 50; (with_reducible refine (hb _).mono ?_); rintro X wq ⟨rfl, hb1⟩; replace E := E.on hb1; clear hb1)
        exact ⟨⟨k + 1, rfl, hlt, Lib.hid (all_dropt hlt hG.out hv), E⟩, by simp [intOf]; omega⟩
    · have g1 : decide ((k : Int) < (h.length : Int)) = false := by simp; omega
      have hfh := hG.out
      rw [List.take_of_length_le (by omega)] at hfh
      have e := HY.out (okS_i.2 ⟨⟨h0, h1⟩, h2, hfl, hfh⟩)
      subst e
      go_wp2
      go_ret
      exact ⟨rfl, E.1⟩
def rgtS (l h : List Bx) : Bool := decide (l.length ≤ 4) && decide (h.length ≤ 4) && okS l h
theorem rgtS_i {l h : List Bx} : rgtS l h = true ↔ l.length ≤ 4 ∧ h.length ≤ 4 ∧ okS l h = true := by
  unfold rgtS; simp [and_assoc]
set_option maxHeartbeats 8000000 in
set_option maxRecDepth 100000 in
theorem right_30 (p q : Option Addr) (l h : List Bx) (c d : Nat) (w : World) (hS : Sl w p l) (hT : Sl w q h) :
    Calls Try.prog 30 #[.agg #[.slice p l.length c, .slice q h.length d]] w fun e w' => e = .returned (.bool (rgtS l h)) ∧ Below w.heap.size w w' := by
  have h15 : ∀ W, Sl W p l → Sl W q h → Calls Try.prog 15 #[.agg #[.slice p l.length c, .slice q h.length d]] W fun e w' => e = .returned (.bool (okS l h)) ∧ Below W.heap.size W w' := fun W a b => rvalid_15 p q l h c d W a b
  have hm := hS.2.2
  have hn := hT.2.2
  unfold maxLen at hm hn
  have E := (Env.nil w).add w.heap.size 24 #[.slice p l.length c, .slice q h.length d] rfl
  have C := E.cells
  simp [BC, CF] at C
  rcases Nat.lt_or_ge 4 l.length with h1 | h1
  · have g1 : decide ((l.length : Int) ≤ 4) = false := by simp only [decide_eq_false_iff_not]; omega
    rw [show rgtS l h = false from Bool.eq_false_iff.2 fun q => by have := (rgtS_i.1 q).1; omega]
    go_enter Try.func30, Try.ntmps30
    go_wp2
    go_ret
    exact ⟨rfl, E.1⟩
  have g1 : decide ((l.length : Int) ≤ 4) = true := by simp only [decide_eq_true_eq]; omega
  rcases Nat.lt_or_ge 4 h.length with h2 | h2
  · have g2 : decide ((h.length : Int) ≤ 4) = false := by simp only [decide_eq_false_iff_not]; omega
    rw [show rgtS l h = false from Bool.eq_false_iff.2 fun q => by have := (rgtS_i.1 q).2.1; omega]
    go_enter Try.func30, Try.ntmps30
    go_wp2
    go_ret
    exact ⟨rfl, E.1⟩
  have g2 : decide ((h.length : Int) ≤ 4) = true := by simp only [decide_eq_true_eq]; omega
  rw [show rgtS l h = okS l h by unfold rgtS; rw [decide_eq_true h1, decide_eq_true h2]; rfl]
  generalize okS l h = R at *
  go_enter Try.func30, Try.ntmps30
  go_wp2_with (first
    | (go_at_call 15; (with_reducible refine (h15 _ (hS.on (envC E)) (hT.on (envC E))).mono ?_); rintro X wq ⟨rfl, hb⟩; replace E := E.on hb; replace C := E.cells; simp [BC, CF] at C; clear hb))
  go_ret
  exact ⟨rfl, E.1⟩
end Go.Proofs.Ytkgaahmehmbfjaa
