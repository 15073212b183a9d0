/- thin, ContainsFunc with it; Valid. -/
import Derived.Test.YtkgaahmehmbfjaaZ1
namespace Go.Proofs.Ytkgaahmehmbfjaa
open Go.ChangeShapes Go.WideShapes Go.ChangeAt Go.RowKit
set_option linter.unusedVariables false
set_option linter.unusedSimpArgs false

/-- A box that isn't valid, or has no width in some direction. -/
def thB (x : Bx) : Bool := !x.ok || decide (x.a = x.d) || decide (x.b = x.e) || decide (x.c = x.f)
theorem thB_i {x : Bx} : thB x = false ↔ (-1048576 ≤ x.a ∧ x.a < x.d ∧ x.d ≤ 1048576) ∧ (-1048576 ≤ x.b ∧ x.b < x.e ∧ x.e ≤ 1048576) ∧ (-1048576 ≤ x.c ∧ x.c < x.f ∧ x.f ≤ 1048576) := by
  unfold thB Bx.ok vB sdV
  simp only [Bool.or_eq_false_iff, Bool.not_eq_false', Bool.and_eq_true, decide_eq_true_eq, decide_eq_false_iff_not]
  omega
theorem thB_ok {x : Bx} (h : thB x = false) : x.ok = true := by
  unfold thB at h
  simp only [Bool.or_eq_false_iff, Bool.not_eq_false'] at h
  exact h.1.1.1
set_option maxHeartbeats 8000000 in
set_option maxRecDepth 100000 in
theorem thin_any (x : Bx) (w : World) : Calls Try.prog 49 #[x.val] w fun e w' => e = .returned (.bool (thB x)) ∧ Below w.heap.size w w' := by
  have h : ∀ W, Calls Try.prog 46 #[x.val] W fun e w' => e = .returned (.bool x.ok) ∧ Below W.heap.size W w' := fun W => valid_any x.a x.b x.c x.d x.e x.f W
  have E := (Env.nil w).add w.heap.size 30 #[.int .i64 x.a, .int .i64 x.b, .int .i64 x.c, .int .i64 x.d, .int .i64 x.e, .int .i64 x.f] rfl
  have C := E.cells
  simp [BC, CF] at C
  unfold Bx.val at *
  cases hv : x.ok
  · rw [hv] at h
    rw [show thB x = true by unfold thB; rw [hv]; rfl]
    go_enter Try.func49, Try.ntmps49
    go_wp2_with (first
      | (go_at_call 46; (with_reducible refine (h _).mono ?_); rintro X wq ⟨rfl, hb⟩; replace E := E.on hb; replace C := E.cells; simp [BC, CF] at C; clear hb))
    go_ret
    exact ⟨rfl, E.1⟩
  rw [hv] at h
  by_cases e1 : x.a = x.d
  · rw [show thB x = true by simp [thB, e1]]
    have g1 : (x.a == x.d) = true := by simp [e1]
    have g1' : decide (x.a = x.d) = true := by simp [e1]
    clear e1
    go_enter Try.func49, Try.ntmps49
    go_wp2_with (first
      | (go_at_call 46; (with_reducible refine (h _).mono ?_); rintro X wq ⟨rfl, hb⟩; replace E := E.on hb; replace C := E.cells; simp [BC, CF] at C; clear hb))
    go_ret
    exact ⟨by first | rfl | simp_all, E.1⟩
  have g1 : (x.a == x.d) = false := by simp [e1]
  have g1' : decide (x.a = x.d) = false := by simp [e1]
  by_cases e2 : x.b = x.e
  · rw [show thB x = true by simp [thB, e2]]
    have g2 : (x.b == x.e) = true := by simp [e2]
    have g2' : decide (x.b = x.e) = true := by simp [e2]
    clear e2
    go_enter Try.func49, Try.ntmps49
    go_wp2_with (first
      | (go_at_call 46; (with_reducible refine (h _).mono ?_); rintro X wq ⟨rfl, hb⟩; replace E := E.on hb; replace C := E.cells; simp [BC, CF] at C; clear hb))
    go_ret
    exact ⟨by first | rfl | simp_all, E.1⟩
  have g2 : (x.b == x.e) = false := by simp [e2]
  have g2' : decide (x.b = x.e) = false := by simp [e2]
  by_cases e3 : x.c = x.f
  · rw [show thB x = true by simp [thB, e3]]
    have g3 : (x.c == x.f) = true := by simp [e3]
    have g3' : decide (x.c = x.f) = true := by simp [e3]
    clear e3
    go_enter Try.func49, Try.ntmps49
    go_wp2_with (first
      | (go_at_call 46; (with_reducible refine (h _).mono ?_); rintro X wq ⟨rfl, hb⟩; replace E := E.on hb; replace C := E.cells; simp [BC, CF] at C; clear hb))
    go_ret
    exact ⟨by first | rfl | simp_all, E.1⟩
  have g3 : (x.c == x.f) = false := by simp [e3]
  have g3' : decide (x.c = x.f) = false := by simp [e3]
  rw [show thB x = false by simp [thB, hv, e1, e2, e3]]
  go_enter Try.func49, Try.ntmps49
  go_wp2_with (first
    | (go_at_call 46; (with_reducible refine (h _).mono ?_); rintro X wq ⟨rfl, hb⟩; replace E := E.on hb; replace C := E.cells; simp [BC, CF] at C; clear hb))
  go_ret
  exact ⟨rfl, E.1⟩
def tkB (x : Bx) : Bool := !thB x
theorem all_dropt {l : List Bx} {k : Nat} (hk : k < l.length) (h : ∀ x ∈ l.take k, tkB x = true) (hv : tkB l[k] = true) : ∀ x ∈ l.take (k + 1), tkB x = true := by
  intro x hx
  rw [List.take_succ_eq_append_getElem hk, List.mem_append] at hx
  rcases hx with hx | hx
  · exact h x hx
  · rw [List.mem_singleton.1 hx]; exact hv
set_option maxRecDepth 100000 in
theorem idxt_any (p : Option Addr) (l : List Bx) (cap : Nat) (w : World) (hS : Sl w p l) :
    Calls Try.prog 74 #[.slice p l.length cap, .func (.func 49) #[] #[]] w fun e w' => ∃ i : Int, e = .returned (.int .i64 i) ∧ decide (0 ≤ i) = !l.all tkB ∧ Below w.heap.size w w' := by
  have hm := hS.2.2
  unfold maxLen at hm
  go_enter Try.func74, Try.ntmps74
  go_wp2
  go_loopw [8] (fun v wr => ∃ k : Nat, v = .int .i64 k ∧ k ≤ l.length ∧ Hid (∀ x ∈ l.take k, tkB x = true) ∧ Below w.heap.size w wr) (fun v _ => l.length - (intOf v).toNat)
  case atStart => exact ⟨0, rfl, Nat.zero_le _, Lib.hid (by simp), Below.refl _ _⟩
  case round =>
    obtain ⟨k, rfl, hk, hG, hB⟩ := hrel
    by_cases hlt : k < l.length
    · have g1 : decide ((k : Int) < (l.length : Int)) = true := by simp [hlt]
      obtain ⟨a, rfl, c0, c1, c2, c3, c4, c5⟩ := (hS.on hB).at hlt
      have W1 : IntKind.i64.wrap ((k : Int) + 1) = ((k + 1 : Nat) : Int) := by rw [IntWalk.i64_in _ (by omega)]; omega
      have hb := fun w => thin_any l[k] w
      unfold Bx.val at hb
      cases hv : thB l[k]
      · simp only [hv] at hb
        go_wp2_with (go_at_call 49; (with_reducible refine (hb _).mono ?_); rintro e1 w1 ⟨rfl, hb1⟩)
        exact ⟨⟨k + 1, rfl, hlt, Lib.hid (all_dropt hlt hG.out (by simp [tkB, hv])), belows hB hb1⟩, by simp [intOf]; omega⟩
      · have e : l.all tkB = false := List.all_eq_false.2 ⟨_, List.getElem_mem hlt, by simp [tkB, hv]⟩
        simp only [hv] at hb
        go_wp2_with (go_at_call 49; (with_reducible refine (hb _).mono ?_); rintro e1 w1 ⟨rfl, hb1⟩)
        go_ret
        exact ⟨_, rfl, by rw [e]; simp, belows hB hb1⟩
    · have g1 : decide ((k : Int) < (l.length : Int)) = false := by simp; omega
      go_wp2
      go_ret
      have := hG.out
      rw [List.take_of_length_le (by omega)] at this
      have e : l.all tkB = true := List.all_eq_true.2 this
      exact ⟨-1, rfl, by rw [e]; rfl, hB⟩
theorem hast_any (p : Option Addr) (l : List Bx) (cap : Nat) (w : World) (hS : Sl w p l) :
    Calls Try.prog 48 #[.slice p l.length cap, .func (.func 49) #[] #[]] w fun e w' => e = .returned (.bool (!l.all tkB)) ∧ Below w.heap.size w w' := by
  go_enter Try.func48, Try.ntmps48
  go_wp2_with (go_at_call 74; (with_reducible refine (idxt_any p l cap _ hS).mono ?_); rintro e1 w1 ⟨i, rfl, hi, hb1⟩)
  go_ret
  exact ⟨rfl, hb1⟩
/-- A valid solid. -/
def okS (l h : List Bx) : Bool := decide (1 ≤ l.length) && decide (l.length ≤ 20) && decide (h.length ≤ 20) && l.all tkB && h.all tkB
theorem okS_i {l h : List Bx} : okS l h = true ↔ (1 ≤ l.length ∧ l.length ≤ 20) ∧ h.length ≤ 20 ∧ (∀ x ∈ l, tkB x = true) ∧ ∀ x ∈ h, tkB x = true := by
  unfold okS
  simp only [Bool.and_eq_true, decide_eq_true_eq, List.all_eq_true]
  constructor
  · rintro ⟨⟨⟨⟨a, b⟩, c⟩, d⟩, e⟩; exact ⟨⟨a, b⟩, c, d, e⟩
  · rintro ⟨⟨a, b⟩, c, d, e⟩; exact ⟨⟨⟨⟨a, b⟩, c⟩, d⟩, e⟩
theorem tk_ok {x : Bx} (h : tkB x = true) : x.ok = true := thB_ok (by unfold tkB at h; simpa using h)
theorem tk_i {x : Bx} : tkB x = true ↔ (-1048576 ≤ x.a ∧ x.a < x.d ∧ x.d ≤ 1048576) ∧ (-1048576 ≤ x.b ∧ x.b < x.e ∧ x.e ≤ 1048576) ∧ (-1048576 ≤ x.c ∧ x.c < x.f ∧ x.f ≤ 1048576) := by
  rw [← thB_i]; unfold tkB; simp
theorem all_tk {l : List Bx} (h : ∀ x ∈ l, tkB x = true) : l.all Bx.ok = true := List.all_eq_true.2 fun x hx => tk_ok (h x hx)
abbrev sv (p q : Option Addr) (l h : List Bx) (c d : Nat) : Value := .agg #[.slice p l.length c, .slice q h.length d]
set_option maxHeartbeats 8000000 in
set_option maxRecDepth 100000 in
theorem valid_14 (p q : Option Addr) (l h : List Bx) (c d : Nat) (w : World) (hS : Sl w p l) (hT : Sl w q h) :
    Calls Try.prog 14 #[sv p q l h c d] w fun e w' => e = .returned (.bool (okS l h)) ∧ Below w.heap.size w w' := by
  have hl := fun W H => hast_any p l c W H
  have hh := fun W H => hast_any q h d W H
  have hm := hS.2.2
  have hn := hT.2.2
  unfold maxLen at hm hn
  have E := (Env.nil w).add w.heap.size 24 #[.slice p l.length c, .slice q h.length d] rfl
  have C := E.cells
  simp [BC, CF] at C
  replace hS := hS.on (al1 w (.cells #[.slice p l.length c, .slice q h.length d] 24))
  replace hT := hT.on (al1 w (.cells #[.slice p l.length c, .slice q h.length d] 24))
  rcases Nat.eq_zero_or_pos l.length with h0 | h0
  · have e := List.length_eq_zero_iff.1 h0
    subst e
    rw [show okS [] h = false by simp [okS]]
    simp only [List.length_nil] at *
    go_enter Try.func14, Try.ntmps14
    go_wp2
    go_ret
    exact ⟨rfl, E.1⟩
  have g0 : ((l.length : Int) == 0) = false := by simp only [beq_eq_false_iff_ne, ne_eq]; omega
  have g0' : decide ((l.length : Int) = 0) = false := by simp only [decide_eq_false_iff_not]; omega
  rcases Nat.lt_or_ge 20 l.length with h1 | h1
  · rw [show okS l h = false by unfold okS; rw [show decide (l.length ≤ 20) = false by simp; omega]; simp]
    have g1 : decide ((20 : Int) < (l.length : Int)) = true := by simp; omega
    go_enter Try.func14, Try.ntmps14
    go_wp2
    go_ret
    exact ⟨rfl, E.1⟩
  have g1 : decide ((20 : Int) < (l.length : Int)) = false := by simp; omega
  rcases Nat.lt_or_ge 20 h.length with h2 | h2
  · rw [show okS l h = false by unfold okS; rw [show decide (h.length ≤ 20) = false by simp; omega]; simp]
    have g2 : decide ((20 : Int) < (h.length : Int)) = true := by simp; omega
    go_enter Try.func14, Try.ntmps14
    go_wp2
    go_ret
    exact ⟨rfl, E.1⟩
  have g2 : decide ((20 : Int) < (h.length : Int)) = false := by simp; omega
  rw [show okS l h = (l.all tkB && h.all tkB) by unfold okS; rw [show decide (1 ≤ l.length) = true from decide_eq_true h0, decide_eq_true h1, decide_eq_true h2]; simp]
  cases hL : l.all tkB
  · simp only [hL] at hl
    go_enter Try.func14, Try.ntmps14
    go_wp2_with (go_at_call 48; (with_reducible refine (hl _ hS).mono ?_); rintro X wq ⟨rfl, hb⟩; replace hT := hT.on hb; replace E := E.on hb; replace C := E.cells; simp [BC, CF] at C; clear hb)
    go_ret
    exact ⟨rfl, E.1⟩
  · simp only [hL] at hl
    go_enter Try.func14, Try.ntmps14
    go_wp2_with (first
      | (go_at_call 48; (with_reducible refine (hl _ hS).mono ?_); rintro X wq ⟨rfl, hb⟩; replace hT := hT.on hb; replace E := E.on hb; replace C := E.cells; simp [BC, CF] at C; clear hb)
      | (go_at_call 48; (with_reducible refine (hh _ hT).mono ?_); rintro X wq ⟨rfl, hb⟩; replace E := E.on hb; clear hb))
    go_ret
    exact ⟨by simp, E.1⟩
end Go.Proofs.Ytkgaahmehmbfjaa
