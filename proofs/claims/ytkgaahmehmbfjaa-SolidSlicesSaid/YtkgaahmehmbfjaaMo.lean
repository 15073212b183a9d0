/- modest. -/
import Derived.Test.YtkgaahmehmbfjaaGc
import Derived.Laws.Cover1
namespace Go.Proofs.Ytkgaahmehmbfjaa
open Go.ChangeShapes Go.WideShapes Go.ChangeAt Go.RowKit
set_option linter.unusedVariables false
set_option linter.unusedSimpArgs false

/-- A box with small coordinates. -/
def mn3 (x y z : Int) : Int := if z < (if y < x then y else x) then z else (if y < x then y else x)
def mx3 (x y z : Int) : Int := if z > (if y > x then y else x) then z else (if y > x then y else x)
def moB (x : Bx) : Bool := !(decide (mn3 x.a x.b x.c < -65536)) && !(decide (65536 < mx3 x.d x.e x.f))
theorem mn3_i (x y z k : Int) : ¬ mn3 x y z < k ↔ k ≤ x ∧ k ≤ y ∧ k ≤ z := by
  unfold mn3
  by_cases h : y < x <;> simp only [h, if_true, if_false] <;> split <;> omega
theorem mx3_i (x y z k : Int) : ¬ k < mx3 x y z ↔ x ≤ k ∧ y ≤ k ∧ z ≤ k := by
  unfold mx3
  by_cases h : y > x <;> simp only [h, if_true, if_false] <;> split <;> omega
theorem moB_i {x : Bx} : moB x = true ↔ (-65536 ≤ x.a ∧ -65536 ≤ x.b ∧ -65536 ≤ x.c) ∧ x.d ≤ 65536 ∧ x.e ≤ 65536 ∧ x.f ≤ 65536 := by
  unfold moB
  simp only [Bool.and_eq_true, Bool.not_eq_true', decide_eq_false_iff_not, mn3_i, mx3_i]
set_option maxHeartbeats 8000000 in
set_option maxRecDepth 100000 in
theorem clo_60 (x : Bx) (w : World) : Calls Try.prog 60 #[x.val] w fun e w' => e = .returned (.bool (!moB x)) ∧ Below w.heap.size w w' := by
  have E := (Env.nil w).add w.heap.size 30 #[.int .i64 x.a, .int .i64 x.b, .int .i64 x.c, .int .i64 x.d, .int .i64 x.e, .int .i64 x.f] rfl
  have C := E.cells
  simp [BC, CF] at C
  unfold moB Bx.val
  unfold mn3 mx3
  generalize hm : (if x.c < (if x.b < x.a then x.b else x.a) then x.c else (if x.b < x.a then x.b else x.a)) = M1
  generalize hM : (if x.f > (if x.e > x.d then x.e else x.d) then x.f else (if x.e > x.d then x.e else x.d)) = M2
  cases h1 : decide (M1 < -65536)
  · cases h2 : decide (65536 < M2)
    · go_enter Try.func60, Try.ntmps60
      go_wp2
      go_ret
      exact ⟨rfl, E.1⟩
    · go_enter Try.func60, Try.ntmps60
      go_wp2
      go_ret
      exact ⟨rfl, E.1⟩
  · go_enter Try.func60, Try.ntmps60
    go_wp2
    go_ret
    exact ⟨by simp, E.1⟩
theorem all_dropm {l : List Bx} {k : Nat} (hk : k < l.length) (h : ∀ x ∈ l.take k, moB x = true) (hv : moB l[k] = true) : ∀ x ∈ l.take (k + 1), moB x = true := by
  intro x hx
  rw [List.take_succ_eq_append_getElem hk, List.mem_append] at hx
  rcases hx with hx | hx
  · exact h x hx
  · rw [List.mem_singleton.1 hx]; exact hv
set_option maxRecDepth 100000 in
theorem idxm_any (p : Option Addr) (l : List Bx) (cap : Nat) (w : World) (hS : Sl w p l) :
    Calls Try.prog 74 #[.slice p l.length cap, .func (.func 60) #[] #[]] w fun e w' => ∃ i : Int, e = .returned (.int .i64 i) ∧ decide (0 ≤ i) = !l.all moB ∧ Below w.heap.size w w' := by
  have hm := hS.2.2
  unfold maxLen at hm
  go_enter Try.func74, Try.ntmps74
  go_wp2
  go_loopw [8] (fun v wr => ∃ k : Nat, v = .int .i64 k ∧ k ≤ l.length ∧ Hid (∀ x ∈ l.take k, moB x = true) ∧ Below w.heap.size w wr) (fun v _ => l.length - (intOf v).toNat)
  case atStart => exact ⟨0, rfl, Nat.zero_le _, Lib.hid (by simp), Below.refl _ _⟩
  case round =>
    obtain ⟨k, rfl, hk, hG, hB⟩ := hrel
    by_cases hlt : k < l.length
    · have g1 : decide ((k : Int) < (l.length : Int)) = true := by simp [hlt]
      obtain ⟨a, rfl, c0, c1, c2, c3, c4, c5⟩ := (hS.on hB).at hlt
      have W1 : IntKind.i64.wrap ((k : Int) + 1) = ((k + 1 : Nat) : Int) := by rw [IntWalk.i64_in _ (by omega)]; omega
      have hb := fun w => clo_60 l[k] w
      unfold Bx.val at hb
      cases hv : moB l[k]
      · have e : l.all moB = false := List.all_eq_false.2 ⟨_, List.getElem_mem hlt, by simp [hv]⟩
        simp only [hv, Bool.not_false] at hb
        go_wp2_with (go_at_call 60; (with_reducible refine (hb _).mono ?_); rintro e1 w1 ⟨rfl, hb1⟩)
        go_ret
        exact ⟨_, rfl, by rw [e]; simp, belows hB hb1⟩
      · simp only [hv, Bool.not_true] at hb
        go_wp2_with (go_at_call 60; (with_reducible refine (hb _).mono ?_); rintro e1 w1 ⟨rfl, hb1⟩)
        exact ⟨⟨k + 1, rfl, hlt, Lib.hid (all_dropm hlt hG.out hv), belows hB hb1⟩, by simp [intOf]; omega⟩
    · have g1 : decide ((k : Int) < (l.length : Int)) = false := by simp; omega
      go_wp2
      go_ret
      have := hG.out
      rw [List.take_of_length_le (by omega)] at this
      have e : l.all moB = true := List.all_eq_true.2 this
      exact ⟨-1, rfl, by rw [e]; rfl, hB⟩
theorem hasm_any (p : Option Addr) (l : List Bx) (cap : Nat) (w : World) (hS : Sl w p l) :
    Calls Try.prog 48 #[.slice p l.length cap, .func (.func 60) #[] #[]] w fun e w' => e = .returned (.bool (!l.all moB)) ∧ Below w.heap.size w w' := by
  go_enter Try.func48, Try.ntmps48
  go_wp2_with (go_at_call 74; (with_reducible refine (idxm_any p l cap _ hS).mono ?_); rintro e1 w1 ⟨i, rfl, hi, hb1⟩)
  go_ret
  exact ⟨rfl, hb1⟩
/-- Two lists behind each other. -/
theorem concat_two (g0 cp : Nat) (p q : Option Addr) (l h : List Bx) (c d : Nat) (w : World) (hl : l.length ≤ 20) (hh : h.length ≤ 20) (cz : p = none → c = 0) (dz : q = none → d = 0)
    (h0 : w.cell? ⟨g0, 0, none⟩ = some (.slice p l.length c)) (h1 : w.cell? ⟨g0, 1, none⟩ = some (.slice q h.length d)) (hS : Sl w p l) (hT : Sl w q h) :
    Calls Try.prog 32 #[.slice (some ⟨g0, 0, none⟩) 2 cp] w fun e w' => ∃ v, e = .returned v ∧ Own kb 30 6 w.heap.size w' v (l ++ h) ∧ Below w.heap.size w w' := by
  have := concat_any g0 cp [⟨p, c, l⟩, ⟨q, d, h⟩] w (by simp) (by simp; omega) (by simpa using ⟨cz, dz⟩) (fun k hk => by
    rcases (by simp at hk; omega : k = 0 ∨ k = 1) with rfl | rfl
    · exact ⟨h0, hS⟩
    · exact ⟨h1, hT⟩)
  simpa using this
def modS (l h : List Bx) : Bool := l.all moB && h.all moB
set_option maxHeartbeats 8000000 in
set_option maxRecDepth 100000 in
theorem modest_31 (p q : Option Addr) (l h : List Bx) (c d : Nat) (w : World) (hS : Sl w p l) (hT : Sl w q h) (hl : l.length ≤ 20) (hh : h.length ≤ 20) (cz : p = none → c = 0) (dz : q = none → d = 0) :
    Calls Try.prog 31 #[.agg #[.slice p l.length c, .slice q h.length d]] w fun e w' => e = .returned (.bool (modS l h)) ∧ Below w.heap.size w w' := by
  have E := ((Env.nil w).add w.heap.size 24 #[.slice p l.length c, .slice q h.length d] rfl).add (w.heap.size + 1) 22 #[.slice p l.length c, .slice q h.length d] (by simp)
  have hc := fun W h0 h1 a b => concat_two (w.heap.size + 1) 2 p q l h c d W hl hh cz dz h0 h1 a b
  have hll : (l ++ h).length ≤ 1000 := by rw [List.length_append]; omega
  have e0 : modS l h = (l ++ h).all moB := by unfold modS; rw [List.all_append]
  rw [e0]
  generalize l ++ h = L at *
  go_enter Try.func31, Try.ntmps31
  go_wp2_with (first
    | (go_at_call 32; refine (hc _ (E.2.2.1.read 0) (E.2.2.1.read 1) (hS.on E.1) (hT.on E.1)).mono ?_; rintro X w1 ⟨v, rfl, hO, hb⟩; obtain ⟨r, cr, rfl, hL⟩ := own_kl hO hll; replace E := E.on hb)
    | (go_at_call 48; (with_reducible refine (hasm_any r L cr _ hL).mono ?_); rintro X w2 ⟨rfl, hb2⟩; replace E := E.on hb2))
  go_ret
  exact ⟨by simp, E.1⟩
end Go.Proofs.Ytkgaahmehmbfjaa
