/- Lists of boxes, as they come in. -/
import Derived.Test.YtcadghenjcaaiaaVa
namespace Go.Proofs.Ytcadghenjcaaiaa
open Go.ChangeShapes Go.WideShapes Go.ChangeAt Go.RowKit
set_option linter.unusedVariables false
set_option linter.unusedSimpArgs false

structure Bx where
  a : Int
  b : Int
  c : Int
  d : Int
  e : Int
  f : Int
deriving DecidableEq
def Bx.val (x : Bx) : Value := .agg #[.int .i64 x.a, .int .i64 x.b, .int .i64 x.c, .int .i64 x.d, .int .i64 x.e, .int .i64 x.f]
def Bx.ok (x : Bx) : Bool := vB x.a x.b x.c x.d x.e x.f
theorem lt_of_cell {w : World} {a : Addr} {v : Value} (h : w.cell? a = some v) : a.block < w.heap.size := by
  rcases Nat.lt_or_ge a.block w.heap.size with k | k
  · exact k
  · rw [World.cell?, Array.getElem?_eq_none k] at h; cases h
theorem cell_later {w w1 : World} (hb : Below w.heap.size w w1) {a : Addr} {v : Value} (h : w.cell? a = some v) : w1.cell? a = some v := by
  rw [hb.cell (lt_of_cell h)]; exact h
/-- The boxes that lie in a row of cells. -/
def Fr6 (w : World) (a : Addr) (l : List Bx) : Prop := ∀ i (h : i < l.length), w.cell? (a.add (i * 6)) = some (.int .i64 l[i].a) ∧ w.cell? ⟨(a.add (i * 6)).block, (a.add (i * 6)).off + 1, none⟩ = some (.int .i64 l[i].b) ∧ w.cell? ⟨(a.add (i * 6)).block, (a.add (i * 6)).off + 2, none⟩ = some (.int .i64 l[i].c) ∧ w.cell? ⟨(a.add (i * 6)).block, (a.add (i * 6)).off + 3, none⟩ = some (.int .i64 l[i].d) ∧ w.cell? ⟨(a.add (i * 6)).block, (a.add (i * 6)).off + 4, none⟩ = some (.int .i64 l[i].e) ∧ w.cell? ⟨(a.add (i * 6)).block, (a.add (i * 6)).off + 5, none⟩ = some (.int .i64 l[i].f)
theorem Fr6.on {w w1 : World} {a : Addr} {l : List Bx} (h : Fr6 w a l) (hb : Below w.heap.size w w1) : Fr6 w1 a l := fun i hi => by
  obtain ⟨h0, h1, h2, h3, h4, h5⟩ := h i hi
  exact ⟨cell_later hb h0, cell_later hb h1, cell_later hb h2, cell_later hb h3, cell_later hb h4, cell_later hb h5⟩
/-- A slice of boxes, nil or not. -/
def Sl (w : World) (p : Option Addr) (l : List Bx) : Prop := (p = none → l = []) ∧ (∀ a, p = some a → Fr6 w a l) ∧ l.length ≤ maxLen
theorem Sl.on {w w1 : World} {p : Option Addr} {l : List Bx} (h : Sl w p l) (hb : Below w.heap.size w w1) : Sl w1 p l := ⟨h.1, fun a ha => (h.2.1 a ha).on hb, h.2.2⟩
theorem Sl.at {w : World} {p : Option Addr} {l : List Bx} (h : Sl w p l) {k : Nat} (hk : k < l.length) : ∃ a, p = some a ∧ w.cell? (a.add (k * 6)) = some (.int .i64 l[k].a) ∧ w.cell? ⟨(a.add (k * 6)).block, (a.add (k * 6)).off + 1, none⟩ = some (.int .i64 l[k].b) ∧ w.cell? ⟨(a.add (k * 6)).block, (a.add (k * 6)).off + 2, none⟩ = some (.int .i64 l[k].c) ∧ w.cell? ⟨(a.add (k * 6)).block, (a.add (k * 6)).off + 3, none⟩ = some (.int .i64 l[k].d) ∧ w.cell? ⟨(a.add (k * 6)).block, (a.add (k * 6)).off + 4, none⟩ = some (.int .i64 l[k].e) ∧ w.cell? ⟨(a.add (k * 6)).block, (a.add (k * 6)).off + 5, none⟩ = some (.int .i64 l[k].f) := by
  cases p with
  | none => rw [h.1 rfl] at hk; simp at hk
  | some a => exact ⟨a, rfl, h.2.1 a rfl k hk⟩
theorem bad_any (x : Bx) (w : World) :
    Calls Try.prog 54 #[x.val] w fun e w' => e = .returned (.bool (!x.ok)) ∧ Below w.heap.size w w' := by
  unfold Bx.val Bx.ok
  have h := fun W => valid_any x.a x.b x.c x.d x.e x.f W
  have b0 := al1 w (.cells (C6 x.a x.b x.c x.d x.e x.f) 42)
  go_enter Try.func54, Try.ntmps54
  go_wp2_with (go_at_call 55; (with_reducible refine (h _).mono ?_); rintro e w1 ⟨rfl, hb⟩; replace b0 := belows b0 hb; clear hb)
  go_ret
  exact ⟨rfl, b0⟩
theorem all_drop {l : List Bx} {k : Nat} (hk : k < l.length) (h : ∀ x ∈ l.take k, x.ok = true) (hv : l[k].ok = true) : ∀ x ∈ l.take (k + 1), x.ok = true := by
  intro x hx
  rw [List.take_succ_eq_append_getElem hk, List.mem_append] at hx
  rcases hx with hx | hx
  · exact h x hx
  · rw [List.mem_singleton.1 hx]; exact hv
set_option maxRecDepth 100000 in
theorem idx_any (p : Option Addr) (l : List Bx) (cap : Nat) (w : World) (hS : Sl w p l) :
    Calls Try.prog 63 #[.slice p l.length cap, .func (.func 54) #[] #[]] w fun e w' => ∃ i : Int, e = .returned (.int .i64 i) ∧ decide (0 ≤ i) = !l.all Bx.ok ∧ Below w.heap.size w w' := by
  have hm := hS.2.2
  unfold maxLen at hm
  go_enter Try.func63, Try.ntmps63
  go_wp2
  go_loopw [8] (fun v wr => ∃ k : Nat, v = .int .i64 k ∧ k ≤ l.length ∧ Hid (∀ x ∈ l.take k, x.ok = true) ∧ Below w.heap.size w wr) (fun v _ => l.length - (intOf v).toNat)
  case atStart => exact ⟨0, rfl, Nat.zero_le _, Lib.hid (by simp), Below.refl _ _⟩
  case round =>
    obtain ⟨k, rfl, hk, hG, hB⟩ := hrel
    by_cases hlt : k < l.length
    · have g1 : decide ((k : Int) < (l.length : Int)) = true := by simp [hlt]
      obtain ⟨a, rfl, c0, c1, c2, c3, c4, c5⟩ := (hS.on hB).at hlt
      have W1 : IntKind.i64.wrap ((k : Int) + 1) = ((k + 1 : Nat) : Int) := by rw [IntWalk.i64_in _ (by omega)]; omega
      have hb := fun w => bad_any l[k] w
      unfold Bx.val at hb
      cases hv : l[k].ok
      · have e : l.all Bx.ok = false := List.all_eq_false.2 ⟨_, List.getElem_mem hlt, by simp [hv]⟩
        simp only [hv, Bool.not_false] at hb
        go_wp2_with (go_at_call 54; (with_reducible refine (hb _).mono ?_); rintro e1 w1 ⟨rfl, hb1⟩)
        go_ret
        exact ⟨_, rfl, by rw [e]; simp, belows hB hb1⟩
      · simp only [hv, Bool.not_true] at hb
        go_wp2_with (go_at_call 54; (with_reducible refine (hb _).mono ?_); rintro e1 w1 ⟨rfl, hb1⟩)
        exact ⟨⟨k + 1, rfl, hlt, Lib.hid (all_drop hlt hG.out hv), belows hB hb1⟩, by simp [intOf]; omega⟩
    · have g1 : decide ((k : Int) < (l.length : Int)) = false := by simp; omega
      go_wp2
      go_ret
      have := hG.out
      rw [List.take_of_length_le (by omega)] at this
      have e : l.all Bx.ok = true := List.all_eq_true.2 this
      exact ⟨-1, rfl, by rw [e]; rfl, hB⟩
theorem has_any (p : Option Addr) (l : List Bx) (cap : Nat) (w : World) (hS : Sl w p l) :
    Calls Try.prog 53 #[.slice p l.length cap, .func (.func 54) #[] #[]] w fun e w' => e = .returned (.bool (!l.all Bx.ok)) ∧ Below w.heap.size w w' := by
  go_enter Try.func53, Try.ntmps53
  go_wp2_with (go_at_call 63; (with_reducible refine (idx_any p l cap _ hS).mono ?_); rintro e1 w1 ⟨i, rfl, hi, hb1⟩)
  go_ret
  exact ⟨rfl, hb1⟩
theorem allvalid_any (p : Option Addr) (l : List Bx) (cap : Nat) (w : World) (hS : Sl w p l) :
    Calls Try.prog 44 #[.slice p l.length cap] w fun e w' => e = .returned (.bool (l.all Bx.ok)) ∧ Below w.heap.size w w' := by
  go_enter Try.func44, Try.ntmps44
  go_wp2_with (go_at_call 53; (with_reducible refine (has_any p l cap _ hS).mono ?_); rintro e1 w1 ⟨rfl, hb1⟩)
  go_ret
  exact ⟨by simp, hb1⟩
end Go.Proofs.Ytcadghenjcaaiaa
