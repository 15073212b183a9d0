/- Whether a graph is valid: the program's Valid. -/
import Derived.Test.YteofbbakegcohaaNes
namespace Go.Proofs.Yteofbbakegcohaa
open Go.ChangeShapes Go.WideShapes Go.ChangeAt Go.RowKit
set_option linter.unusedVariables false
set_option linter.unusedSimpArgs false

def wi (i n : Int) : Bool := decide (0 ≤ i) && decide (i < n)
theorem within_any (i n : Int) (w : World) : Calls Try.prog 45 #[.int .i64 i, .int .i64 n] w fun e w' => e = .returned (.bool (wi i n)) ∧ w = w' := by
  by_cases h1 : 0 ≤ i
  · by_cases h2 : i < n
    · go_enter Try.func45, Try.ntmps45
      go_wp2
      go_ret
      exact ⟨by simp [wi, h1, h2], rfl⟩
    · go_enter Try.func45, Try.ntmps45
      go_wp2
      go_ret
      exact ⟨by simp [wi, h1, h2], rfl⟩
  · go_enter Try.func45, Try.ntmps45
    go_wp2
    go_ret
    exact ⟨by have : decide (0 ≤ i) = false := decide_eq_false (by omega)
              simp [wi, this], rfl⟩
/-- Whether an edge joins two different nodes. -/
def okE (n : Int) (x : Int × Int) : Bool := wi x.1 n && wi x.2 n
set_option maxRecDepth 100000 in
theorem bad_any (a b n : Int) (g : Nat) (w : World) (hg : w.cell? ⟨g, 0, none⟩ = some (.int .i64 n)) :
    Calls Try.prog 48 #[.agg #[.int .i64 a, .int .i64 b], .pointer (some ⟨g, 0, none⟩)] w fun e w' => e = .returned (.bool (!okE n (a, b))) ∧ Below w.heap.size w w' := by
  have C := Has.new_ w 42 #[.int .i64 a, .int .i64 b]
  have C0 := C.read 0
  have C1 := C.read 1
  have cg := cell_later (al1 w (.cells #[.int .i64 a, .int .i64 b] 42)) hg
  cases h2 : wi a n <;> cases h3 : wi b n
  all_goals (
    have W1 := fun w => within_any a n w
    have W2 := fun w => within_any b n w
    rw [h2] at W1
    rw [h3] at W2
    go_enter Try.func48, Try.ntmps48
    go_wp2_with (first | (go_at_call 45; (with_reducible refine (W1 _).mono ?_); rintro e w' ⟨rfl, rfl⟩) | (go_at_call 45; (with_reducible refine (W2 _).mono ?_); rintro e w' ⟨rfl, rfl⟩))
    go_ret
    exact ⟨by simp [okE, h2, h3], al1 _ _⟩)

theorem all_drop {l : List (Int × Int)} {n : Int} {k : Nat} (hk : k < l.length) (h : ∀ x ∈ l.take k, okE n x = true) (hv : okE n l[k] = true) : ∀ x ∈ l.take (k + 1), okE n x = true := by
  intro x hx
  rw [List.take_succ_eq_append_getElem hk, List.mem_append] at hx
  rcases hx with hx | hx
  · exact h x hx
  · rw [List.mem_singleton.1 hx]; exact hv
set_option maxRecDepth 100000 in
theorem idx_any (p : Option Addr) (l : List (Int × Int)) (cap g : Nat) (n : Int) (w : World) (hS : Sl w p l) (hg : w.cell? ⟨g, 0, none⟩ = some (.int .i64 n)) :
    Calls Try.prog 60 #[.slice p l.length cap, .func (.func 48) #[] #[.pointer (some ⟨g, 0, none⟩)]] w fun e w' => ∃ i : Int, e = .returned (.int .i64 i) ∧ decide (0 ≤ i) = !l.all (okE n) ∧ Below w.heap.size w w' := by
  have hm := hS.2.2.1
  unfold maxLen at hm
  go_enter Try.func60, Try.ntmps60
  go_wp2
  go_loopw [8] (fun v wr => ∃ k : Nat, v = .int .i64 k ∧ k ≤ l.length ∧ Hid (∀ x ∈ l.take k, okE n x = true) ∧ Below w.heap.size w wr) (fun v _ => l.length - (intOf v).toNat)
  case atStart => exact ⟨0, rfl, Nat.zero_le _, Lib.hid (by simp), Below.refl _ _⟩
  case round =>
    obtain ⟨k, rfl, hk, hG, hB⟩ := hrel
    by_cases hlt : k < l.length
    · have g1 : decide ((k : Int) < (l.length : Int)) = true := by simp [hlt]
      obtain ⟨a, rfl, c0, c1⟩ := (hS.on hB).at hlt
      have cg := cell_later hB hg
      have W1 : IntKind.i64.wrap ((k : Int) + 1) = ((k + 1 : Nat) : Int) := by rw [IntWalk.i64_in _ (by omega)]; omega
      have hb := fun w h => bad_any l[k].1 l[k].2 n g w h
      cases hv : okE n l[k]
      · have e : l.all (okE n) = false := List.all_eq_false.2 ⟨_, List.getElem_mem hlt, by simp [hv]⟩
        simp only [Prod.eta, hv, Bool.not_false] at hb
        go_wp2_with (go_at_call 48; (with_reducible refine (hb _ cg).mono ?_); rintro e1 w1 ⟨rfl, hb1⟩)
        go_ret
        exact ⟨_, rfl, by rw [e]; simp, belows hB hb1⟩
      · simp only [Prod.eta, hv, Bool.not_true] at hb
        go_wp2_with (go_at_call 48; (with_reducible refine (hb _ cg).mono ?_); rintro e1 w1 ⟨rfl, hb1⟩)
        exact ⟨⟨k + 1, rfl, hlt, Lib.hid (all_drop hlt hG.out hv), belows hB hb1⟩, by simp [intOf]; omega⟩
    · have g1 : decide ((k : Int) < (l.length : Int)) = false := by simp; omega
      go_wp2
      go_ret
      have := hG.out
      rw [List.take_of_length_le (by omega)] at this
      have e : l.all (okE n) = true := List.all_eq_true.2 this
      exact ⟨-1, rfl, by rw [e]; rfl, hB⟩
theorem has_any (p : Option Addr) (l : List (Int × Int)) (cap g : Nat) (n : Int) (w : World) (hS : Sl w p l) (hg : w.cell? ⟨g, 0, none⟩ = some (.int .i64 n)) :
    Calls Try.prog 40 #[.slice p l.length cap, .func (.func 48) #[] #[.pointer (some ⟨g, 0, none⟩)]] w fun e w' => e = .returned (.bool (!l.all (okE n))) ∧ Below w.heap.size w w' := by
  go_enter Try.func40, Try.ntmps40
  go_wp2_with (go_at_call 60; (with_reducible refine (idx_any p l cap g n _ hS hg).mono ?_); rintro e1 w1 ⟨i, rfl, hi, hb1⟩)
  go_ret
  exact ⟨rfl, hb1⟩
/-- Whether a graph is valid. -/
def vG (n : Int) (l : List (Int × Int)) : Bool := decide (0 ≤ n ∧ n ≤ 60 ∧ l.length ≤ 1000) && l.all (okE n)
set_option maxRecDepth 100000 in
theorem valid_any (p : Option Addr) (l : List (Int × Int)) (cap : Nat) (n : Int) (w : World) (hS : Sl w p l) :
    Calls Try.prog 15 #[.int .i64 n, .slice p l.length cap] w fun e w' => e = .returned (.bool (vG n l)) ∧ Below w.heap.size w w' := by
  have C := (Has.new_ w 3 #[.int .i64 n]).read 0
  have hS1 := hS.on (al1 w (.cells #[.int .i64 n] 3))
  by_cases h1 : n < 0
  · go_enter Try.func15, Try.ntmps15
    go_wp2
    go_ret
    exact ⟨by rw [show vG n l = false by simp [vG]; omega]; rfl, al1 _ _⟩
  by_cases h2 : 60 < n
  · go_enter Try.func15, Try.ntmps15
    go_wp2
    go_ret
    exact ⟨by rw [show vG n l = false by simp [vG]; omega]; rfl, al1 _ _⟩
  by_cases h3 : 1000 < l.length
  · have h4 : (1000 : Int) < l.length := by omega
    go_enter Try.func15, Try.ntmps15
    go_wp2
    go_ret
    exact ⟨by rw [show vG n l = false by simp [vG]; omega]; rfl, al1 _ _⟩
  · have h4 : ¬ (1000 : Int) < l.length := by omega
    have e : vG n l = l.all (okE n) := by simp [vG]; intro _; omega
    rw [e]
    go_enter Try.func15, Try.ntmps15
    go_wp2_with (go_at_call 40; (with_reducible refine (has_any p l cap _ n _ hS1 C).mono ?_); rintro e1 w1 ⟨rfl, hb1⟩)
    go_ret
    exact ⟨by simp, belows (al1 _ _) hb1⟩
end Go.Proofs.Yteofbbakegcohaa
