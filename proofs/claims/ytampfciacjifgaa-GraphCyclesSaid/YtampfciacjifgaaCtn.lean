/- Whether a list contains a number; whether lists have one that does. -/
import Derived.Test.YtampfciacjifgaaGp
import Derived.Test.YtampfciacjifgaaShf
namespace Go.Proofs.Ytampfciacjifgaa
open Go.ChangeShapes Go.WideShapes Go.ChangeAt Go.RowKit
set_option linter.unusedVariables false
set_option linter.unusedSimpArgs false

theorem contains_cast (xs : List Nat) (x : Nat) : (xs.map fun (j : Nat) => (j : Int)).contains ((x : Nat) : Int) = xs.contains x := by
  induction xs with
  | nil => rfl
  | cons a t ih =>
    rw [List.map_cons, List.contains_cons, List.contains_cons, ih]
    congr 1
    by_cases h : x = a
    · subst h; rw [beq_self_eq_true, beq_self_eq_true]
    · rw [beq_eq_false_iff_ne.2 h, beq_eq_false_iff_ne.2 (show ((x : Nat) : Int) ≠ ((a : Nat) : Int) by omega)]
theorem contains_any (v : Value) (xs : List Nat) (x : Nat) (w : World) (h : Rdl w v xs) (hx : xs.length ≤ 100000) :
    Calls Try.prog 30 #[v, .int .i64 x] w fun e w' => e = .returned (.bool (xs.contains x)) ∧ w' = w := by
  obtain ⟨q, c, rfl, k⟩ := h
  cases xs with
  | nil => exact Try.slices_Contains_int_empty q c x w
  | cons a t =>
    obtain ⟨g, rfl, -⟩ := k 0 (by simp)
    have hl : ((a :: t).map fun (j : Nat) => (j : Int)).length = (a :: t).length := by simp
    have hc : ∀ j, j < ((a :: t).map fun (j : Nat) => (j : Int)).length → w.cell? ⟨g, 0 + j, none⟩ = some (.int .i64 (((a :: t).map fun (j : Nat) => (j : Int)).getD j 0)) := fun j hj => by
      rw [hl] at hj
      obtain ⟨g', e, hc⟩ := k j hj
      cases e
      rw [Nat.zero_add, hc, List.getD_eq_getElem?_getD, List.getElem?_map, List.getElem?_eq_getElem hj]
      rfl
    refine (Try.slices_Contains_int g 0 (a :: t).length c ((a :: t).map fun (j : Nat) => (j : Int)) x w (by rw [hl]; exact Nat.le_refl _) (by omega) hc).mono ?_
    rintro e w' ⟨rfl, rfl⟩
    rw [List.take_of_length_le (by rw [hl]; exact Nat.le_refl _), contains_cast]
    exact ⟨rfl, rfl⟩
/-- Whether a list has both numbers; whether one of the lists does. -/
def bothIn (a b : Nat) (xs : List Nat) : Bool := xs.contains a && xs.contains b
def anyB (ls : List (List Nat)) (a b : Nat) : Bool := ls.any (bothIn a b)
theorem both_any (u : Value) (xs : List Nat) (a b A B : Nat) (w : World) (h : Rdl w u xs) (hx : xs.length ≤ 100000) (ha : w.cell? ⟨A, 0, none⟩ = some (.int .i64 a)) (hb : w.cell? ⟨B, 0, none⟩ = some (.int .i64 b)) :
    Calls Try.prog 36 #[u, .pointer (some ⟨A, 0, none⟩), .pointer (some ⟨B, 0, none⟩)] w fun e w' => e = .returned (.bool (bothIn a b xs)) ∧ Below w.heap.size w w' := by
  have h1 := contains_any u xs a w h hx
  have h2 := contains_any u xs b w h hx
  have hd : bothIn a b xs = (xs.contains a && xs.contains b) := rfl
  rw [hd]
  clear hd
  cases c1 : xs.contains a
  · rw [c1] at h1
    go_enter Try.func36, Try.ntmps36
    go_wp2_with (go_at_call 30; (with_reducible refine h1.mono ?_); rintro e w1 ⟨rfl, rfl⟩)
    go_ret
    exact ⟨rfl, Below.refl _ _⟩
  · rw [c1] at h1
    go_enter Try.func36, Try.ntmps36
    go_wp2_with (go_at_call 30; first | ((with_reducible refine h1.mono ?_); rintro e w1 ⟨rfl, rfl⟩) | ((with_reducible refine h2.mono ?_); rintro e w1 ⟨rfl, rfl⟩))
    go_ret
    exact ⟨by simp, Below.refl _ _⟩
set_option maxRecDepth 100000 in
theorem idxb_any (v : Value) (ls : List (List Nat)) (a b A B : Nat) (w : World) (hN : Rdn w v ls) (hl : ls.length ≤ 100000) (hx : ∀ x ∈ ls, x.length ≤ 100000) (ha : w.cell? ⟨A, 0, none⟩ = some (.int .i64 a)) (hb : w.cell? ⟨B, 0, none⟩ = some (.int .i64 b)) :
    Calls Try.prog 63 #[v, .func (.func 36) #[] #[.pointer (some ⟨A, 0, none⟩), .pointer (some ⟨B, 0, none⟩)]] w fun e w' => ∃ i : Int, e = .returned (.int .i64 i) ∧ decide (0 ≤ i) = anyB ls a b ∧ Below w.heap.size w w' := by
  obtain ⟨q, c, rfl, hq⟩ := hN
  go_enter Try.func63, Try.ntmps63
  go_wp2
  go_loopw [8] (fun v wr => ∃ k : Nat, v = .int .i64 k ∧ k ≤ ls.length ∧ Hid (∀ x ∈ ls.take k, bothIn a b x = false) ∧ Below w.heap.size w wr) (fun v _ => ls.length - (intOf v).toNat)
  case atStart => exact ⟨0, rfl, Nat.zero_le _, Lib.hid (by simp), Below.refl _ _⟩
  case round =>
    obtain ⟨k, rfl, hk, hG, hB⟩ := hrel
    by_cases hlt : k < ls.length
    · have g1 : decide ((k : Int) < (ls.length : Int)) = true := by simp [hlt]
      obtain ⟨g, u, rfl, cu, hr⟩ := hq k hlt
      have cu := cell_later hB cu
      have hr := hr.on hB
      have ha := cell_later hB ha
      have hb := cell_later hB hb
      have W1 : IntKind.i64.wrap ((k : Int) + 1) = ((k + 1 : Nat) : Int) := by rw [IntWalk.i64_in _ (by omega)]; omega
      have q1 : (0 : Int) ≤ (k : Int) := by omega
      have q2 : (k : Int) < (ls.length : Int) := by omega
      have hf := both_any u ls[k] a b A B wr hr (hx _ (List.getElem_mem hlt)) ha hb
      cases hv : bothIn a b ls[k]
      · rw [hv] at hf
        go_wp2_with (go_at_call 36; (with_reducible refine hf.mono ?_); rintro e1 w1 ⟨rfl, hb1⟩)
        refine ⟨⟨k + 1, rfl, hlt, Lib.hid ?_, belows hB hb1⟩, by simp [intOf]; omega⟩
        intro x hx'
        rw [List.take_succ_eq_append_getElem hlt, List.mem_append] at hx'
        rcases hx' with hx' | hx'
        · exact hG.out x hx'
        · rw [List.mem_singleton.1 hx']; exact hv
      · rw [hv] at hf
        have e : anyB ls a b = true := List.any_eq_true.2 ⟨_, List.getElem_mem hlt, hv⟩
        go_wp2_with (go_at_call 36; (with_reducible refine hf.mono ?_); rintro e1 w1 ⟨rfl, hb1⟩)
        go_ret
        exact ⟨_, rfl, by rw [e]; simp, belows hB hb1⟩
    · have g1 : decide ((k : Int) < (ls.length : Int)) = false := by simp; omega
      go_wp2
      go_ret
      have := hG.out
      rw [List.take_of_length_le (by omega)] at this
      have e : anyB ls a b = false := List.any_eq_false.2 fun x hx => by rw [this x hx]; simp
      exact ⟨-1, rfl, by rw [e]; rfl, hB⟩
theorem anyb_any (v : Value) (ls : List (List Nat)) (a b A B : Nat) (w : World) (hN : Rdn w v ls) (hl : ls.length ≤ 100000) (hx : ∀ x ∈ ls, x.length ≤ 100000) (ha : w.cell? ⟨A, 0, none⟩ = some (.int .i64 a)) (hb : w.cell? ⟨B, 0, none⟩ = some (.int .i64 b)) :
    Calls Try.prog 32 #[v, .func (.func 36) #[] #[.pointer (some ⟨A, 0, none⟩), .pointer (some ⟨B, 0, none⟩)]] w fun e w' => e = .returned (.bool (anyB ls a b)) ∧ Below w.heap.size w w' := by
  go_enter Try.func32, Try.ntmps32
  go_wp2_with (go_at_call 63; (with_reducible refine (idxb_any v ls a b A B _ hN hl hx ha hb).mono ?_); rintro e1 w1 ⟨i, rfl, hi, hb1⟩)
  go_ret
  exact ⟨rfl, hb1⟩
def rg (n : Int) (k : Nat) (v : Bool) : Bool := decide (n ≤ 30 ∧ k ≤ 40) && v
theorem rgt_any (p : Option Addr) (l : List (Int × Int)) (cap : Nat) (n : Int) (w : World) (hS : Sl w p l) :
    Calls Try.prog 29 #[.int .i64 n, .slice p l.length cap] w fun e w' => e = .returned (.bool (rg n l.length (vG n l))) ∧ Below w.heap.size w w' := by
  have hv := rvalid_any p l cap n w hS
  by_cases a1 : n ≤ 30 <;> by_cases a2 : (l.length : Int) ≤ 40
  all_goals (
    go_enter Try.func29, Try.ntmps29
    go_wp2_with (go_at_call 13; (with_reducible refine hv.mono ?_); rintro e w1 ⟨rfl, b1⟩)
    go_ret
    refine ⟨congrArg (fun b => Ending.returned (.bool b)) ?_, by first | exact b1 | exact Below.refl _ _⟩
    unfold rg
    first
    | (rw [decide_eq_true (show n ≤ 30 ∧ l.length ≤ 40 by omega)]; simp)
    | (rw [decide_eq_false (show ¬ (n ≤ 30 ∧ l.length ≤ 40) by omega)]; simp))
end Go.Proofs.Ytampfciacjifgaa
