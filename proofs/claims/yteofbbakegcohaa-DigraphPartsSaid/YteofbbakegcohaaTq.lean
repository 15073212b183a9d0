/- For DigraphTurned: Parts of no graph, EqualFunc of lists of lists that are the same, rows of pairs of the call's own. -/
import Derived.Test.YteofbbakegcohaaEj
import Derived.Test.YteofbbakegcohaaLawL
namespace Go.Proofs.Yteofbbakegcohaa
open Go.ChangeShapes Go.WideShapes Go.ChangeAt Go.RowKit
set_option linter.unusedVariables false
set_option linter.unusedSimpArgs false

theorem parts_no (p : Option Addr) (n : Int) (l : List (Int × Int)) (cap : Nat) (w : World) (hS : Sl w p l) (h : vG n l = false) :
    Calls Try.prog 28 #[.int .i64 n, .slice p l.length cap] w fun e w' => e = .returned (.tuple #[.slice none 0 0, .int .i64 1]) ∧ Below w.heap.size w w' := by
  have hv := valid_any p l cap n w hS
  rw [h] at hv
  go_enter Try.func28, Try.ntmps28
  go_wp2_with (go_at_call 15; (with_reducible refine hv.mono ?_); rintro e w1 ⟨rfl, b1⟩)
  exact bodyPost_ret (v := .tuple #[.slice none 0 0, .int .i64 1]) (by simp [results, Try.results28, go_sem]) rfl ⟨rfl, b1⟩
/-- A list of lists that can be read. -/
def RdN (w : World) (v : Value) (ls : List (List Nat)) : Prop := ∃ q c, v = .slice q ls.length c ∧ ∀ i (h : i < ls.length), ∃ g u, q = some ⟨g, 0, none⟩ ∧ w.cell? ⟨g, i, none⟩ = some u ∧ Rdl w u ls[i]
theorem RdN.on {w w1 : World} {v : Value} {ls : List (List Nat)} (h : RdN w v ls) (hb : Below w.heap.size w w1) : RdN w1 v ls := by
  obtain ⟨q, c, rfl, k⟩ := h
  refine ⟨q, c, rfl, fun i hi => ?_⟩
  obtain ⟨g, u, e, hc, hr⟩ := k i hi
  exact ⟨g, u, e, cell_later hb hc, hr.on hb⟩
theorem Nest.rdn {B : Nat} {w : World} {v : Value} {ls : List (List Nat)} (h : Nest B w v ls) : RdN w v ls := by
  rcases Nat.eq_zero_or_pos ls.length with h0 | h0
  · obtain ⟨vs, o, I⟩ := h
    obtain ⟨hl, ⟨rfl, h1⟩ | ⟨g, cap, cur, rfl, r⟩⟩ := o
    · exact ⟨none, 0, by rw [h0], fun i hi => by omega⟩
    · exact ⟨_, cap, rfl, fun i hi => by omega⟩
  · obtain ⟨G, cap, vs, u, rfl, -⟩ := Nest.facts h (i := 0) (xs := ls[0]) (List.getElem?_eq_getElem h0)
    refine ⟨_, cap, rfl, fun i hi => ?_⟩
    obtain ⟨G', cap', vs', u', e, -, -, -, -, -, ho, hc, -⟩ := Nest.facts h (i := i) (xs := ls[i]) (List.getElem?_eq_getElem hi)
    cases e
    exact ⟨G, u', rfl, hc, ho.rd⟩
theorem RdN.nil (w : World) : RdN w (.slice none 0 0) [] := ⟨none, 0, rfl, fun i hi => by simp at hi⟩
theorem eq17 (v v' : Value) (xs : List Nat) (w : World) (h1 : Rdl w v xs) (h2 : Rdl w v' xs) (hx : xs.length ≤ 100000) :
    Calls Try.prog 17 #[v, v'] w fun e w' => e = .returned (.bool true) ∧ Below w.heap.size w w' := by
  refine (equal_any v v' xs xs w h1 h2 hx).mono ?_
  rintro e w' ⟨rfl, n, rfl⟩
  exact ⟨by simp, below_drewN (Below.refl _ _) _⟩
set_option maxRecDepth 100000 in
theorem eqf_any (v v' : Value) (ls : List (List Nat)) (w : World) (h1 : RdN w v ls) (h2 : RdN w v' ls) (hl : ls.length ≤ 100000) (hx : ∀ xs ∈ ls, xs.length ≤ 100000) :
    Calls Try.prog 37 #[v, v', .func (.func 17) #[] #[]] w fun e w' => e = .returned (.bool true) ∧ Below w.heap.size w w' := by
  obtain ⟨q, c, rfl, k1⟩ := h1
  obtain ⟨q', c', rfl, k2⟩ := h2
  have K1 := Lib.hid k1
  have K2 := Lib.hid k2
  have HX := Lib.hid hx
  clear k1 k2 hx
  have t1 : ((ls.length : Int) != (ls.length : Int)) = false := by simp
  go_enter Try.func37, Try.ntmps37
  go_wp2
  go_loopw [17] (fun v wr => ∃ k : Nat, v = .int .i64 k ∧ k ≤ ls.length ∧ Below w.heap.size w wr) (fun v _ => ls.length - (intOf v).toNat)
  case atStart => exact ⟨0, rfl, Nat.zero_le _, Below.refl _ _⟩
  case round =>
    obtain ⟨k, rfl, hk, hB⟩ := hrel
    by_cases hlt : k < ls.length
    · have g1 : decide ((k : Int) < (ls.length : Int)) = true := by simp [hlt]
      have W1 : IntKind.i64.wrap ((k : Int) + 1) = ((k + 1 : Nat) : Int) := by rw [IntWalk.i64_in _ (by omega)]; omega
      have q1 : (0 : Int) ≤ (k : Int) := by omega
      have q2 : (k : Int) < (ls.length : Int) := by omega
      obtain ⟨g, u, rfl, c0, r0⟩ := K1.out k hlt
      obtain ⟨g', u', rfl, c1, r1⟩ := K2.out k hlt
      have d0 := cell_later hB c0
      have d1 := cell_later hB c1
      obtain ⟨qa, ca, rfl, -⟩ := id r0
      obtain ⟨qb, cb, rfl, -⟩ := id r1
      have he := eq17 _ _ ls[k] wr (r0.on hB) (r1.on hB) (HX.out _ (List.getElem_mem hlt))
      generalize ls[k] = xs at *
      go_wp2_with (go_at_call 17; (with_reducible refine he.mono ?_); rintro e w1 ⟨rfl, hb1⟩)
      exact ⟨⟨k + 1, rfl, hlt, belows hB hb1⟩, by simp [intOf]; omega⟩
    · have g1 : decide ((k : Int) < (ls.length : Int)) = false := by simp; omega
      go_wp2
      go_ret
      exact ⟨rfl, hB⟩
theorem flat_len2 {α : Type} (f : α → List Value) (s : Nat) (hf : ∀ x, (f x).length = s) : ∀ l : List α, (l.flatMap f).length = l.length * s
  | [] => by simp
  | x :: l => by rw [List.flatMap_cons, List.length_append, hf, flat_len2 f s hf l, List.length_cons, Nat.succ_mul]; omega
theorem flat_at2 {α : Type} (f : α → List Value) (s : Nat) (hf : ∀ x, (f x).length = s) : ∀ (l : List α) (k : Nat) (hk : k < l.length) (j : Nat), j < s → (l.flatMap f)[k * s + j]? = (f l[k])[j]?
  | [], k, hk, _, _ => by simp at hk
  | x :: l, 0, _, j, hj => by
    rw [List.flatMap_cons, List.getElem?_append_left (by rw [hf]; omega)]; simp
  | x :: l, k + 1, hk, j, hj => by
    have h := flat_at2 f s hf l k (by simpa using hk) j hj
    rw [List.flatMap_cons, List.getElem?_append_right (by rw [hf, Nat.succ_mul]; omega), hf, show (k + 1) * s + j - s = k * s + j by rw [Nat.succ_mul]; omega, h]
    simp
def cp (x : Int × Int) : List Value := [.int .i64 x.1, .int .i64 x.2]
theorem cpl (x : Int × Int) : (cp x).length = 2 := rfl
/-- A row of pairs of the call's own. -/
def OwnP (B : Nat) (w : World) (v : Value) (l : List (Int × Int)) : Prop := w.ownsRow B 42 2 v l.length (l.flatMap cp)
theorem OwnP.sl {B : Nat} {w : World} {v : Value} {l : List (Int × Int)} (h : OwnP B w v l) (hl : l.length ≤ 100000) (h6 : ∀ x ∈ l, I64 x.1 ∧ I64 x.2) : ∃ p c, v = .slice p l.length c ∧ Sl w p l := by
  obtain ⟨hl2, ⟨rfl, h0⟩ | ⟨g, cap, cur, rfl, hB, hg, hn, hm, hs, ht⟩⟩ := h
  · have e := List.eq_nil_of_length_eq_zero h0
    exact ⟨none, 0, by rw [h0], fun _ => e, fun a h => (by cases h), by rw [h0]; exact Nat.zero_le _, h6⟩
  · refine ⟨_, cap, rfl, fun e => (by cases e), fun a e => ?_, by unfold maxLen; omega, h6⟩
    cases e
    intro i hi
    have key : ∀ j, j < 2 → w.cell? ⟨g, i * 2 + j, none⟩ = (cp l[i])[j]? := fun j hj => by
      have hlt : i * 2 + j < l.length * 2 := by omega
      rw [cell_of_row w g _ cur 42 (0, 0) hg, ← flat_at2 cp 2 cpl l i hi j hj, ← ht, List.getElem?_take_of_lt hlt, Array.getElem?_toList]
    have ad : (⟨g, 0, none⟩ : Addr).add (i * 2) = ⟨g, i * 2, none⟩ := by unfold Addr.add; split <;> simp_all
    rw [ad]
    exact ⟨key 0 (by omega), key 1 (by omega)⟩
theorem info42 : (Try.prog.info? 42).map (fun i => (i.zero, i.size, i.bytes)) = some (some (.agg #[.int .i64 0, .int .i64 0]), 2, 16) := by kernel_rfl
end Go.Proofs.Yteofbbakegcohaa
