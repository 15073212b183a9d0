/- DigraphEither: parts, and ContainsFunc with the law's closures. -/
import Derived.Test.YteofbbakegcohaaEi
namespace Go.Proofs.Yteofbbakegcohaa
open Go.ChangeShapes Go.WideShapes Go.ChangeAt Go.RowKit
set_option linter.unusedVariables false
set_option linter.unusedSimpArgs false


set_option maxRecDepth 100000 in
theorem parts_ok (p : Option Addr) (n : Nat) (l : List (Nat × Nat)) (cap : Nat) (w : World) (hG : Gr w p n l) :
    Calls Try.prog 28 #[.int .i64 n, .slice p l.length cap] w fun e w' => ∃ v ls, e = .returned (.tuple #[v, .int .i64 0]) ∧ Nest w.heap.size w' v ls ∧ Pso n (adj l) ls ∧ Below w.heap.size w w' := by
  go_enter Try.func28, Try.ntmps28
  go_wp2_with (first
    | (go_at_call 15; (with_reducible refine (valid_ok cap hG).mono ?_); rintro e w1 ⟨rfl, b1⟩; have hG1 := hG.on b1)
    | (go_at_call 42; (with_reducible refine (graph_gm p n l cap _ hG1).mono ?_); rintro e w2 ⟨rfl, g2, b2⟩)
    | (go_at_call 54; (with_reducible refine (parts_any w1.heap.size n (adj l) _ g2).mono ?_); rintro e w3 ⟨v, ls, rfl, hN3, hp3, hs3, b3⟩))
  refine bodyPost_ret (v := .tuple #[v, .int .i64 0]) (by simp [results, Try.results28, go_sem]) rfl ⟨v, ls, rfl, ?_, ⟨hp3, hs3⟩, belows (belows b1 b2) b3⟩
  obtain ⟨vs, o, I⟩ := hN3
  exact Nest.mono ⟨vs, o, I⟩ (belows b1 b2).size
theorem clo33 (x b : Nat) (u : Value) (part : List Nat) (w : World) (hb : w.cell? ⟨b, 0, none⟩ = some u) (hu : Rdl w u part) (hl : part.length ≤ 100000) :
    Calls Try.prog 33 #[.int .i64 x, .pointer (some ⟨b, 0, none⟩)] w fun e w' => e = .returned (.bool (!part.contains x)) ∧ w = w' := by
  have h := contains_any u part x w hu hl
  cases hv : part.contains x
  all_goals (
    rw [hv] at h
    clear hu
    go_enter Try.func33, Try.ntmps33
    go_wp2_with (go_at_call 34; (with_reducible refine h.mono ?_); rintro e w' ⟨rfl, rfl⟩)
    go_ret
    exact ⟨rfl, rfl⟩)
set_option maxRecDepth 100000 in
theorem idx33 (v : Value) (xs : List Nat) (b : Nat) (u : Value) (part : List Nat) (w : World) (hR : Rdl w v xs) (hx : xs.length ≤ 100000) (hb : w.cell? ⟨b, 0, none⟩ = some u) (hu : Rdl w u part) (hl : part.length ≤ 100000) :
    Calls Try.prog 57 #[v, .func (.func 33) #[] #[.pointer (some ⟨b, 0, none⟩)]] w fun e w' => ∃ i : Int, e = .returned (.int .i64 i) ∧ decide (0 ≤ i) = xs.any (fun x => !part.contains x) ∧ w = w' := by
  have hf := fun x => clo33 x b u part w hb hu hl
  obtain ⟨P, hP⟩ : ∃ P : Nat → Bool, P = fun x => !part.contains x := ⟨_, rfl⟩
  have hf : ∀ x : Nat, Calls Try.prog 33 #[.int .i64 x, .pointer (some ⟨b, 0, none⟩)] w fun e w' => e = .returned (.bool (P x)) ∧ w = w' := fun x => by rw [hP]; exact hf x
  rw [← hP]
  obtain ⟨q, c, rfl, k1⟩ := hR
  have K1 := Lib.hid k1
  clear k1 hP hb hu
  go_enter Try.func57, Try.ntmps57
  go_wp2
  go_loop [8] (fun v => ∃ k : Nat, v = .int .i64 k ∧ k ≤ xs.length ∧ Hid (∀ x ∈ xs.take k, P x = false)) (fun v => xs.length - (intOf v).toNat)
  case atStart => exact ⟨0, rfl, Nat.zero_le _, Lib.hid (by simp)⟩
  case round =>
    obtain ⟨k, rfl, hk, hG⟩ := hrel
    by_cases hlt : k < xs.length
    · have g1 : decide ((k : Int) < (xs.length : Int)) = true := by simp [hlt]
      have W1 : IntKind.i64.wrap ((k : Int) + 1) = ((k + 1 : Nat) : Int) := by rw [IntWalk.i64_in _ (by omega)]; omega
      have q1 : (0 : Int) ≤ (k : Int) := by omega
      have q2 : (k : Int) < (xs.length : Int) := by omega
      obtain ⟨a, rfl, d0⟩ := K1.out k hlt
      have hm : xs[k] ∈ xs := List.getElem_mem hlt
      have HT : Hid (∀ x ∈ xs.take (k + 1), x ∈ xs.take k ∨ x = xs[k]) := Lib.hid fun x hx => by
        rw [List.take_succ_eq_append_getElem hlt, List.mem_append] at hx
        rcases hx with hx | hx
        · exact .inl hx
        · exact .inr (List.mem_singleton.1 hx)
      obtain ⟨y, hyy⟩ : ∃ y, y = xs[k] := ⟨_, rfl⟩
      rw [← hyy] at d0 hm HT
      clear hyy
      have hf := hf y
      cases hv : P y
      · have HG : Hid (∀ x ∈ xs.take (k + 1), P x = false) := Lib.hid fun x hx => by
          rcases HT.out x hx with h | h
          · exact hG.out x h
          · rw [h]; exact hv
        rw [hv] at hf
        clear hv
        go_wp2_with (go_at_call 33; (with_reducible refine hf.mono ?_); rintro e1 w1 ⟨rfl, rfl⟩)
        exact ⟨⟨k + 1, rfl, hlt, HG⟩, by simp [intOf]; omega⟩
      · have HE : Hid (xs.any P = true) := Lib.hid (List.any_eq_true.2 ⟨y, hm, hv⟩)
        rw [hv] at hf
        clear hv
        go_wp2_with (go_at_call 33; (with_reducible refine hf.mono ?_); rintro e1 w1 ⟨rfl, rfl⟩)
        go_ret
        exact ⟨_, rfl, by rw [HE.out]; simp, rfl⟩
    · have g1 : decide ((k : Int) < (xs.length : Int)) = false := by simp; omega
      have HE : Hid (xs.any P = false) := Lib.hid (List.any_eq_false.2 fun x hx => by
        rw [hG.out x (by rw [List.take_of_length_le (by omega)]; exact hx)]; simp)
      go_wp2
      go_ret
      exact ⟨_, rfl, by rw [HE.out]; rfl, rfl⟩
theorem con33 (v : Value) (xs : List Nat) (b : Nat) (u : Value) (part : List Nat) (w : World) (hR : Rdl w v xs) (hx : xs.length ≤ 100000) (hb : w.cell? ⟨b, 0, none⟩ = some u) (hu : Rdl w u part) (hl : part.length ≤ 100000) :
    Calls Try.prog 32 #[v, .func (.func 33) #[] #[.pointer (some ⟨b, 0, none⟩)]] w fun e w' => e = .returned (.bool (xs.any (fun x => !part.contains x))) ∧ w = w' := by
  have h := idx33 v xs b u part w hR hx hb hu hl
  obtain ⟨B, hB⟩ : ∃ B, B = xs.any (fun x => !part.contains x) := ⟨_, rfl⟩
  rw [← hB] at h ⊢
  obtain ⟨q, c, rfl, k1⟩ := hR
  clear hB hb hu k1
  go_enter Try.func32, Try.ntmps32
  go_wp2_with (go_at_call 57; (with_reducible refine h.mono ?_); rintro e w' ⟨i, rfl, hi, rfl⟩)
  go_ret
  exact ⟨rfl, rfl⟩
/-- Whether all of xs are in a part. -/
def wth (xs q : List Nat) : Bool := !xs.any (fun x => !q.contains x)
theorem clo31 (c : Nat) (v u : Value) (xs part : List Nat) (w : World) (hc : w.cell? ⟨c, 0, none⟩ = some v) (hR : Rdl w v xs) (hx : xs.length ≤ 100000) (hu : Rdl w u part) (hl : part.length ≤ 100000) :
    Calls Try.prog 31 #[u, .pointer (some ⟨c, 0, none⟩)] w fun e w' => e = .returned (.bool (wth xs part)) ∧ Below w.heap.size w w' := by
  have b1 := al1 w (.cells #[u] 23)
  have C := Has.new_ w 23 #[u]
  have C0 := C.read 0
  have cc := cell_later b1 hc
  have h := con33 v xs w.heap.size u part (w.alloc (.cells #[u] 23)) (hR.on b1) hx (by simp) (hu.on b1) hl
  have e : wth xs part = !xs.any (fun x => !part.contains x) := rfl
  rw [e]
  obtain ⟨B, hB⟩ : ∃ B, B = xs.any (fun x => !part.contains x) := ⟨_, rfl⟩
  rw [← hB] at h ⊢
  obtain ⟨q, k, rfl, k1⟩ := hR
  obtain ⟨q', k', rfl, k2⟩ := hu
  clear hB hc C e k1 k2
  go_enter Try.func31, Try.ntmps31
  go_wp2_with (go_at_call 32; (with_reducible refine h.mono ?_); rintro e w' ⟨rfl, rfl⟩)
  go_ret
  exact ⟨rfl, b1⟩
set_option maxRecDepth 100000 in
theorem idx31 (B c : Nat) (v z : Value) (xs : List Nat) (ls : List (List Nat)) (w : World) (hN : Nest B w z ls) (hll : ls.length ≤ 100000) (hlq : ∀ q ∈ ls, q.length ≤ 100000) (hc : w.cell? ⟨c, 0, none⟩ = some v) (hR : Rdl w v xs) (hx : xs.length ≤ 100000) :
    Calls Try.prog 56 #[z, .func (.func 31) #[] #[.pointer (some ⟨c, 0, none⟩)]] w fun e w' => ∃ i : Int, e = .returned (.int .i64 i) ∧ decide (0 ≤ i) = ls.any (wth xs) ∧ Below w.heap.size w w' := by
  obtain ⟨pq, pc, rfl, kN⟩ := hN.rd
  have KN := Lib.hid kN
  have HR := Lib.hid hR
  have HL := Lib.hid hlq
  clear kN hN hR hlq
  go_enter Try.func56, Try.ntmps56
  go_wp2
  go_loopw [8] (fun v wr => ∃ k : Nat, v = .int .i64 k ∧ k ≤ ls.length ∧ Hid (∀ q ∈ ls.take k, wth xs q = false) ∧ Below w.heap.size w wr) (fun v _ => ls.length - (intOf v).toNat)
  case atStart => exact ⟨0, rfl, Nat.zero_le _, Lib.hid (by simp), Below.refl _ _⟩
  case round =>
    obtain ⟨k, rfl, hk, hG, hB⟩ := hrel
    by_cases hlt : k < ls.length
    · have g1 : decide ((k : Int) < (ls.length : Int)) = true := by simp [hlt]
      have W1 : IntKind.i64.wrap ((k : Int) + 1) = ((k + 1 : Nat) : Int) := by rw [IntWalk.i64_in _ (by omega)]; omega
      have q1 : (0 : Int) ≤ (k : Int) := by omega
      have q2 : (k : Int) < (ls.length : Int) := by omega
      obtain ⟨g, u, rfl, cu, ru⟩ := KN.out k hlt
      have cu := cell_later hB cu
      have ru := ru.on hB
      have hm : ls[k] ∈ ls := List.getElem_mem hlt
      have hlq := HL.out _ hm
      have HT : Hid (∀ x ∈ ls.take (k + 1), x ∈ ls.take k ∨ x = ls[k]) := Lib.hid fun x hx => by
        rw [List.take_succ_eq_append_getElem hlt, List.mem_append] at hx
        rcases hx with hx | hx
        · exact .inl hx
        · exact .inr (List.mem_singleton.1 hx)
      obtain ⟨q, hq⟩ : ∃ q, q = ls[k] := ⟨_, rfl⟩
      rw [← hq] at ru hm hlq HT
      clear hq
      have hf := clo31 c v u xs q wr (cell_later hB hc) (HR.out.on hB) hx ru hlq
      obtain ⟨qa, qc, rfl, kq⟩ := ru
      clear kq
      cases hv : wth xs q
      · have HG : Hid (∀ q ∈ ls.take (k + 1), wth xs q = false) := Lib.hid fun x hx => by
          rcases HT.out x hx with h | h
          · exact hG.out x h
          · rw [h]; exact hv
        rw [hv] at hf
        clear hv
        go_wp2_with (go_at_call 31; (with_reducible refine hf.mono ?_); rintro e1 w1 ⟨rfl, b1⟩)
        exact ⟨⟨k + 1, rfl, hlt, HG, belows hB b1⟩, by simp [intOf]; omega⟩
      · have HE : Hid (ls.any (wth xs) = true) := Lib.hid (List.any_eq_true.2 ⟨q, hm, hv⟩)
        rw [hv] at hf
        clear hv
        go_wp2_with (go_at_call 31; (with_reducible refine hf.mono ?_); rintro e1 w1 ⟨rfl, b1⟩)
        go_ret
        exact ⟨_, rfl, by rw [HE.out]; simp, belows hB b1⟩
    · have g1 : decide ((k : Int) < (ls.length : Int)) = false := by simp; omega
      have HE : Hid (ls.any (wth xs) = false) := Lib.hid (List.any_eq_false.2 fun x hx => by
        rw [hG.out x (by rw [List.take_of_length_le (by omega)]; exact hx)]; simp)
      go_wp2
      go_ret
      exact ⟨_, rfl, by rw [HE.out]; rfl, hB⟩
theorem con31 (B c : Nat) (v z : Value) (xs : List Nat) (ls : List (List Nat)) (w : World) (hN : Nest B w z ls) (hll : ls.length ≤ 100000) (hlq : ∀ q ∈ ls, q.length ≤ 100000) (hc : w.cell? ⟨c, 0, none⟩ = some v) (hR : Rdl w v xs) (hx : xs.length ≤ 100000) :
    Calls Try.prog 30 #[z, .func (.func 31) #[] #[.pointer (some ⟨c, 0, none⟩)]] w fun e w' => e = .returned (.bool (ls.any (wth xs))) ∧ Below w.heap.size w w' := by
  have h := idx31 B c v z xs ls w hN hll hlq hc hR hx
  obtain ⟨Y, hY⟩ : ∃ Y, Y = ls.any (wth xs) := ⟨_, rfl⟩
  rw [← hY] at h ⊢
  obtain ⟨q, k, rfl, k1⟩ := hN.rd
  clear hY hN k1 hR hlq
  go_enter Try.func30, Try.ntmps30
  go_wp2_with (go_at_call 56; (with_reducible refine h.mono ?_); rintro e w' ⟨i, rfl, hi, hb⟩)
  go_ret
  exact ⟨rfl, hb⟩
end Go.Proofs.Yteofbbakegcohaa
