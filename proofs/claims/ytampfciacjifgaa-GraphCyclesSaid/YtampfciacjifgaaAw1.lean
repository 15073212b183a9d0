/- The example: the walk. -/
import Derived.Test.YtampfciacjifgaaAw0
import Derived.Test.YtampfciacjifgaaCy2
import Derived.Test.YtampfciacjifgaaPth
namespace Go.Proofs.Ytampfciacjifgaa
open Go.ChangeShapes Go.WideShapes Go.ChangeAt Go.RowKit
set_option linter.unusedVariables false
set_option linter.unusedSimpArgs false
def xc : Array Value := #[.int .i64 0, .int .i64 1, .int .i64 1, .int .i64 2, .int .i64 0, .int .i64 2, .int .i64 2, .int .i64 3]
theorem ex_gr (w : World) : Gr (w.alloc (.cells xc 46)) (some ⟨w.heap.size, 0, none⟩) 4 xl := by
  have H := Has.new_ w 46 xc
  refine ⟨?_, by decide, by decide, by decide⟩
  refine ⟨(fun h => by cases h), ?_, by decide, ?_⟩
  · intro a ha i hi
    cases ha
    have hi' : i < 4 := hi
    have : i = 0 ∨ i = 1 ∨ i = 2 ∨ i = 3 := by omega
    rcases this with rfl | rfl | rfl | rfl
    · exact ⟨H.read 0, H.read 1⟩
    · exact ⟨H.read 2, H.read 3⟩
    · exact ⟨H.read 4, H.read 5⟩
    · exact ⟨H.read 6, H.read 7⟩
  · unfold I64; decide
theorem ex_f (p : Option Addr) (W : World) (h : Gr W p 4 xl) : Calls Try.prog 12 #[.int .i64 4, .slice p 4 4] W fun e w' => ∃ v, e = .returned (.tuple #[v, .int .i64 0]) ∧ Own W.heap.size w' v [0, 1, 3] ∧ Below W.heap.size W w' := by
  have k := forest_ok p 4 xl 4 W h
  rw [show inF xl xl.length = [0, 1, 3] from ex_in] at k
  exact k
theorem ex_c (p : Option Addr) (W : World) (h : Gr W p 4 xl) : Calls Try.prog 19 #[.int .i64 4, .slice p 4 4] W fun e w' => ∃ v, e = .returned (.tuple #[v, .int .i64 0]) ∧ Nest W.heap.size w' v [[2, 1, 0]] ∧ Below W.heap.size W w' :=
  (cycles_ok p 4 xl 4 W h).mono fun e w' k => by
    obtain ⟨v, f, ro, he, hF, hN, hb⟩ := k
    rw [ex_cyc hF] at hN
    exact ⟨v, he, hN, hb⟩
theorem ex_b (p : Option Addr) (W : World) (h : Gr W p 4 xl) : Calls Try.prog 25 #[.int .i64 4, .slice p 4 4] W fun e w' => ∃ v, e = .returned (.tuple #[v, .int .i64 0]) ∧ Own W.heap.size w' v [3] ∧ Below W.heap.size W w' := by
  have k := bridges_ok p 4 xl 4 W h
  rw [show brg xl (adj xl (List.range xl.length)) 4 = [3] from ex_brg] at k
  exact k
theorem ex_p (p : Option Addr) (W : World) (h : Gr W p 4 xl) : Calls Try.prog 26 #[.int .i64 4, .slice p 4 4, .int .i64 0, .int .i64 3] W fun e w' => ∃ v, e = .returned (.tuple #[v, .int .i64 0]) ∧ Own W.heap.size w' v [2, 3] ∧ Below W.heap.size W w' :=
  (path_ok p 4 xl 4 0 3 W h (by decide) (by decide)).mono fun e w' k => by
    obtain ⟨f, hS, hb, -, h4⟩ := k
    have g := ex_gp hS
    obtain ⟨v, he, ho⟩ := h4 g.1
    have g2 : gp xl (adj xl (List.range xl.length)) f (f 0).toNat 0 = [2, 3] := g.2
    rw [g2] at ho
    exact ⟨v, he, ho, hb⟩
theorem rdn_on {w w1 : World} {v : Value} {ls : List (List Nat)} (h : Rdn w v ls) (hb : Below w.heap.size w w1) : Rdn w1 v ls := by
  obtain ⟨q, c, rfl, k⟩ := h
  refine ⟨q, c, rfl, fun i hi => ?_⟩
  obtain ⟨g, u, e, cu, ru⟩ := k i hi
  exact ⟨g, u, e, cell_later hb cu, ru.on hb⟩
theorem lit_rd (w : World) (xs : List Nat) (t : TypeId) : Rdl (w.alloc (.cells (ints xs).toArray t)) (.slice (some ⟨w.heap.size, 0, none⟩) xs.length xs.length) xs := by
  have H := Has.new_ w t (ints xs).toArray
  refine ⟨_, _, rfl, fun j hj => ⟨_, rfl, ?_⟩⟩
  rw [H.read j]
  simp [ints, hj]
theorem lit_rdn (w : World) (xs : List Nat) : Rdn ((w.alloc (.cells (ints xs).toArray 3)).alloc (.cells #[.slice (some ⟨w.heap.size, 0, none⟩) xs.length xs.length] 29)) (.slice (some ⟨w.heap.size + 1, 0, none⟩) 1 1) [xs] := by
  have H := Has.new_ (w.alloc (.cells (ints xs).toArray 3)) 29 #[.slice (some ⟨w.heap.size, 0, none⟩) xs.length xs.length]
  have e : (w.alloc (.cells (ints xs).toArray 3)).heap.size = w.heap.size + 1 := by simp
  rw [e] at H
  refine ⟨_, _, rfl, fun j hj => ?_⟩
  have hj0 : j = 0 := by simpa using hj
  subst hj0
  exact ⟨_, _, rfl, H.read 0, Rdl.on (lit_rd w xs 3) (al1 _ _)⟩
end Go.Proofs.Ytampfciacjifgaa
