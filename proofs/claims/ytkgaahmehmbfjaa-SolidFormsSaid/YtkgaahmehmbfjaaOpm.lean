/- Members as arguments. -/
import Derived.Test.YtkgaahmehmbfjaaOps
namespace Go.Proofs.Ytkgaahmehmbfjaa
open Go.ChangeShapes Go.WideShapes Go.ChangeAt Go.RowKit Go.Deep Go.Joins
set_option linter.unusedVariables false
set_option linter.unusedSimpArgs false

set_option maxRecDepth 100000
section
variable {H : Type} {enc : TypeId × Value → H} {P : Program} {w : World} {base : Nat} {spare : Nat → Bool} {held : Bool}
theorem trod_struct5 {t : TypeId} {f0 f1 f2 f3 f4 : Field} {fuel : Nat} {cs : List Value} {x : DataW H × List MemPlace} (ht : P.underlying t = some (.struct #[f0, f1, f2, f3, f4])) (h : DataW.trod enc P w base spare held fuel t cs = some x) :
    ∃ y0 y1 y2 y3 y4 n, DataW.trod enc P w base spare held n f0.type ((cs.drop f0.offset).take (P.cellsOf f0.type)) = some y0 ∧
      DataW.trod enc P w base spare held n f1.type ((cs.drop f1.offset).take (P.cellsOf f1.type)) = some y1 ∧ DataW.trod enc P w base spare held n f2.type ((cs.drop f2.offset).take (P.cellsOf f2.type)) = some y2 ∧
      DataW.trod enc P w base spare held n f3.type ((cs.drop f3.offset).take (P.cellsOf f3.type)) = some y3 ∧ DataW.trod enc P w base spare held n f4.type ((cs.drop f4.offset).take (P.cellsOf f4.type)) = some y4 := by
  obtain ⟨xs, n, _, rfl, hl, hlen, hf⟩ := DataW.trod_struct ht h
  match xs, hlen with
  | [y0, y1, y2, y3, y4], _ => exact ⟨y0, y1, y2, y3, y4, n, by simpa using hf 0 f0 rfl, by simpa using hf 1 f1 rfl, by simpa using hf 2 f2 rfl, by simpa using hf 3 f3 rfl, by simpa using hf 4 f4 rfl⟩
end
theorem cells9m : Try.prog.cellsOf 9 = 1 := by kernel_rfl
theorem cells26 : Try.prog.cellsOf 26 = 6 := by kernel_rfl
theorem member_open {H : Type} {enc : TypeId × Value → H} {w : World} {r : Reach} {b0 : Nat} {v : Value} {d : DataW H} {ps : List MemPlace}
    (hv : Value.okWide Try.prog w r b0 26 v) (h : DataW.Trod enc Try.prog w 0 (fun _ => true) true 26 v d ps) :
    ∃ (p q : Option Addr) (l m : List Bx) (c e : Nat) (nm : ByteArray) (cv ag po : Int), v = .agg #[.string nm, .slice p l.length c, .slice q m.length e, .int .i64 cv, .int .i64 ag, .int .i64 po] ∧ (Sl w p l ∧ l.length ≤ c ∧ (p = none → c = 0)) ∧ (Sl w q m ∧ m.length ≤ e ∧ (q = none → e = 0)) := by
  obtain ⟨cs, rfl, hsz⟩ := okWide_struct Try.underlying26 hv
  obtain ⟨c0, c1, c2, c3, c4, c5, rfl⟩ := six_cells (hsz.trans cells26)
  obtain ⟨fuel, hf⟩ := h
  simp only [Value.cells] at hf
  obtain ⟨y0, y1, y2, y3, y4, n, h0, h1, h2, h3, h4⟩ := trod_struct5 Try.underlying26 hf
  rw [cells9m] at h0
  rw [cells24] at h1
  rw [cells3] at h2 h3 h4
  simp at h0 h1 h2 h3 h4
  obtain ⟨s, e0, -, hs⟩ := DataW.trod_string Try.underlying9 h0
  obtain ⟨n1, e1, -, -⟩ := DataW.trod_int Try.underlying3 h2
  obtain ⟨n2, e2, -, -⟩ := DataW.trod_int Try.underlying3 h3
  obtain ⟨n3, e3, -, -⟩ := DataW.trod_int Try.underlying3 h4
  simp at e0 e1 e2 e3
  subst e0 e1 e2 e3
  obtain ⟨p, q, l, m, c, e, rfl, rfl, hp, hq⟩ := solid_cells h1
  exact ⟨p, q, l, m, c, e, s, n1, n2, n3, rfl, hp, hq⟩
end Go.Proofs.Ytkgaahmehmbfjaa
