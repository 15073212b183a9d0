/- A list of boxes as an argument. -/
import Derived.Test.YtkgaahmehmbfjaaOpn
import Derived.Deep.Slices
import Derived.Deep.Fields
import Derived.ChangeSame
namespace Go.Proofs.Ytkgaahmehmbfjaa
open Go.ChangeShapes Go.WideShapes Go.Deep Go.RowKit Go.Joins
set_option linter.unusedVariables false
set_option maxRecDepth 100000
theorem list_open {H : Type} {enc : TypeId × Value → H} {w : World} {r : Reach} {b0 : Nat} {v : Value} {d : DataW H} {ps : List MemPlace}
    (hv : Value.okWide Try.prog w r b0 22 v) (h : DataW.Trod enc Try.prog w 0 (fun _ => true) true 22 v d ps) :
    ∃ (p : Option Addr) (l : List Bx) (cap : Nat), v = .slice p l.length cap ∧ Sl w p l ∧ l.length ≤ cap := by
  obtain ⟨a, n, c, rfl⟩ := okWide_slice Try.underlying22 hv
  obtain ⟨fuel, hf⟩ := h
  simp only [Value.cells] at hf
  rcases open_slice Try.underlying22 hf with ⟨hc, -⟩ | ⟨a', len, cap, m, n', D, Pl, hc, -, hl, hm, hmm, -, hi⟩
  · simp at hc
    obtain ⟨rfl, rfl, rfl⟩ := hc
    exact ⟨none, [], 0, rfl, ⟨fun _ => rfl, fun a h => (by cases h), Nat.zero_le _⟩, Nat.le_refl _⟩
  · simp at hc
    obtain ⟨rfl, rfl, rfl⟩ := hc
    have hm' : m = c := by simpa using hmm
    subst hm'
    have k : ∀ i, i < n → ∃ x : Bx, w.cell? (a'.add (i * 6)) = some (.int .i64 x.a) ∧ w.cell? ⟨(a'.add (i * 6)).block, (a'.add (i * 6)).off + 1, none⟩ = some (.int .i64 x.b) ∧ w.cell? ⟨(a'.add (i * 6)).block, (a'.add (i * 6)).off + 2, none⟩ = some (.int .i64 x.c)
        ∧ w.cell? ⟨(a'.add (i * 6)).block, (a'.add (i * 6)).off + 3, none⟩ = some (.int .i64 x.d) ∧ w.cell? ⟨(a'.add (i * 6)).block, (a'.add (i * 6)).off + 4, none⟩ = some (.int .i64 x.e) ∧ w.cell? ⟨(a'.add (i * 6)).block, (a'.add (i * 6)).off + 5, none⟩ = some (.int .i64 x.f) := by
      intro i hin
      obtain ⟨cs', hc, ht⟩ := hi i (by omega)
      rw [cells25] at hc
      obtain ⟨_, hcl, hat⟩ := World.cells?_some hc
      match cs', hcl with
      | [c0, c1, c2, c3, c4, c5], _ =>
        obtain ⟨x, e, -, -⟩ := obox_cells ht
        rw [e] at hat
        have ad : ∀ j, 0 < j → (⟨(a'.add (i * 6)).block, (a'.add (i * 6)).off + j, none⟩ : Addr) = (a'.add (i * 6)).add j := fun j hj => by
          rw [Addr.add.eq_1 (a'.add (i * 6)) j, if_neg (by omega)]
        refine ⟨x, ?_, ?_, ?_, ?_, ?_, ?_⟩
        · have := hat 0 (by omega)
          rwa [show (a'.add (i * 6)).add 0 = a'.add (i * 6) by simp [Addr.add]] at this
        · rw [ad 1 (by omega)]; exact hat 1 (by omega)
        · rw [ad 2 (by omega)]; exact hat 2 (by omega)
        · rw [ad 3 (by omega)]; exact hat 3 (by omega)
        · rw [ad 4 (by omega)]; exact hat 4 (by omega)
        · rw [ad 5 (by omega)]; exact hat 5 (by omega)
    haveI : Inhabited Bx := ⟨⟨0, 0, 0, 0, 0, 0⟩⟩
    obtain ⟨F, hF⟩ := choose_lt k
    refine ⟨some a', (List.range n).map F, m, by simp, ⟨fun h => (by cases h), fun a h => ?_, (by rw [List.length_map, List.length_range]; omega)⟩, by simp; omega⟩
    cases h
    intro i hil
    have hin : i < n := by simpa using hil
    have := hF i hin
    simpa using this
end Go.Proofs.Ytkgaahmehmbfjaa
