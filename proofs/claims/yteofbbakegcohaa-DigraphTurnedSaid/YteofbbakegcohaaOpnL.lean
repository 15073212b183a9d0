/- A list of whole numbers as an argument. -/
import Derived.Test.YteofbbakegcohaaOpn
namespace Go.Proofs.Yteofbbakegcohaa
open Go.ChangeShapes Go.WideShapes Go.Deep Go.RowKit Go.Joins
set_option linter.unusedVariables false
set_option maxRecDepth 100000 in
theorem list_open {H : Type} {enc : TypeId × Value → H} {w : World} {r : Reach} {b0 : Nat} {v : Value} {d : DataW H} {ps : List MemPlace}
    (hv : Value.okWide Try.prog w r b0 23 v) (h : DataW.Trod enc Try.prog w 0 (fun _ => true) true 23 v d ps) :
    ∃ (p : Option Addr) (l : List Int) (cap : Nat), v = .slice p l.length cap ∧ Rdz w (.slice p l.length cap) l := by
  obtain ⟨a, n, c, rfl⟩ := okWide_slice Try.underlying23 hv
  obtain ⟨fuel, hf⟩ := h
  simp only [Value.cells] at hf
  rcases open_slice Try.underlying23 hf with ⟨hc, -⟩ | ⟨a', len, cap, m, n', D, Pl, hc, -, hl, hm, hmm, -, hi⟩
  · simp at hc
    obtain ⟨rfl, rfl, rfl⟩ := hc
    exact ⟨none, [], 0, rfl, ⟨none, 0, rfl, fun j hj => absurd hj (Nat.not_lt_zero j)⟩⟩
  · simp at hc
    obtain ⟨rfl, rfl, rfl⟩ := hc
    have hm' : m = c := by simpa using hmm
    subst hm'
    have k : ∀ i, i < n → ∃ x : Int, w.cell? (a'.add i) = some (.int .i64 x) := by
      intro i hin
      obtain ⟨cs', hc, ht⟩ := hi i (by omega)
      rw [cells3] at hc
      obtain ⟨_, hcl, hat⟩ := World.cells?_some hc
      have hv0 : cs'[0]? = some (cs'[0]'(by omega)) := List.getElem?_eq_getElem (by omega)
      have e0 : cs' = [cs'[0]'(by omega)] := by
        cases cs' with
        | nil => simp at hcl
        | cons x t =>
          cases t with
          | nil => rfl
          | cons y r => simp at hcl
      rw [e0] at ht
      obtain ⟨x0, f0, -, w0⟩ := DataW.trod_int Try.underlying3 ht
      simp at f0
      have c0 := hat 0 (by omega)
      rw [hv0, f0] at c0
      refine ⟨x0, ?_⟩
      rw [show a'.add i = (a'.add (i * 1)).add 0 by rw [Nat.mul_one]; simp [Addr.add]]
      exact c0
    obtain ⟨F, hF⟩ := choose_lt k
    refine ⟨some a', (List.range n).map F, m, by simp, ⟨some a', m, rfl, fun j hj => ⟨a', rfl, ?_⟩⟩⟩
    have hjn : j < n := by simpa using hj
    have := hF j hjn
    simpa using this
end Go.Proofs.Yteofbbakegcohaa
