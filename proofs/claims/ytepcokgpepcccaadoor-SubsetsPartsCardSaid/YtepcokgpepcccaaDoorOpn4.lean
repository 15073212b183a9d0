/- Lists of lists as an argument. -/
import Derived.Test.YtepcokgpepcccaaDoorOpn2
import Derived.Test.YtepcokgpepcccaaDoorSam
namespace Go.Proofs.YtepcokgpepcccaaDoor
open Go.ChangeShapes Go.WideShapes Go.Deep Go.RowKit Go.Joins
set_option linter.unusedVariables false
set_option maxRecDepth 100000
theorem cells22 : Tryd.prog.cellsOf 22 = 1 := by kernel_rfl
theorem one_of_len {cs : List Value} (h : cs.length = 1) : ∃ v, cs = [v] := by
  cases cs with
  | nil => simp at h
  | cons x t =>
    cases t with
    | nil => exact ⟨x, rfl⟩
    | cons y r => simp at h
theorem ints_at {H : Type} {enc : TypeId × Value → H} {w : World} {fuel : Nat} {cs : List Value} {x : DataW H × List MemPlace}
    (hf : DataW.trod enc Tryd.prog w 0 (fun _ => true) true fuel 22 cs = some x) :
    ∃ (u : Value) (l : List Int), cs = [u] ∧ Rdz w u l := by
  rcases open_slice Tryd.underlying22 hf with ⟨hc, -⟩ | ⟨a', len, cap, m, n', D, Pl, hc, -, hl, hm, hmm, -, hi⟩
  · exact ⟨_, [], hc, ⟨none, 0, rfl, fun j hj => absurd hj (Nat.not_lt_zero j)⟩⟩
  · have hm' : m = cap := by simpa using hmm
    subst hm'
    have k : ∀ i, i < len → ∃ x : Int, w.cell? (a'.add i) = some (.int .i64 x) := by
      intro i hin
      obtain ⟨cs', hc, ht⟩ := hi i (by omega)
      rw [cells3] at hc
      obtain ⟨_, hcl, hat⟩ := World.cells?_some hc
      obtain ⟨y, rfl⟩ := one_of_len hcl
      obtain ⟨x0, f0, -, w0⟩ := DataW.trod_int Tryd.underlying3 ht
      simp at f0
      have c0 := hat 0 (by omega)
      rw [show ([y] : List Value)[0]? = some y from rfl, f0] at c0
      refine ⟨x0, ?_⟩
      rw [show a'.add i = (a'.add (i * 1)).add 0 by rw [Nat.mul_one]; simp [Addr.add]]
      exact c0
    obtain ⟨F, hF⟩ := choose_lt k
    refine ⟨_, (List.range len).map F, hc, ⟨some a', m, by simp, fun j hj => ⟨a', rfl, ?_⟩⟩⟩
    have hjn : j < len := by simpa using hj
    have := hF j hjn
    simpa using this
theorem lists_open {H : Type} {enc : TypeId × Value → H} {w : World} {r : Reach} {b0 : Nat} {v : Value} {d : DataW H} {ps : List MemPlace}
    (hv : Value.okWide Tryd.prog w r b0 39 v) (h : DataW.Trod enc Tryd.prog w 0 (fun _ => true) true 39 v d ps) :
    ∃ (p : Option Addr) (l : List (List Int)) (cap : Nat), v = .slice p l.length cap ∧ Rdzz w (.slice p l.length cap) l := by
  obtain ⟨a, n, c, rfl⟩ := okWide_slice Tryd.underlying39 hv
  obtain ⟨fuel, hf⟩ := h
  simp only [Value.cells] at hf
  rcases open_slice Tryd.underlying39 hf with ⟨hc, -⟩ | ⟨a', len, cap, m, n', D, Pl, hc, -, hl, hm, hmm, -, hi⟩
  · simp at hc
    obtain ⟨rfl, rfl, rfl⟩ := hc
    exact ⟨none, [], 0, rfl, ⟨none, 0, rfl, fun j hj => absurd hj (Nat.not_lt_zero j)⟩⟩
  · simp at hc
    obtain ⟨rfl, rfl, rfl⟩ := hc
    have hm' : m = c := by simpa using hmm
    subst hm'
    have k : ∀ i, i < n → ∃ x : Value × List Int, w.cell? (a'.add i) = some x.1 ∧ Rdz w x.1 x.2 := by
      intro i hin
      obtain ⟨cs', hc, ht⟩ := hi i (by omega)
      rw [cells22] at hc
      obtain ⟨_, hcl, hat⟩ := World.cells?_some hc
      obtain ⟨u, l, rfl, hu⟩ := ints_at ht
      have c0 := hat 0 (by omega)
      rw [show ([u] : List Value)[0]? = some u from rfl] at c0
      refine ⟨(u, l), ?_, hu⟩
      rw [show a'.add i = (a'.add (i * 1)).add 0 by rw [Nat.mul_one]; simp [Addr.add]]
      exact c0
    obtain ⟨F, hF⟩ := choose_lt k
    refine ⟨some a', (List.range n).map fun i => (F i).2, m, by simp, ⟨some a', m, rfl, fun j hj => ⟨a', (F j).1, rfl, ?_, ?_⟩⟩⟩
    · exact (hF j (by simpa using hj)).1
    · have := (hF j (by simpa using hj)).2
      simpa using this
end Go.Proofs.YtepcokgpepcccaaDoor
