/- Edges as an argument. -/
import Derived.Deep.Slices
import Derived.Deep.Fields
import Derived.ChangeSame
import Derived.OpenShut
import Derived.WalkKit
import Derived.ProofKit
import Derived.Lib.SmallJoins
import Derived.Test.YteofbbakegcohaaEd
namespace Go.Proofs.Yteofbbakegcohaa
open Go.ChangeShapes Go.WideShapes Go.Deep Go.RowKit Go.Joins
set_option linter.unusedVariables false
theorem i64_of_wf {n : Int} (h : (Lit.int .i64 n).wf = true) : I64 n := by
  simp [Lit.wf, IntKind.min, IntKind.max, IntKind.bits, IntKind.signed] at h
  unfold I64; omega
theorem cells42 : Try.prog.cellsOf 42 = 2 := by kernel_rfl
theorem cells3 : Try.prog.cellsOf 3 = 1 := by kernel_rfl
set_option maxRecDepth 100000 in
theorem edges_open {H : Type} {enc : TypeId × Value → H} {w : World} {r : Reach} {b0 : Nat} {v : Value} {d : DataW H} {ps : List MemPlace}
    (hv : Value.okWide Try.prog w r b0 22 v) (h : DataW.Trod enc Try.prog w 0 (fun _ => true) true 22 v d ps) :
    ∃ (p : Option Addr) (l : List (Int × Int)) (cap : Nat), v = .slice p l.length cap ∧ Sl w p l := by
  obtain ⟨a, n, c, rfl⟩ := okWide_slice Try.underlying22 hv
  obtain ⟨fuel, hf⟩ := h
  simp only [Value.cells] at hf
  rcases open_slice Try.underlying22 hf with ⟨hc, -⟩ | ⟨a', len, cap, m, n', D, Pl, hc, -, hl, hm, hmm, -, hi⟩
  · simp at hc
    obtain ⟨rfl, rfl, rfl⟩ := hc
    exact ⟨none, [], 0, rfl, ⟨fun _ => rfl, ⟨fun a h => (by cases h), ⟨Nat.zero_le _, fun x hx => (by cases hx)⟩⟩⟩⟩
  · simp at hc
    obtain ⟨rfl, rfl, rfl⟩ := hc
    have hm' : m = c := by simpa using hmm
    subst hm'
    have k : ∀ i, i < n → ∃ x : Int × Int, (w.cell? (a'.add (i * 2)) = some (.int .i64 x.1) ∧ w.cell? ⟨(a'.add (i * 2)).block, (a'.add (i * 2)).off + 1, none⟩ = some (.int .i64 x.2)) ∧ I64 x.1 ∧ I64 x.2 := by
      intro i hin
      obtain ⟨cs', hc, ht⟩ := hi i (by omega)
      rw [cells42] at hc
      obtain ⟨_, hcl, hat⟩ := World.cells?_some hc
      obtain ⟨xs, m', -, -, -, hxl, hx⟩ := DataW.trod_array Try.underlying42 ht
      rw [cells3] at hx
      have t0 := hx 0 (by omega)
      have t1 := hx 1 (by omega)
      have hv0 : cs'[0]? = some (cs'[0]'(by omega)) := List.getElem?_eq_getElem (by omega)
      have hv1 : cs'[1]? = some (cs'[1]'(by omega)) := List.getElem?_eq_getElem (by omega)
      have e0 : (cs'.drop (0 * 1)).take 1 = [cs'[0]'(by omega)] := by
        rw [List.drop_eq_getElem_cons (by omega)]; rfl
      have e1 : (cs'.drop (1 * 1)).take 1 = [cs'[1]'(by omega)] := by
        rw [List.drop_eq_getElem_cons (by omega)]; rfl
      rw [e0, List.getElem?_eq_getElem (show 0 < xs.length by omega)] at t0
      rw [e1, List.getElem?_eq_getElem (show 1 < xs.length by omega)] at t1
      obtain ⟨x0, f0, -, w0⟩ := DataW.trod_int Try.underlying3 t0
      obtain ⟨x1, f1, -, w1⟩ := DataW.trod_int Try.underlying3 t1
      simp at f0 f1
      have c0 := hat 0 (by omega)
      have c1 := hat 1 (by omega)
      rw [hv0, f0] at c0
      rw [hv1, f1] at c1
      refine ⟨(x0, x1), ⟨by rw [show a'.add (i * 2) = (a'.add (i * 2)).add 0 by simp [Addr.add]]; exact c0, ?_⟩, i64_of_wf w0, i64_of_wf w1⟩
      have e : (⟨(a'.add (i * 2)).block, (a'.add (i * 2)).off + 1, none⟩ : Addr) = (a'.add (i * 2)).add 1 := by
        simp [Addr.add]
      rw [e]; exact c1
    obtain ⟨F, hF⟩ := choose_lt k
    refine ⟨some a', (List.range n).map F, m, by simp, ⟨fun h => (by cases h), ⟨fun a h => ?_, ⟨(by rw [List.length_map, List.length_range]; omega), fun x hx => ?_⟩⟩⟩⟩
    · cases h
      intro i hil
      have hin : i < n := by simpa using hil
      have := (hF i hin).1
      simpa using this
    · obtain ⟨i, hin, rfl⟩ := List.mem_map.1 hx
      exact (hF i (by simpa using hin)).2
end Go.Proofs.Yteofbbakegcohaa
