/- Lists of runs as arguments. -/
import Derived.Test.YtfkcogocaecodaaZ4
import Derived.Test.YtfkcogocaecodaaZ3
import Derived.Test.YtfkcogocaecodaaRl
import Derived.Deep.Slices
import Derived.Deep.Fields
import Derived.ChangeSame
import Derived.OpenShut
import Derived.ShutString
import Derived.WalkKit
import Derived.ProofKit
import Derived.Shelf.Vars
namespace Go.Proofs.Ytfkcogocaecodaa
open Go.ChangeShapes Go.WideShapes Go.Deep Go.RowKit Go.Joins
set_option linter.unusedVariables false
set_option maxRecDepth 100000
theorem cells30 : Try.prog.cellsOf 30 = 10 := by kernel_rfl
theorem cells24 : Try.prog.cellsOf 24 = 3 := by kernel_rfl
theorem cells28 : Try.prog.cellsOf 28 = 2 := by kernel_rfl
theorem run_cells {H : Type} {enc : TypeId × Value → H} {w : World} {fuel : Nat} {c0 c1 c2 c3 c4 c5 c6 c7 c8 c9 : Value} {x : DataW H × List MemPlace} (hf : DataW.trod enc Try.prog w 0 (fun _ => true) true fuel 30 [c0, c1, c2, c3, c4, c5, c6, c7, c8, c9] = some x) :
    ∃ r : Rn, [c0, c1, c2, c3, c4, c5, c6, c7, c8, c9] = rc r ∧ r.Ok := by
  obtain ⟨y0, y1, y2, y3, y4, n, h0, h1, h2, h3, h4⟩ := trod_struct5 Try.underlying30 hf
  rw [cells9] at h0
  rw [cells28] at h1
  rw [cells24] at h2 h3
  rw [cells3] at h4
  simp at h0 h1 h2 h3 h4
  obtain ⟨s, e0, -, hs⟩ := DataW.trod_string Try.underlying9 h0
  obtain ⟨z0, z1, m, e, -, g0, g1⟩ := trod_struct2 Try.underlying28 h1
  rw [cells3] at g0 g1
  obtain ⟨tx, t0, rfl, wtx⟩ := DataW.trod_int Try.underlying3 g0
  obtain ⟨ty, t1, rfl, wty⟩ := DataW.trod_int Try.underlying3 g1
  obtain ⟨ax, ay, az, a0, a1, a2, -, wa, wb, wc⟩ := Fm.point_open h2
  obtain ⟨sx, sy, sz, s0, s1, s2, -, va, vb, vc⟩ := Fm.point_open h3
  obtain ⟨ct, e4, -, wct⟩ := DataW.trod_int Try.underlying3 h4
  simp at e0 t0 t1 e4
  subst e0 t0 t1 e4 a0 a1 a2 s0 s1 s2
  exact ⟨⟨s, ⟨tx, ty⟩, ⟨ax, ay, az⟩, ⟨sx, sy, sz⟩, ct⟩, rfl, ⟨hs, i64_of_wf wct, ⟨i64_of_wf wa, i64_of_wf wb, i64_of_wf wc⟩, ⟨i64_of_wf va, i64_of_wf vb, i64_of_wf vc⟩, i64_of_wf wtx, i64_of_wf wty⟩⟩
theorem runs_open {H : Type} {enc : TypeId × Value → H} {w : World} {r : Reach} {b0 : Nat} {v : Value} {d : DataW H} {ps : List MemPlace}
    (hv : Value.okWide Try.prog w r b0 22 v) (h : DataW.Trod enc Try.prog w 0 (fun _ => true) true 22 v d ps) :
    ∃ (p : Option Addr) (l : List Rn) (cap : Nat), v = .slice p l.length cap ∧ Slr w p l cap := by
  obtain ⟨a, n, c, rfl⟩ := okWide_slice Try.underlying22 hv
  obtain ⟨fuel, hf⟩ := h
  simp only [Value.cells] at hf
  rcases open_slice Try.underlying22 hf with ⟨hc, -⟩ | ⟨a', len, cap, m, n', D, Pl, hc, -, hl, hm, hmm, -, hi⟩
  · simp at hc
    obtain ⟨rfl, rfl, rfl⟩ := hc
    exact ⟨none, [], 0, rfl, Slr.nil w⟩
  · simp at hc
    obtain ⟨rfl, rfl, rfl⟩ := hc
    have hm' : m = c := by simpa using hmm
    subst hm'
    have k : ∀ i, i < n → ∃ b : Rn, Fr10 w (a'.add (i * 10)) b ∧ b.Ok := by
      intro i hin
      obtain ⟨cs', hc, ht⟩ := hi i (by omega)
      rw [cells30] at hc
      obtain ⟨_, hcl, hat⟩ := World.cells?_some hc
      match cs', hcl with
      | [c0, c1, c2, c3, c4, c5, c6, c7, c8, c9], _ =>
        obtain ⟨b, e, hk⟩ := run_cells ht
        rw [e] at hat
        have ad : ∀ j, 0 < j → (⟨(a'.add (i * 10)).block, (a'.add (i * 10)).off + j, none⟩ : Addr) = (a'.add (i * 10)).add j := fun j hj => by
          rw [Addr.add.eq_1 (a'.add (i * 10)) j, if_neg (by omega)]
        refine ⟨b, ⟨?_, ?_, ?_, ?_, ?_, ?_, ?_, ?_, ?_, ?_⟩, hk⟩
        · have := hat 0 (by show 0 < 10; omega)
          rwa [show (a'.add (i * 10)).add 0 = a'.add (i * 10) by simp [Addr.add]] at this
        · rw [ad 1 (by omega)]; exact hat 1 (by show 1 < 10; omega)
        · rw [ad 2 (by omega)]; exact hat 2 (by show 2 < 10; omega)
        · rw [ad 3 (by omega)]; exact hat 3 (by show 3 < 10; omega)
        · rw [ad 4 (by omega)]; exact hat 4 (by show 4 < 10; omega)
        · rw [ad 5 (by omega)]; exact hat 5 (by show 5 < 10; omega)
        · rw [ad 6 (by omega)]; exact hat 6 (by show 6 < 10; omega)
        · rw [ad 7 (by omega)]; exact hat 7 (by show 7 < 10; omega)
        · rw [ad 8 (by omega)]; exact hat 8 (by show 8 < 10; omega)
        · rw [ad 9 (by omega)]; exact hat 9 (by show 9 < 10; omega)
    haveI : Inhabited Rn := ⟨⟨⟨#[]⟩, ⟨0, 0⟩, ⟨0, 0, 0⟩, ⟨0, 0, 0⟩, 0⟩⟩
    obtain ⟨F, hF⟩ := choose_lt k
    refine ⟨some a', (List.range n).map F, m, by simp, ⟨by simp; omega, by rw [List.length_map, List.length_range]; omega, fun i hil => ⟨a', rfl, ?_⟩, fun b hb => ?_⟩⟩
    · have hin : i < n := by simpa using hil
      have := (hF i hin).1
      simpa using this
    · obtain ⟨i, hi2, rfl⟩ := List.mem_map.1 hb
      exact (hF i (List.mem_range.1 hi2)).2
end Go.Proofs.Ytfkcogocaecodaa
