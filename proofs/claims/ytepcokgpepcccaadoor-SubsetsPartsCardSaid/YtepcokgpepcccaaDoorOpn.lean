/- A list of whole numbers as an argument; the library's table as a row lists it. -/
import Derived.Test.YtepcokgpepcccaaDoorAw1
import Derived.Test.YtepcokgpepcccaaDoorCards
import Derived.Test.YtepcokgpepcccaaDoorTie
import Derived.Deep.Slices
import Derived.Deep.Fields
import Derived.ChangeSame
import Derived.WalkKit
import Derived.ProofKit
import Derived.OpenShut
import Derived.HandedShaped
import Derived.Shelf.Vars
import Derived.LaidMore
import Derived.Lay
import Derived.LaidSub
import Derived.SevenTiedAt
import Derived.Stop.Joined
import Derived.Lib.SmallJoins
import Derived.Lib.LaidTab
import Derived.WideKeyArgs
import Derived.LaidLaws
import Derived.ChangeMaps5
namespace Go.Proofs.YtepcokgpepcccaaDoor
open Go.ChangeShapes Go.WideShapes Go.Deep Go.RowKit Go.Joins
set_option linter.unusedVariables false
set_option maxRecDepth 100000

theorem i64_of_wf {n : Int} (h : (Lit.int .i64 n).wf = true) : I64 n := by
  simp [Lit.wf, IntKind.min, IntKind.max, IntKind.bits, IntKind.signed] at h
  unfold I64; omega
theorem cells3 : Tryd.prog.cellsOf 3 = 1 := by kernel_rfl
theorem list_open {H : Type} {enc : TypeId × Value → H} {w : World} {r : Reach} {b0 : Nat} {v : Value} {d : DataW H} {ps : List MemPlace}
    (hv : Value.okWide Tryd.prog w r b0 22 v) (h : DataW.Trod enc Tryd.prog w 0 (fun _ => true) true 22 v d ps) :
    ∃ (p : Option Addr) (l : List Int) (cap : Nat), v = .slice p l.length cap ∧ Rdz w (.slice p l.length cap) l := by
  obtain ⟨a, n, c, rfl⟩ := okWide_slice Tryd.underlying22 hv
  obtain ⟨fuel, hf⟩ := h
  simp only [Value.cells] at hf
  rcases open_slice Tryd.underlying22 hf with ⟨hc, -⟩ | ⟨a', len, cap, m, n', D, Pl, hc, -, hl, hm, hmm, -, hi⟩
  · simp at hc
    obtain ⟨rfl, rfl, rfl⟩ := hc
    exact ⟨none, [], 0, rfl, ⟨none, 0, rfl, fun j hj => absurd hj (Nat.not_lt_zero j)⟩⟩
  · simp at hc
    obtain ⟨rfl, rfl, rfl⟩ := hc
    have hm' : m = c := by simpa using hmm
    subst hm'
    have k : ∀ i, i < n → ∃ x : Int, w.cell? (a'.add i) = some (.int .i64 x) := by
      intro i hin
      obtain ⟨cs', hc, ht⟩ := hi i (by omega)
      rw [cells3] at hc
      obtain ⟨_, hcl, hat⟩ := World.cells?_some hc
      have hv0 : cs'[0]? = some (cs'[0]'(by omega)) := List.getElem?_eq_getElem (by omega)
      have e0 : cs' = [cs'[0]'(by omega)] := by
        cases cs' with
        | nil => simp at hcl
        | cons x t =>
          cases t with
          | nil => rfl
          | cons y r => simp at hcl
      rw [e0] at ht
      obtain ⟨x0, f0, -, w0⟩ := DataW.trod_int Tryd.underlying3 ht
      simp at f0
      have c0 := hat 0 (by omega)
      rw [hv0, f0] at c0
      refine ⟨x0, ?_⟩
      rw [show a'.add i = (a'.add (i * 1)).add 0 by rw [Nat.mul_one]; simp [Addr.add]]
      exact c0
    obtain ⟨F, hF⟩ := choose_lt k
    refine ⟨some a', (List.range n).map F, m, by simp, ⟨some a', m, rfl, fun j hj => ⟨a', rfl, ?_⟩⟩⟩
    have hjn : j < n := by simpa using hj
    have := hF j hjn
    simpa using this
theorem tab_of_laid {W : World} (h : laidMetH Tryd.prog Rows.subsetsSumsRow.laid W) : Tab W := by
  rw [MakeChecks.laidMetH_plain _ _ _ (by kernel_rfl)] at h
  have h2 := h.filter (fun x => x.1 == "math/bits.deBruijn64tab")
  have e : (Rows.subsetsSumsRow.laid.filter fun x => x.1 == "math/bits.deBruijn64tab") = [("math/bits.deBruijn64tab", Lib.tabData .u8 (Lib.deBruijn64tab.map fun (n : Nat) => (n : Int)))] := by kernel_rfl
  rw [e] at h2
  exact Lib.tabIs_of_head (g := 1) (t := 95) (e := 5) (n := 64) (by kernel_rfl) (by kernel_rfl) Tryd.underlying95 Tryd.underlying5 (by kernel_rfl) (by kernel_rfl) h2
end Go.Proofs.YtepcokgpepcccaaDoor
