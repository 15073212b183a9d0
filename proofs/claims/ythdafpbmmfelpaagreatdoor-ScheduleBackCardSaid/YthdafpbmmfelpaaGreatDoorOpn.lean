/- Bars, numbers and texts as arguments. -/
import Derived.Deep.Slices
import Derived.Deep.Fields
import Derived.ChangeSame
import Derived.OpenShut
import Derived.ShutString
import Derived.WalkKit
import Derived.ProofKit
import Derived.Stop.LaidErr
import Derived.Shelf.Vars
import Derived.Lib.SmallJoins
import Derived.Test.YthdafpbmmfelpaaGreatDoorVl
namespace Go.Proofs.YthdafpbmmfelpaaGreatDoor
open Go.ChangeShapes Go.WideShapes Go.Deep Go.RowKit Go.Joins
set_option linter.unusedVariables false
set_option maxRecDepth 100000
theorem i64_of_wf {n : Int} (h : (Lit.int .i64 n).wf = true) : I64 n := by
  simp [Lit.wf, IntKind.min, IntKind.max, IntKind.bits, IntKind.signed] at h
  unfold I64; omega
theorem u8_of_wf {n : Int} (h : (Lit.int .u8 n).wf = true) : 0 ≤ n ∧ n ≤ 255 := by
  simp [Lit.wf, IntKind.min, IntKind.max, IntKind.bits, IntKind.signed] at h
  omega
theorem u16_of_wf {n : Int} (h : (Lit.int .u16 n).wf = true) : 0 ≤ n ∧ n ≤ 65535 := by
  simp [Lit.wf, IntKind.min, IntKind.max, IntKind.bits, IntKind.signed] at h
  omega
section
variable {H : Type} {enc : TypeId × Value → H} {P : Program} {w : World} {base : Nat} {spare : Nat → Bool} {held : Bool}
theorem trod_struct5 {t : TypeId} {f0 f1 f2 f3 f4 : Field} {fuel : Nat} {cs : List Value} {x : DataW H × List MemPlace} (ht : P.underlying t = some (.struct #[f0, f1, f2, f3, f4])) (h : DataW.trod enc P w base spare held fuel t cs = some x) :
    ∃ y0 y1 y2 y3 y4 n, DataW.trod enc P w base spare held n f0.type ((cs.drop f0.offset).take (P.cellsOf f0.type)) = some y0 ∧
      DataW.trod enc P w base spare held n f1.type ((cs.drop f1.offset).take (P.cellsOf f1.type)) = some y1 ∧ DataW.trod enc P w base spare held n f2.type ((cs.drop f2.offset).take (P.cellsOf f2.type)) = some y2 ∧
      DataW.trod enc P w base spare held n f3.type ((cs.drop f3.offset).take (P.cellsOf f3.type)) = some y3 ∧ DataW.trod enc P w base spare held n f4.type ((cs.drop f4.offset).take (P.cellsOf f4.type)) = some y4 := by
  obtain ⟨xs, n, _, rfl, hl, hlen, hf⟩ := DataW.trod_struct ht h
  match xs, hlen with
  | [y0, y1, y2, y3, y4], _ => exact ⟨y0, y1, y2, y3, y4, n, by simpa using hf 0 f0 rfl, by simpa using hf 1 f1 rfl, by simpa using hf 2 f2 rfl, by simpa using hf 3 f3 rfl, by simpa using hf 4 f4 rfl⟩
end
theorem cells3 : Tryz.prog.cellsOf 3 = 1 := by kernel_rfl
theorem cells9 : Tryz.prog.cellsOf 9 = 1 := by kernel_rfl
theorem cells27 : Tryz.prog.cellsOf 58 = 1 := by kernel_rfl
theorem cells32 : Tryz.prog.cellsOf 60 = 5 := by kernel_rfl
theorem five_cells {cs : Array Value} (h : cs.size = 5) : ∃ c0 c1 c2 c3 c4, cs = #[c0, c1, c2, c3, c4] := by
  obtain ⟨l⟩ := cs
  match l, h with
  | [c0, c1, c2, c3, c4], _ => exact ⟨c0, c1, c2, c3, c4, rfl⟩
theorem list_cells {H : Type} {enc : TypeId × Value → H} {w : World} {fuel : Nat} {c : Value} {y : DataW H × List MemPlace} (hf : DataW.trod enc Tryz.prog w 0 (fun _ => true) true fuel 58 [c] = some y) :
    ∃ (p : Option Addr) (l : List Int) (cap : Nat), c = .slice p l.length cap ∧ Rdz w (.slice p l.length cap) l ∧ l.length ≤ maxLen := by
  rcases open_slice Tryz.underlying58 hf with ⟨hc, -⟩ | ⟨a', len, cap, m, n', D, Pl, hc, -, hl, hm, hmm, -, hi⟩
  · simp at hc
    subst hc
    exact ⟨none, [], 0, rfl, ⟨none, 0, rfl, fun j hj => absurd hj (Nat.not_lt_zero j)⟩, Nat.zero_le _⟩
  · simp at hc
    subst hc
    have hm' : m = cap := by simpa using hmm
    subst hm'
    have k : ∀ i, i < len → ∃ x : Int, w.cell? (a'.add i) = some (.int .i64 x) := by
      intro i hin
      obtain ⟨cs', hc, ht⟩ := hi i (by omega)
      rw [cells3] at hc
      obtain ⟨_, hcl, hat⟩ := World.cells?_some hc
      have hv0 : cs'[0]? = some (cs'[0]'(by omega)) := List.getElem?_eq_getElem (by omega)
      have e0 : cs' = [cs'[0]'(by omega)] := by
        cases cs' with
        | nil => simp at hcl
        | cons x t =>
          cases t with
          | nil => rfl
          | cons y r => simp at hcl
      rw [e0] at ht
      obtain ⟨x0, f0, -, w0⟩ := DataW.trod_int Tryz.underlying3 ht
      simp at f0
      have c0 := hat 0 (by omega)
      rw [hv0, f0] at c0
      refine ⟨x0, ?_⟩
      rw [show a'.add i = (a'.add (i * 1)).add 0 by rw [Nat.mul_one]; simp [Addr.add]]
      exact c0
    obtain ⟨F, hF⟩ := choose_lt k
    refine ⟨some a', (List.range len).map F, m, by simp, ⟨some a', m, rfl, fun j hj => ⟨a', rfl, ?_⟩⟩, by simp; omega⟩
    have hjn : j < len := by simpa using hj
    have := hF j hjn
    simpa using this
theorem bar_open {H : Type} {enc : TypeId × Value → H} {w : World} {r : Reach} {b0 : Nat} {v : Value} {d : DataW H} {ps : List MemPlace}
    (hv : Value.okWide Tryz.prog w r b0 60 v) (h : DataW.Trod enc Tryz.prog w 0 (fun _ => true) true 60 v d ps) :
    ∃ b : Bar, v = b.val ∧ b.Ok w := by
  obtain ⟨cs, rfl, hsz⟩ := okWide_struct Tryz.underlying60 hv
  obtain ⟨c0, c1, c2, c3, c4, rfl⟩ := five_cells (hsz.trans cells32)
  obtain ⟨fuel, hf⟩ := h
  simp only [Value.cells] at hf
  obtain ⟨y0, y1, y2, y3, y4, n, h0, h1, h2, h3, h4⟩ := trod_struct5 Tryz.underlying60 hf
  rw [cells9] at h0
  rw [cells3] at h1 h2 h3
  rw [cells27] at h4
  simp at h0 h1 h2 h3 h4
  obtain ⟨s, e0, -, hs⟩ := DataW.trod_string Tryz.underlying9 h0
  obtain ⟨n1, e1, -, -⟩ := DataW.trod_int Tryz.underlying3 h1
  obtain ⟨n2, e2, -, -⟩ := DataW.trod_int Tryz.underlying3 h2
  obtain ⟨n3, e3, -, -⟩ := DataW.trod_int Tryz.underlying3 h3
  simp at e0 e1 e2 e3
  subst e0 e1 e2 e3
  obtain ⟨p, l, cap, e4, hr, hl⟩ := list_cells h4
  subst e4
  exact ⟨⟨s, n1, n2, n3, p, l, cap⟩, rfl, ⟨hs, hl, hr⟩⟩
end Go.Proofs.YthdafpbmmfelpaaGreatDoor
