/- A box as an argument: opened and shut. -/
import Derived.Test.YtkgaahmehmbfjaaZ1
import Derived.WalkKit
import Derived.ProofKit
import Derived.OpenShut
import Derived.Lib.SmallJoins
namespace Go.Proofs.Ytkgaahmehmbfjaa
open Go.ChangeShapes Go.WideShapes Go.Deep Go.ChangeAt Go.RowKit Go.Joins
set_option linter.unusedVariables false
set_option maxRecDepth 100000

theorem cells3 : Try.prog.cellsOf 3 = 1 := by kernel_rfl
theorem cells23 : Try.prog.cellsOf 28 = 3 := by kernel_rfl
theorem cells25 : Try.prog.cellsOf 30 = 6 := by kernel_rfl
def litD {H : Type} (a : Int) : DataW H := .lit (.int .i64 a)
def ptD {H : Type} (a b c : Int) : DataW H := .agg [litD a, litD b, litD c]
def bxD {H : Type} (x : Bx) : DataW H := .agg [ptD x.a x.b x.c, ptD x.d x.e x.f]
def wfI (n : Int) : Prop := (Lit.int .i64 n).wf = true
def Bx.wf (x : Bx) : Prop := (wfI x.a ∧ wfI x.b ∧ wfI x.c) ∧ wfI x.d ∧ wfI x.e ∧ wfI x.f
theorem i64_of_wf {n : Int} (h : (Lit.int .i64 n).wf = true) : I64 n := by
  simp [Lit.wf, IntKind.min, IntKind.max, IntKind.bits, IntKind.signed] at h
  unfold I64; omega
theorem u16_of_wf {n : Int} (h : (Lit.int .u16 n).wf = true) : 0 ≤ n ∧ n ≤ 65535 := by
  simp [Lit.wf, IntKind.min, IntKind.max, IntKind.bits, IntKind.signed] at h
  omega
theorem point_open {H : Type} {enc : TypeId × Value → H} {w : World} {base : Nat} {sp : Nat → Bool} {held : Bool} {n : Nat} {v0 v1 v2 : Value} {y : DataW H × List MemPlace}
    (h : DataW.trod enc Try.prog w base sp held n 28 [v0, v1, v2] = some y) :
    ∃ a b c : Int, v0 = .int .i64 a ∧ v1 = .int .i64 b ∧ v2 = .int .i64 c ∧ y = (ptD a b c, []) ∧ wfI a ∧ wfI b ∧ wfI c := by
  obtain ⟨y0, y1, y2, m, rfl, -, h0, h1, h2⟩ := trod_struct3 Try.underlying28 h
  rw [cells3] at h0 h1 h2
  obtain ⟨a, e0, rfl, wa⟩ := DataW.trod_int Try.underlying3 h0
  obtain ⟨b, e1, rfl, wb⟩ := DataW.trod_int Try.underlying3 h1
  obtain ⟨c, e2, rfl, wc⟩ := DataW.trod_int Try.underlying3 h2
  simp at e0 e1 e2
  subst e0 e1 e2
  exact ⟨a, b, c, rfl, rfl, rfl, rfl, wa, wb, wc⟩
theorem point_shut {H : Type} {enc : TypeId × Value → H} (w : World) (base : Nat) (sp : Nat → Bool) (held : Bool) {a b c : Int} (wa : wfI a) (wb : wfI b) (wc : wfI c) :
    DataW.trod enc Try.prog w base sp held 2 28 [.int .i64 a, .int .i64 b, .int .i64 c] = some (ptD a b c, []) := by
  have k : ∀ {n : Int}, wfI n → DataW.trod enc Try.prog w base sp held 1 3 [.int .i64 n] = some (litD n, []) := fun {n} h => by
    unfold wfI at h; simp [DataW.trod, Try.underlying3, h, litD]
  exact trod_struct3_mk (n := 1) (y0 := (litD a, [])) (y1 := (litD b, [])) (y2 := (litD c, [])) Try.underlying28 (by rw [cells23]; rfl)
    (by rw [cells3]; exact k wa) (by rw [cells3]; exact k wb) (by rw [cells3]; exact k wc)
theorem six_cells {cs : Array Value} (h : cs.size = 6) : ∃ c0 c1 c2 c3 c4 c5, cs = #[c0, c1, c2, c3, c4, c5] := by
  obtain ⟨l⟩ := cs
  match l, h with
  | [c0, c1, c2, c3, c4, c5], _ => exact ⟨c0, c1, c2, c3, c4, c5, rfl⟩
theorem obox_cells {H : Type} {enc : TypeId × Value → H} {w : World} {base : Nat} {sp : Nat → Bool} {held : Bool} {n : Nat} {c0 c1 c2 c3 c4 c5 : Value} {y : DataW H × List MemPlace}
    (h : DataW.trod enc Try.prog w base sp held n 30 [c0, c1, c2, c3, c4, c5] = some y) :
    ∃ x : Bx, [c0, c1, c2, c3, c4, c5] = [.int .i64 x.a, .int .i64 x.b, .int .i64 x.c, .int .i64 x.d, .int .i64 x.e, .int .i64 x.f] ∧ y = (bxD x, []) ∧ x.wf := by
  obtain ⟨y0, y1, m, rfl, -, h0, h1⟩ := trod_struct2 Try.underlying30 h
  rw [cells23] at h0 h1
  obtain ⟨a, b, c, rfl, rfl, rfl, rfl, w0⟩ := point_open h0
  obtain ⟨d, e, f, rfl, rfl, rfl, rfl, w1⟩ := point_open h1
  exact ⟨⟨a, b, c, d, e, f⟩, rfl, rfl, w0, w1⟩
theorem box_open {H : Type} {enc : TypeId × Value → H} {w : World} {base : Nat} {sp : Nat → Bool} {held : Bool} {r : Reach} {b0 : Nat} {v : Value} {d : DataW H} {p : List MemPlace}
    (hv : Value.okWide Try.prog w r b0 30 v) (h : DataW.Trod enc Try.prog w base sp held 30 v d p) :
    ∃ x : Bx, v = x.val ∧ d = bxD x ∧ p = [] ∧ x.wf := by
  obtain ⟨cs, rfl, hsz⟩ := okWide_struct Try.underlying30 hv
  obtain ⟨c0, c1, c2, c3, c4, c5, rfl⟩ := six_cells (hsz.trans cells25)
  obtain ⟨fuel, hf⟩ := h
  obtain ⟨x, e, hy, hw⟩ := obox_cells (by simpa [Value.cells] using hf)
  simp only [List.cons.injEq, and_true] at e
  obtain ⟨rfl, rfl, rfl, rfl, rfl, rfl⟩ := e
  simp only [Prod.mk.injEq] at hy
  exact ⟨x, rfl, hy.1, hy.2, hw⟩
theorem box_shut {H : Type} {enc : TypeId × Value → H} (w : World) (base : Nat) (sp : Nat → Bool) (held : Bool) {x : Bx} (hw : x.wf) :
    DataW.Trod enc Try.prog w base sp held 30 x.val (bxD x) [] := by
  have ts := trod_struct2_mk (enc := enc) (w := w) (base := base) (spare := sp) (held := held) (n := 2) (cs := [.int .i64 x.a, .int .i64 x.b, .int .i64 x.c, .int .i64 x.d, .int .i64 x.e, .int .i64 x.f]) (y0 := (ptD x.a x.b x.c, [])) (y1 := (ptD x.d x.e x.f, [])) Try.underlying30 (by rw [cells25]; rfl)
    (by rw [cells23]; exact point_shut w base sp held hw.1.1 hw.1.2.1 hw.1.2.2) (by rw [cells23]; exact point_shut w base sp held hw.2.1 hw.2.2.1 hw.2.2.2)
  exact ⟨3, by simpa [Value.cells, Bx.val, bxD] using ts⟩
end Go.Proofs.Ytkgaahmehmbfjaa
