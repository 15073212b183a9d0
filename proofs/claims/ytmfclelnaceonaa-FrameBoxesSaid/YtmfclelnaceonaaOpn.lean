/- Turns, points, boxes and lists of points as arguments: opened and shut. -/
import Derived.Test.YtmfclelnaceonaaB
import Derived.WalkKit
import Derived.ProofKit
import Derived.OpenShut
import Derived.Lib.SmallJoins
import Derived.Deep.Slices
import Derived.Deep.Fields
import Derived.ChangeSame
namespace Go.Proofs.Ytmfclelnaceonaa
open Go.ChangeShapes Go.WideShapes Go.Deep Go.ChangeAt Go.RowKit Go.Joins
set_option linter.unusedVariables false
set_option maxRecDepth 100000

structure Bx where
  lo : Pt
  hi : Pt
def Bx.val (b : Bx) : Value := .agg #[.int .i64 b.lo.x, .int .i64 b.lo.y, .int .i64 b.lo.z, .int .i64 b.hi.x, .int .i64 b.hi.y, .int .i64 b.hi.z]
theorem cells3 : Try.prog.cellsOf 3 = 1 := by kernel_rfl
theorem cells37 : Try.prog.cellsOf 37 = 3 := by kernel_rfl
theorem cells39 : Try.prog.cellsOf 39 = 6 := by kernel_rfl
def litD {H : Type} (a : Int) : DataW H := .lit (.int .i64 a)
def ptD {H : Type} (a b c : Int) : DataW H := .agg [litD a, litD b, litD c]
def bxD {H : Type} (x : Bx) : DataW H := .agg [ptD x.lo.x x.lo.y x.lo.z, ptD x.hi.x x.hi.y x.hi.z]
def wfI (n : Int) : Prop := (Lit.int .i64 n).wf = true
def Bx.wf (x : Bx) : Prop := (wfI x.lo.x ∧ wfI x.lo.y ∧ wfI x.lo.z) ∧ wfI x.hi.x ∧ wfI x.hi.y ∧ wfI x.hi.z
theorem i64_of_wf {n : Int} (h : (Lit.int .i64 n).wf = true) : I64 n := by
  simp [Lit.wf, IntKind.min, IntKind.max, IntKind.bits, IntKind.signed] at h
  unfold I64; omega
theorem u16_of_wf {n : Int} (h : (Lit.int .u16 n).wf = true) : 0 ≤ n ∧ n ≤ 65535 := by
  simp [Lit.wf, IntKind.min, IntKind.max, IntKind.bits, IntKind.signed] at h
  omega
theorem point_open {H : Type} {enc : TypeId × Value → H} {w : World} {base : Nat} {sp : Nat → Bool} {held : Bool} {n : Nat} {v0 v1 v2 : Value} {y : DataW H × List MemPlace}
    (h : DataW.trod enc Try.prog w base sp held n 37 [v0, v1, v2] = some y) :
    ∃ a b c : Int, v0 = .int .i64 a ∧ v1 = .int .i64 b ∧ v2 = .int .i64 c ∧ y = (ptD a b c, []) ∧ wfI a ∧ wfI b ∧ wfI c := by
  obtain ⟨y0, y1, y2, m, rfl, -, h0, h1, h2⟩ := trod_struct3 Try.underlying37 h
  rw [cells3] at h0 h1 h2
  obtain ⟨a, e0, rfl, wa⟩ := DataW.trod_int Try.underlying3 h0
  obtain ⟨b, e1, rfl, wb⟩ := DataW.trod_int Try.underlying3 h1
  obtain ⟨c, e2, rfl, wc⟩ := DataW.trod_int Try.underlying3 h2
  simp at e0 e1 e2
  subst e0 e1 e2
  exact ⟨a, b, c, rfl, rfl, rfl, rfl, wa, wb, wc⟩
theorem point_shut {H : Type} {enc : TypeId × Value → H} (w : World) (base : Nat) (sp : Nat → Bool) (held : Bool) {a b c : Int} (wa : wfI a) (wb : wfI b) (wc : wfI c) :
    DataW.trod enc Try.prog w base sp held 2 37 [.int .i64 a, .int .i64 b, .int .i64 c] = some (ptD a b c, []) := by
  have k : ∀ {n : Int}, wfI n → DataW.trod enc Try.prog w base sp held 1 3 [.int .i64 n] = some (litD n, []) := fun {n} h => by
    unfold wfI at h; simp [DataW.trod, Try.underlying3, h, litD]
  exact trod_struct3_mk (n := 1) (y0 := (litD a, [])) (y1 := (litD b, [])) (y2 := (litD c, [])) Try.underlying37 (by rw [cells37]; rfl)
    (by rw [cells3]; exact k wa) (by rw [cells3]; exact k wb) (by rw [cells3]; exact k wc)
theorem six_cells {cs : Array Value} (h : cs.size = 6) : ∃ c0 c1 c2 c3 c4 c5, cs = #[c0, c1, c2, c3, c4, c5] := by
  obtain ⟨l⟩ := cs
  match l, h with
  | [c0, c1, c2, c3, c4, c5], _ => exact ⟨c0, c1, c2, c3, c4, c5, rfl⟩
theorem cells23 : Try.prog.cellsOf 23 = 2 := by kernel_rfl
def tnD {H : Type} (x y : Int) : DataW H := .agg [litD x, litD y]
theorem turn_open {H : Type} {enc : TypeId × Value → H} {w : World} {base : Nat} {sp : Nat → Bool} {held : Bool} {r : Reach} {b0 : Nat} {v : Value} {d : DataW H} {p : List MemPlace}
    (hv : Value.okWide Try.prog w r b0 23 v) (h : DataW.Trod enc Try.prog w base sp held 23 v d p) :
    ∃ t : Tn, v = t.val ∧ d = tnD t.x t.y ∧ p = [] ∧ wfI t.x ∧ wfI t.y := by
  obtain ⟨cs, rfl, hsz⟩ := okWide_struct Try.underlying23 hv
  obtain ⟨l⟩ := cs
  match l, hsz.trans cells23 with
  | [v0, v1], _ =>
    obtain ⟨fuel, hf⟩ := h
    simp only [Value.cells] at hf
    obtain ⟨y0, y1, m, e, -, h0, h1⟩ := trod_struct2 Try.underlying23 hf
    rw [cells3] at h0 h1
    obtain ⟨a, e0, rfl, wa⟩ := DataW.trod_int Try.underlying3 h0
    obtain ⟨b, e1, rfl, wb⟩ := DataW.trod_int Try.underlying3 h1
    simp at e0 e1
    subst e0 e1
    simp only [Prod.mk.injEq] at e
    exact ⟨⟨a, b⟩, rfl, e.1, e.2, wa, wb⟩
theorem turn_shut {H : Type} {enc : TypeId × Value → H} (w : World) (base : Nat) (sp : Nat → Bool) (held : Bool) {t : Tn} (wa : wfI t.x) (wb : wfI t.y) :
    DataW.Trod enc Try.prog w base sp held 23 t.val (tnD t.x t.y) [] := by
  have k : ∀ {n : Int}, wfI n → DataW.trod enc Try.prog w base sp held 1 3 [.int .i64 n] = some (litD n, []) := fun {n} h => by
    unfold wfI at h; simp [DataW.trod, Try.underlying3, h, litD]
  have ts := trod_struct2_mk (enc := enc) (w := w) (base := base) (spare := sp) (held := held) (n := 1) (cs := [.int .i64 t.x, .int .i64 t.y]) (y0 := (litD t.x, [])) (y1 := (litD t.y, [])) Try.underlying23 (by rw [cells23]; rfl)
    (by rw [cells3]; exact k wa) (by rw [cells3]; exact k wb)
  exact ⟨2, by simpa [Value.cells, Tn.val, tnD] using ts⟩
theorem pt_open {H : Type} {enc : TypeId × Value → H} {w : World} {base : Nat} {sp : Nat → Bool} {held : Bool} {r : Reach} {b0 : Nat} {v : Value} {d : DataW H} {p : List MemPlace}
    (hv : Value.okWide Try.prog w r b0 37 v) (h : DataW.Trod enc Try.prog w base sp held 37 v d p) :
    ∃ t : Pt, v = t.val ∧ d = ptD t.x t.y t.z ∧ p = [] ∧ wfI t.x ∧ wfI t.y ∧ wfI t.z := by
  obtain ⟨cs, rfl, hsz⟩ := okWide_struct Try.underlying37 hv
  obtain ⟨l⟩ := cs
  match l, hsz.trans cells37 with
  | [v0, v1, v2], _ =>
    obtain ⟨fuel, hf⟩ := h
    simp only [Value.cells] at hf
    obtain ⟨a, b, c, rfl, rfl, rfl, e, wa, wb, wc⟩ := point_open hf
    simp only [Prod.mk.injEq] at e
    exact ⟨⟨a, b, c⟩, rfl, e.1, e.2, wa, wb, wc⟩
theorem pt_shut {H : Type} {enc : TypeId × Value → H} (w : World) (base : Nat) (sp : Nat → Bool) (held : Bool) {t : Pt} (wa : wfI t.x) (wb : wfI t.y) (wc : wfI t.z) :
    DataW.Trod enc Try.prog w base sp held 37 t.val (ptD t.x t.y t.z) [] := ⟨2, by simpa [Value.cells, Pt.val] using point_shut w base sp held wa wb wc⟩
theorem box_open {H : Type} {enc : TypeId × Value → H} {w : World} {base : Nat} {sp : Nat → Bool} {held : Bool} {r : Reach} {b0 : Nat} {v : Value} {d : DataW H} {p : List MemPlace}
    (hv : Value.okWide Try.prog w r b0 39 v) (h : DataW.Trod enc Try.prog w base sp held 39 v d p) :
    ∃ x : Bx, v = x.val ∧ d = bxD x ∧ p = [] ∧ x.wf := by
  obtain ⟨cs, rfl, hsz⟩ := okWide_struct Try.underlying39 hv
  obtain ⟨c0, c1, c2, c3, c4, c5, rfl⟩ := six_cells (hsz.trans cells39)
  obtain ⟨fuel, hf⟩ := h
  simp only [Value.cells] at hf
  obtain ⟨y0, y1, m, e, -, h0, h1⟩ := trod_struct2 Try.underlying39 hf
  rw [cells37] at h0 h1
  obtain ⟨a, b, c, rfl, rfl, rfl, rfl, w0⟩ := point_open h0
  obtain ⟨a', b', c', rfl, rfl, rfl, rfl, w1⟩ := point_open h1
  simp only [Prod.mk.injEq] at e
  exact ⟨⟨⟨a, b, c⟩, ⟨a', b', c'⟩⟩, rfl, e.1, e.2, w0, w1⟩
theorem box_shut {H : Type} {enc : TypeId × Value → H} (w : World) (base : Nat) (sp : Nat → Bool) (held : Bool) {x : Bx} (hw : x.wf) :
    DataW.Trod enc Try.prog w base sp held 39 x.val (bxD x) [] := by
  have ts := trod_struct2_mk (enc := enc) (w := w) (base := base) (spare := sp) (held := held) (n := 2) (cs := [.int .i64 x.lo.x, .int .i64 x.lo.y, .int .i64 x.lo.z, .int .i64 x.hi.x, .int .i64 x.hi.y, .int .i64 x.hi.z]) (y0 := (ptD x.lo.x x.lo.y x.lo.z, [])) (y1 := (ptD x.hi.x x.hi.y x.hi.z, [])) Try.underlying39 (by rw [cells39]; rfl)
    (by rw [cells37]; exact point_shut w base sp held hw.1.1 hw.1.2.1 hw.1.2.2) (by rw [cells37]; exact point_shut w base sp held hw.2.1 hw.2.2.1 hw.2.2.2)
  exact ⟨3, by simpa [Value.cells, Bx.val, bxD] using ts⟩
theorem list_open {H : Type} {enc : TypeId × Value → H} {w : World} {r : Reach} {b0 : Nat} {v : Value} {d : DataW H} {ps : List MemPlace}
    (hv : Value.okWide Try.prog w r b0 49 v) (h : DataW.Trod enc Try.prog w 0 (fun _ => true) true 49 v d ps) :
    ∃ (p : Option Addr) (l : List Pt) (cap : Nat), v = .slice p l.length cap ∧ Sl w p l := by
  obtain ⟨a, n, c, rfl⟩ := okWide_slice Try.underlying49 hv
  obtain ⟨fuel, hf⟩ := h
  simp only [Value.cells] at hf
  rcases open_slice Try.underlying49 hf with ⟨hc, -⟩ | ⟨a', len, cap, m, n', D, Pl, hc, -, hl, hm, hmm, -, hi⟩
  · simp at hc
    obtain ⟨rfl, rfl, rfl⟩ := hc
    exact ⟨none, [], 0, rfl, fun _ => rfl, fun a h => (by cases h), Nat.zero_le _⟩
  · simp at hc
    obtain ⟨rfl, rfl, rfl⟩ := hc
    have hm' : m = c := by simpa using hmm
    subst hm'
    have k : ∀ i, i < n → ∃ x : Pt, w.cell? (a'.add (i * 3)) = some (.int .i64 x.x) ∧ w.cell? ⟨(a'.add (i * 3)).block, (a'.add (i * 3)).off + 1, none⟩ = some (.int .i64 x.y) ∧ w.cell? ⟨(a'.add (i * 3)).block, (a'.add (i * 3)).off + 2, none⟩ = some (.int .i64 x.z) := by
      intro i hin
      obtain ⟨cs', hc, ht⟩ := hi i (by omega)
      rw [cells37] at hc
      obtain ⟨_, hcl, hat⟩ := World.cells?_some hc
      match cs', hcl with
      | [c0, c1, c2], _ =>
        obtain ⟨a, b, c, rfl, rfl, rfl, -⟩ := point_open ht
        have ad : ∀ j, 0 < j → (⟨(a'.add (i * 3)).block, (a'.add (i * 3)).off + j, none⟩ : Addr) = (a'.add (i * 3)).add j := fun j hj => by
          rw [Addr.add.eq_1 (a'.add (i * 3)) j, if_neg (by omega)]
        refine ⟨⟨a, b, c⟩, ?_, ?_, ?_⟩
        · have := hat 0 (by omega)
          rwa [show (a'.add (i * 3)).add 0 = a'.add (i * 3) by simp [Addr.add]] at this
        · rw [ad 1 (by omega)]; exact hat 1 (by omega)
        · rw [ad 2 (by omega)]; exact hat 2 (by omega)
    haveI : Inhabited Pt := ⟨⟨0, 0, 0⟩⟩
    obtain ⟨F, hF⟩ := choose_lt k
    refine ⟨some a', (List.range n).map F, m, by simp, fun h => (by cases h), fun a h => ?_, (by rw [List.length_map, List.length_range]; omega)⟩
    cases h
    intro i hil
    have hin : i < n := by simpa using hil
    have := hF i hin
    simpa using this
end Go.Proofs.Ytmfclelnaceonaa
