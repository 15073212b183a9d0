/- Solids, boxes, points as arguments. -/
import Derived.Test.YtkgaahmehmbfjaaOpnL
import Derived.Test.YtkgaahmehmbfjaaTa
namespace Go.Proofs.Ytkgaahmehmbfjaa
open Go.ChangeShapes Go.WideShapes Go.ChangeAt Go.RowKit Go.Deep Go.Joins
set_option linter.unusedVariables false
set_option linter.unusedSimpArgs false

set_option maxRecDepth 100000
theorem boxes_cells {H : Type} {enc : TypeId × Value → H} {w : World} {n0 : Nat} {v : Value} {y : DataW H × List MemPlace}
    (hf : DataW.trod enc Try.prog w 0 (fun _ => true) true n0 22 [v] = some y) :
    ∃ (p : Option Addr) (l : List Bx) (cap : Nat), v = .slice p l.length cap ∧ Sl w p l ∧ l.length ≤ cap ∧ (p = none → cap = 0) := by
  rcases open_slice Try.underlying22 hf with ⟨hc, -⟩ | ⟨a', n, c, m, n', D, Pl, hc, -, hl, hm, hmm, -, hi⟩
  · simp at hc
    subst hc
    exact ⟨none, [], 0, rfl, ⟨fun _ => rfl, fun a h => (by cases h), Nat.zero_le _⟩, Nat.le_refl _, fun _ => rfl⟩
  · simp at hc
    subst hc
    have hm' : m = c := by simpa using hmm
    subst hm'
    have k : ∀ i, i < n → ∃ x : Bx, w.cell? (a'.add (i * 6)) = some (.int .i64 x.a) ∧ w.cell? ⟨(a'.add (i * 6)).block, (a'.add (i * 6)).off + 1, none⟩ = some (.int .i64 x.b) ∧ w.cell? ⟨(a'.add (i * 6)).block, (a'.add (i * 6)).off + 2, none⟩ = some (.int .i64 x.c)
        ∧ w.cell? ⟨(a'.add (i * 6)).block, (a'.add (i * 6)).off + 3, none⟩ = some (.int .i64 x.d) ∧ w.cell? ⟨(a'.add (i * 6)).block, (a'.add (i * 6)).off + 4, none⟩ = some (.int .i64 x.e) ∧ w.cell? ⟨(a'.add (i * 6)).block, (a'.add (i * 6)).off + 5, none⟩ = some (.int .i64 x.f) := by
      intro i hin
      obtain ⟨cs', hc, ht⟩ := hi i (by omega)
      rw [cells25] at hc
      obtain ⟨_, hcl, hat⟩ := World.cells?_some hc
      match cs', hcl with
      | [c0, c1, c2, c3, c4, c5], _ =>
        obtain ⟨x, e, -, -⟩ := obox_cells ht
        rw [e] at hat
        have ad : ∀ j, 0 < j → (⟨(a'.add (i * 6)).block, (a'.add (i * 6)).off + j, none⟩ : Addr) = (a'.add (i * 6)).add j := fun j hj => by
          rw [Addr.add.eq_1 (a'.add (i * 6)) j, if_neg (by omega)]
        refine ⟨x, ?_, ?_, ?_, ?_, ?_, ?_⟩
        · have := hat 0 (by omega)
          rwa [show (a'.add (i * 6)).add 0 = a'.add (i * 6) by simp [Addr.add]] at this
        · rw [ad 1 (by omega)]; exact hat 1 (by omega)
        · rw [ad 2 (by omega)]; exact hat 2 (by omega)
        · rw [ad 3 (by omega)]; exact hat 3 (by omega)
        · rw [ad 4 (by omega)]; exact hat 4 (by omega)
        · rw [ad 5 (by omega)]; exact hat 5 (by omega)
    haveI : Inhabited Bx := ⟨⟨0, 0, 0, 0, 0, 0⟩⟩
    obtain ⟨F, hF⟩ := choose_lt k
    refine ⟨some a', (List.range n).map F, m, by simp, ⟨fun h => (by cases h), fun a h => ?_, (by rw [List.length_map, List.length_range]; omega)⟩, by simp; omega, fun e => by cases e⟩
    cases h
    intro i hil
    have hin : i < n := by simpa using hil
    have := hF i hin
    simpa using this
theorem cells22 : Try.prog.cellsOf 22 = 1 := by kernel_rfl
theorem cells24 : Try.prog.cellsOf 24 = 2 := by kernel_rfl
theorem two_cells {cs : Array Value} (h : cs.size = 2) : ∃ c0 c1, cs = #[c0, c1] := by
  obtain ⟨l⟩ := cs
  match l, h with
  | [c0, c1], _ => exact ⟨c0, c1, rfl⟩
theorem solid_cells {H : Type} {enc : TypeId × Value → H} {w : World} {n0 : Nat} {c0 c1 : Value} {y : DataW H × List MemPlace}
    (hf : DataW.trod enc Try.prog w 0 (fun _ => true) true n0 24 [c0, c1] = some y) :
    ∃ (p q : Option Addr) (l h : List Bx) (c d : Nat), c0 = .slice p l.length c ∧ c1 = .slice q h.length d ∧ (Sl w p l ∧ l.length ≤ c ∧ (p = none → c = 0)) ∧ (Sl w q h ∧ h.length ≤ d ∧ (q = none → d = 0)) := by
  obtain ⟨y0, y1, m, rfl, -, h0, h1⟩ := trod_struct2 Try.underlying24 hf
  rw [cells22] at h0 h1
  simp at h0 h1
  obtain ⟨p, l, c, rfl, hp⟩ := boxes_cells h0
  obtain ⟨q, h, d, rfl, hq⟩ := boxes_cells h1
  exact ⟨p, q, l, h, c, d, rfl, rfl, hp, hq⟩
theorem solid_open {H : Type} {enc : TypeId × Value → H} {w : World} {r : Reach} {b0 : Nat} {v : Value} {d : DataW H} {ps : List MemPlace}
    (hv : Value.okWide Try.prog w r b0 24 v) (h : DataW.Trod enc Try.prog w 0 (fun _ => true) true 24 v d ps) :
    ∃ (p q : Option Addr) (l m : List Bx) (c e : Nat), v = .agg #[.slice p l.length c, .slice q m.length e] ∧ (Sl w p l ∧ l.length ≤ c ∧ (p = none → c = 0)) ∧ (Sl w q m ∧ m.length ≤ e ∧ (q = none → e = 0)) := by
  obtain ⟨cs, rfl, hsz⟩ := okWide_struct Try.underlying24 hv
  obtain ⟨c0, c1, rfl⟩ := two_cells (hsz.trans cells24)
  obtain ⟨fuel, hf⟩ := h
  simp only [Value.cells] at hf
  obtain ⟨p, q, l, m, c, e, rfl, rfl, hp, hq⟩ := solid_cells hf
  exact ⟨p, q, l, m, c, e, rfl, hp, hq⟩
theorem box_open6 {H : Type} {enc : TypeId × Value → H} {w : World} {r : Reach} {b0 : Nat} {v : Value} {d : DataW H} {p : List MemPlace}
    (hv : Value.okWide Try.prog w r b0 30 v) (h : DataW.Trod enc Try.prog w 0 (fun _ => true) true 30 v d p) :
    ∃ x : Bx, v = x.val ∧ d = bxD x ∧ p = [] ∧ x.wf := box_open hv h
theorem three_cells {cs : Array Value} (h : cs.size = 3) : ∃ c0 c1 c2, cs = #[c0, c1, c2] := by
  obtain ⟨l⟩ := cs
  match l, h with
  | [c0, c1, c2], _ => exact ⟨c0, c1, c2, rfl⟩
theorem pt_open3 {H : Type} {enc : TypeId × Value → H} {w : World} {r : Reach} {b0 : Nat} {v : Value} {d : DataW H} {p : List MemPlace}
    (hv : Value.okWide Try.prog w r b0 28 v) (h : DataW.Trod enc Try.prog w 0 (fun _ => true) true 28 v d p) :
    ∃ x y z : Int, v = .agg #[.int .i64 x, .int .i64 y, .int .i64 z] ∧ d = ptD x y z ∧ p = [] ∧ wfI x ∧ wfI y ∧ wfI z := by
  obtain ⟨cs, rfl, hsz⟩ := okWide_struct Try.underlying28 hv
  obtain ⟨c0, c1, c2, rfl⟩ := three_cells (hsz.trans cells23)
  obtain ⟨fuel, hf⟩ := h
  obtain ⟨a, b, c, rfl, rfl, rfl, hy, h1⟩ := point_open (by simpa [Value.cells] using hf)
  simp only [Prod.mk.injEq] at hy
  exact ⟨a, b, c, rfl, hy.1, hy.2, h1⟩
theorem w8 {n : Int} (h : (Lit.int .u8 n).wf = true) : 0 ≤ n ∧ n ≤ 255 := by
  simp [Lit.wf, IntKind.min, IntKind.max, IntKind.bits, IntKind.signed] at h
  omega
theorem w16 {n : Int} (h : (Lit.int .u16 n).wf = true) : 0 ≤ n ∧ n ≤ 65535 := u16_of_wf h
theorem wi16 {n : Int} (h : (Lit.int .i16 n).wf = true) : -32768 ≤ n ∧ n ≤ 32767 := by
  simp [Lit.wf, IntKind.min, IntKind.max, IntKind.bits, IntKind.signed] at h
  omega
theorem box_shut6 {H : Type} {enc : TypeId × Value → H} {w : World} {base : Nat} {sp : Nat → Bool} {held : Bool} {x : Bx} (hw : x.wf) :
    DataW.Trod enc Try.prog w base sp held 30 x.val (bxD x) [] := box_shut w base sp held hw
theorem pt_shut3 {H : Type} {enc : TypeId × Value → H} {w : World} {base : Nat} {sp : Nat → Bool} {held : Bool} {x y z : Int} (wx : wfI x) (wy : wfI y) (wz : wfI z) :
    DataW.Trod enc Try.prog w base sp held 28 (.agg #[.int .i64 x, .int .i64 y, .int .i64 z]) (ptD x y z) [] :=
  ⟨2, by simpa [Value.cells] using point_shut w base sp held wx wy wz⟩
end Go.Proofs.Ytkgaahmehmbfjaa
