/- FrameKeeps. -/
import Derived.Test.YtmfclelnaceonaaT
namespace Go.Proofs.Ytmfclelnaceonaa
open Go.ChangeShapes Go.WideShapes Go.ChangeAt Go.RowKit
set_option linter.unusedVariables false
set_option linter.unusedSimpArgs false

theorem Has.at3 {w : World} {g : Nat} {cs : Array Value} (l : List Pt) (h : Has w g 37 cs) (e : cs.toList = pcells l) {k : Nat} (hk : k < l.length) : w.cell? ⟨g, k * 3, none⟩ = some (.int .i64 l[k].x) ∧ w.cell? ⟨g, k * 3 + 1, none⟩ = some (.int .i64 l[k].y) ∧ w.cell? ⟨g, k * 3 + 2, none⟩ = some (.int .i64 l[k].z) := by
  obtain ⟨h0, h1, h2⟩ := pcells_at l k hk
  rw [← e, Array.getElem?_toList] at h0 h1 h2
  exact ⟨by rw [h.read, h0], by rw [h.read, h1], by rw [h.read, h2]⟩
theorem dot_29 (a b c x y z : Int) (h1 : (Pt.mk a b c).bd 4194304) (h2 : (Pt.mk x y z).bd 4194304) (w : World) : Calls Try.prog 29 #[.agg #[.int .i64 a, .int .i64 b, .int .i64 c], .agg #[.int .i64 x, .int .i64 y, .int .i64 z]] w fun e w' => e = .returned (.int .i64 (dt ⟨a, b, c⟩ ⟨x, y, z⟩)) ∧ Below w.heap.size w w' := by
  obtain ⟨ha, hb, hc⟩ := h1
  obtain ⟨hx, hy, hz⟩ := h2
  dsimp only [dt] at *
  have m0 := mulb ha hx
  have m1 := mulb hb hy
  have m2 := mulb hc hz
  have W0 : IntKind.i64.wrap (a * x) = a * x := IntWalk.i64_in _ (by omega)
  have W1 : IntKind.i64.wrap (b * y) = b * y := IntWalk.i64_in _ (by omega)
  have W2 : IntKind.i64.wrap (c * z) = c * z := IntWalk.i64_in _ (by omega)
  have W3 : IntKind.i64.wrap (a * x + b * y) = a * x + b * y := IntWalk.i64_in _ (by omega)
  have W4 : IntKind.i64.wrap (a * x + b * y + c * z) = a * x + b * y + c * z := IntWalk.i64_in _ (by omega)
  clear ha hb hc hx hy hz m0 m1 m2
  go_enter Try.func29, Try.ntmps29
  go_wp2
  go_ret
  exact ⟨rfl, al (al1 w _) _⟩
theorem vol_31 (p0 p1 p2 q0 q1 q2 s0 s1 s2 : Int) (h1 : (Pt.mk p0 p1 p2).bd 1000) (h2 : (Pt.mk q0 q1 q2).bd 1000) (h3 : (Pt.mk s0 s1 s2).bd 1000) (w : World) : Calls Try.prog 31 #[.agg #[.int .i64 p0, .int .i64 p1, .int .i64 p2], .agg #[.int .i64 q0, .int .i64 q1, .int .i64 q2], .agg #[.int .i64 s0, .int .i64 s1, .int .i64 s2]] w fun e w' => e = .returned (.int .i64 (vol ⟨p0, p1, p2⟩ ⟨q0, q1, q2⟩ ⟨s0, s1, s2⟩)) ∧ Below w.heap.size w w' := by
  obtain ⟨hp0, hp1, hp2⟩ := h1
  obtain ⟨hq0, hq1, hq2⟩ := h2
  obtain ⟨hs0, hs1, hs2⟩ := h3
  dsimp only [vol] at *
  have m0a := mulb hq1 hs2
  have m0b := mulb hq2 hs1
  have m0c : -2000000 ≤ q1 * s2 - q2 * s1 ∧ q1 * s2 - q2 * s1 ≤ 2000000 := by omega
  have m0d := mulb hp0 m0c
  have W0a : IntKind.i64.wrap (q1 * s2) = q1 * s2 := IntWalk.i64_in _ (by omega)
  have W0b : IntKind.i64.wrap (q2 * s1) = q2 * s1 := IntWalk.i64_in _ (by omega)
  have W0c : IntKind.i64.wrap (q1 * s2 - q2 * s1) = q1 * s2 - q2 * s1 := IntWalk.i64_in _ (by omega)
  have W0d : IntKind.i64.wrap (p0 * (q1 * s2 - q2 * s1)) = p0 * (q1 * s2 - q2 * s1) := IntWalk.i64_in _ (by omega)
  have m1a := mulb hq2 hs0
  have m1b := mulb hq0 hs2
  have m1c : -2000000 ≤ q2 * s0 - q0 * s2 ∧ q2 * s0 - q0 * s2 ≤ 2000000 := by omega
  have m1d := mulb hp1 m1c
  have W1a : IntKind.i64.wrap (q2 * s0) = q2 * s0 := IntWalk.i64_in _ (by omega)
  have W1b : IntKind.i64.wrap (q0 * s2) = q0 * s2 := IntWalk.i64_in _ (by omega)
  have W1c : IntKind.i64.wrap (q2 * s0 - q0 * s2) = q2 * s0 - q0 * s2 := IntWalk.i64_in _ (by omega)
  have W1d : IntKind.i64.wrap (p1 * (q2 * s0 - q0 * s2)) = p1 * (q2 * s0 - q0 * s2) := IntWalk.i64_in _ (by omega)
  have m2a := mulb hq0 hs1
  have m2b := mulb hq1 hs0
  have m2c : -2000000 ≤ q0 * s1 - q1 * s0 ∧ q0 * s1 - q1 * s0 ≤ 2000000 := by omega
  have m2d := mulb hp2 m2c
  have W2a : IntKind.i64.wrap (q0 * s1) = q0 * s1 := IntWalk.i64_in _ (by omega)
  have W2b : IntKind.i64.wrap (q1 * s0) = q1 * s0 := IntWalk.i64_in _ (by omega)
  have W2c : IntKind.i64.wrap (q0 * s1 - q1 * s0) = q0 * s1 - q1 * s0 := IntWalk.i64_in _ (by omega)
  have W2d : IntKind.i64.wrap (p2 * (q0 * s1 - q1 * s0)) = p2 * (q0 * s1 - q1 * s0) := IntWalk.i64_in _ (by omega)
  have W8 : IntKind.i64.wrap (p0 * (q1 * s2 - q2 * s1) + p1 * (q2 * s0 - q0 * s2)) = p0 * (q1 * s2 - q2 * s1) + p1 * (q2 * s0 - q0 * s2) := IntWalk.i64_in _ (by omega)
  have W9 : IntKind.i64.wrap (p0 * (q1 * s2 - q2 * s1) + p1 * (q2 * s0 - q0 * s2) + p2 * (q0 * s1 - q1 * s0)) = p0 * (q1 * s2 - q2 * s1) + p1 * (q2 * s0 - q0 * s2) + p2 * (q0 * s1 - q1 * s0) := IntWalk.i64_in _ (by omega)
  clear hp0 hp1 hp2 hq0 hq1 hq2 hs0 hs1 hs2 m0a m0b m0c m0d m1a m1b m1c m1d m2a m2b m2c m2d
  go_enter Try.func31, Try.ntmps31
  go_wp2
  go_ret
  exact ⟨rfl, al (al (al1 w _) _) _⟩
theorem mi_bd {p q : Pt} {L : Int} (h : p.bd L) (k : q.bd L) : (mi p q).bd (L + L) := by unfold Pt.bd mi at *; dsimp only; omega
theorem mi_any (p q : Pt) (h : p.bd 1048576) (k : q.bd 1048576) (w : World) : Calls Try.prog 30 #[p.val, q.val] w fun e w' => e = .returned (mi p q).val ∧ Below w.heap.size w w' := by
  have o := bd_ok (mi_bd h k) (by decide)
  exact minus_30 _ _ _ _ _ _ o.1 o.2.1 o.2.2 w
end Go.Proofs.Ytmfclelnaceonaa
