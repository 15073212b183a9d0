/- Contracts: the closure that compares two tokens, and slices.EqualFunc with it, on lists of tokens of the same kinds and texts. -/
import Derived.Test.YtkabmmpldanmcaaDoorJo1
import Derived.Test.YtkabmmpldanmcaaDoorJoQ
namespace Go.Proofs.YtkabmmpldanmcaaDoor
open Go.ChangeShapes Go.WideShapes Go.ChangeAt Go.RowKit
set_option linter.unusedVariables false

theorem kt_at {ts ms : List Tok} (h : ms.map kt = ts.map kt) (k : Nat) (hk : k < ts.length) (hk2 : k < ms.length) : ms[k].kind = ts[k].kind ∧ ms[k].text = ts[k].text := by
  have h1 := congrArg (·[k]?) h
  simp [hk, hk2, kt] at h1
  exact h1

theorem equalFunc_same (w : World) (g1 g2 c1 c2 : Nat) (ts ms : List Tok) (h1 : Toks w g1 ts) (h2 : Toks w g2 ms) (l1 : g1 < w.heap.size) (l2 : g2 < w.heap.size) (hm : ms.map kt = ts.map kt) (hl : ts.length ≤ 1000000) :
    Calls Tryd.prog 9 #[.slice (some ⟨g1, 0, none⟩) ts.length c1, .slice (some ⟨g2, 0, none⟩) ms.length c2, .func (.func 10) #[] #[]] w fun e w' => e = .returned (.bool true) ∧ Below w.heap.size w w' := by
  have hlen : ms.length = ts.length := by simpa using congrArg List.length hm
  rw [hlen]
  have H1 := Lib.hid h1; have H2 := Lib.hid h2; have HM := Lib.hid hm; have HL := Lib.hid hlen; clear h1 h2 hm hlen
  go_enter Tryd.func9, Tryd.ntmps9
  go_wp2
  go_loopw [17] (fun i wr => ∃ k : Nat, k ≤ ts.length ∧ i = .int .i64 k ∧ Below w.heap.size w wr) (fun i _ => ts.length - (intOf i).toNat)
  case atStart => exact ⟨0, by omega, rfl, Below.refl _ _⟩
  case round =>
    obtain ⟨k, hk, rfl, hb⟩ := hrel
    by_cases hlt : k < ts.length
    · obtain ⟨a0, a1, a2, a3⟩ := toks_at (toks_below H1.out hb l1) k hlt
      obtain ⟨b0, b1, b2, b3⟩ := toks_at (toks_below H2.out hb l2) k (by rw [HL.out]; exact hlt)
      obtain ⟨e1, e2⟩ := kt_at HM.out k hlt (by rw [HL.out]; exact hlt)
      rw [e1] at b0; rw [e2] at b1
      have x1 : (k : Int) < ts.length := by omega
      have hsz := hb.size
      generalize ts[k] = t at *
      obtain ⟨kd, tx, ln, co⟩ := t
      dsimp only at a0 a1 a2 a3 b0 b1 b2 b3
      have ln2 := b2; have co2 := b3
      generalize (ms[k]'(by rw [HL.out]; exact hlt)).line = ln' at *
      generalize (ms[k]'(by rw [HL.out]; exact hlt)).col = co' at *
      clear e1 e2
      have d0 := fun o => (World.cell?_alloc_lt wr o ⟨g2, k * 4, none⟩ (by show g2 < _; omega)).trans b0
      have d1 := fun o => (World.cell?_alloc_lt wr o ⟨g2, k * 4 + 1, none⟩ (by show g2 < _; omega)).trans b1
      have d2 := fun o => (World.cell?_alloc_lt wr o ⟨g2, k * 4 + 2, none⟩ (by show g2 < _; omega)).trans b2
      have d3 := fun o => (World.cell?_alloc_lt wr o ⟨g2, k * 4 + 3, none⟩ (by show g2 < _; omega)).trans b3
      go_wp2
      refine ⟨⟨k + 1, by omega, by go_num, (((hb.alloc hsz _).alloc (by simp; omega) _).alloc (by simp; omega) _).alloc (by simp; omega) _⟩, ?_⟩
      simp [intOf]; omega
    · go_wp2
      go_ret
      exact ⟨rfl, hb⟩
end Go.Proofs.YtkabmmpldanmcaaDoor
