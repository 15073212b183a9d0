/- Sums. -/
import Derived.Test.YtepcokgpepcccaaDoorSrt
namespace Go.Proofs.YtepcokgpepcccaaDoor
open Go.ChangeShapes Go.WideShapes Go.ChangeAt Go.RowKit
set_option linter.unusedVariables false
set_option linter.unusedSimpArgs false

/-- The sums of all subsets, ascending, each once. -/
def smz (zs : List Int) : List Int := Lib.compact ((sums zs).mergeSort fun x y => decide (x ≤ y))
theorem sums_ok (u : Value) (zs : List Int) (w : World) (hR : Rdz w u zs) (h0 : fau zs = 0) (hl : zs.length ≤ 10) :
    Calls Tryd.prog 11 #[u] w fun e w' => ∃ v, e = .returned (.tuple #[v, .int .i64 0]) ∧ OwnZ w.heap.size w' v (smz zs) ∧ Below w.heap.size w w' := by
  have hf := fault_any u zs w hR
  rw [h0] at hf
  have hz := (fau_zero h0).2
  have hN2 : 2 ^ zs.length ≤ 1024 := Nat.pow_le_pow_right (n := 2) (by omega) hl
  have hs := sumsOf_ex u zs w hR hl hz
  have hSl := sums_len zs
  obtain ⟨N, hN⟩ : ∃ N, 2 ^ zs.length = N := ⟨_, rfl⟩
  rw [hN] at hs hN2 hSl
  obtain ⟨S, hS⟩ : ∃ S, sums zs = S := ⟨_, rfl⟩
  obtain ⟨T, hT⟩ : ∃ T : List Int, (S.mergeSort fun x y => decide (x ≤ y)) = T := ⟨_, rfl⟩
  have hm : smz zs = Lib.compact T := by rw [smz, hS, hT]
  have hTl : T.length = N := by rw [← hT, List.length_mergeSort, ← hS, hSl]
  rw [hS] at hs hSl
  have A := fun g w (h : OwnZ w.heap.size w (.slice (some ⟨g, 0, none⟩) N N) S) => sortz_any
  have B1 := fun B g w (h : OwnZ B w (.slice (some ⟨g, 0, none⟩) N N) S) => sortz_any B g N S w (by rw [hSl]; exact h) (by omega) (by omega)
  have B2 := fun B g w (h : OwnZ B w (.slice (some ⟨g, 0, none⟩) N N) T) => compactz_any B g N T w (by rw [hTl]; exact h) (by omega) (by omega)
  rw [hSl, hT] at B1
  rw [hTl] at B2
  rw [hm]
  have HN := Lib.hid hN
  clear A hN hS hT hm hSl hTl
  go_enter Tryd.func11, Tryd.ntmps11
  go_wp2_with (first
    | (go_at_call 38; (with_reducible refine hf.mono ?_); rintro e1 w1 ⟨rfl, hw⟩; subst w1)
    | (go_at_call 39; (with_reducible refine hs.mono ?_); rintro e2 w2 ⟨g, rfl, hg, hO, hb2⟩)
    | (go_at_call 40; (with_reducible refine (B1 _ _ _ hO).mono ?_); rintro e3 w3 ⟨rfl, hO3, hb3⟩)
    | (go_at_call 30; (with_reducible refine (B2 _ _ _ hO3).mono ?_); rintro e4 w4 ⟨rfl, hO4, hb4⟩))
  exact bodyPost_ret (v := .tuple #[_, .int .i64 0]) (by simp [results, Tryd.results11, go_sem]) rfl ⟨_, rfl, hO4, (hb2.trans hb3).trans hb4⟩
end Go.Proofs.YtepcokgpepcccaaDoor
