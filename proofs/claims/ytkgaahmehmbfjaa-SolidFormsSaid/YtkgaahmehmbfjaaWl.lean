/- The example: a wall with a hole. -/
import Derived.Test.YtkgaahmehmbfjaaTj
namespace Go.Proofs.Ytkgaahmehmbfjaa
open Go.ChangeShapes Go.WideShapes Go.ChangeAt Go.RowKit Go.Maps Go.Shelf
set_option linter.unusedVariables false
set_option linter.unusedSimpArgs false

def wB : Bx := ⟨0, 0, 0, 1000, 200, 3000⟩
def wH : Bx := ⟨400, -10, 1000, 600, 210, 2000⟩
theorem w_ok : okS [wB] [wH] = true := by decide
theorem w_pl0 : places [wB] [wH] 0 = [0, 400, 600, 1000] := by
  have s : ([0, 1000, 400, 600] : List Int).mergeSort (fun x y => decide (x ≤ y)) = [0, 400, 600, 1000] := by simp [List.mergeSort, List.MergeSort.Internal.splitInTwo, List.merge]
  have e : pls [wB] 0 ++ pls [wH] 0 = [0, 1000, 400, 600] := by decide
  unfold places srt
  rw [e, s]
  decide
theorem w_pl1 : places [wB] [wH] 1 = [-10, 0, 200, 210] := by
  have s : ([0, 200, -10, 210] : List Int).mergeSort (fun x y => decide (x ≤ y)) = [-10, 0, 200, 210] := by simp [List.mergeSort, List.MergeSort.Internal.splitInTwo, List.merge]
  have e : pls [wB] 1 ++ pls [wH] 1 = [0, 200, -10, 210] := by decide
  unfold places srt
  rw [e, s]
  decide
theorem w_pl2 : places [wB] [wH] 2 = [0, 1000, 2000, 3000] := by
  have s : ([0, 3000, 1000, 2000] : List Int).mergeSort (fun x y => decide (x ≤ y)) = [0, 1000, 2000, 3000] := by simp [List.mergeSort, List.MergeSort.Internal.splitInTwo, List.merge]
  have e : pls [wB] 2 ++ pls [wH] 2 = [0, 3000, 1000, 2000] := by decide
  unfold places srt
  rw [e, s]
  decide
theorem w_vol : volL (parts [wB] [wH]) = 560000000 := by
  unfold parts strs
  rw [w_pl0, w_pl1, w_pl2]
  decide
theorem w_sec : secL (parts [wB] [wH]) 400 = 400000 := by
  unfold parts strs
  rw [w_pl0, w_pl1, w_pl2]
  decide
theorem w_in : inS [wB] [wH] (ptX 400 100 1500) = true := by decide
theorem w_out : inS [wB] [wH] (ptX 401 100 1500) = false := by decide
theorem w_volR : volR [wB] [wH] = .tuple #[.int .i64 560000000, .int .i64 0] := by rw [volR_ok (by rw [w_vol]; decide), w_vol]
set_option maxHeartbeats 4000000 in
set_option maxRecDepth 100000 in
theorem cube_any (a b c d e f : Int) (w : World) : Calls Try.prog 68 #[.int .i64 a, .int .i64 b, .int .i64 c, .int .i64 d, .int .i64 e, .int .i64 f] w fun E w' => E = .returned (.agg #[.int .i64 a, .int .i64 b, .int .i64 c, .int .i64 d, .int .i64 e, .int .i64 f]) ∧ Below w.heap.size w w' := by
  go_enter Try.func68, Try.ntmps68
  go_wp2
  refine bodyPost_ret (v := .agg #[.int .i64 a, .int .i64 b, .int .i64 c, .int .i64 d, .int .i64 e, .int .i64 f]) (by simp [results, Try.results68, go_sem]) rfl ⟨rfl, ?_⟩
  with_reducible exact al1 w _
theorem sl_one {w : World} {g : Nat} {x : Bx} (h : Has w g 30 #[.int .i64 x.a, .int .i64 x.b, .int .i64 x.c, .int .i64 x.d, .int .i64 x.e, .int .i64 x.f]) : Sl w (some ⟨g, 0, none⟩) [x] := by
  refine ⟨by simp, fun a e => ?_, by simp [maxLen]⟩
  cases e
  intro i hi
  have : i = 0 := by simp at hi; omega
  subst this
  exact ⟨h.read 0, h.read 1, h.read 2, h.read 3, h.read 4, h.read 5⟩
set_option maxHeartbeats 4000000 in
set_option maxRecDepth 100000 in
theorem wall_any (w : World) : Calls Try.prog 43 #[] w fun e w' => ∃ g1 g2, e = .returned (sv (some ⟨g1, 0, none⟩) (some ⟨g2, 0, none⟩) [wB] [wH] 1 1) ∧ Sl w' (some ⟨g1, 0, none⟩) [wB] ∧ Sl w' (some ⟨g2, 0, none⟩) [wH] ∧ Below w.heap.size w w' := by
  have c1 := fun W => cube_any 0 0 0 1000 200 3000 W
  have c2 := fun W => cube_any 400 (-10) 1000 600 210 2000 W
  have E := (Env.nil w).add w.heap.size 24 #[.slice none 0 0, .slice none 0 0] rfl
  have C := E.cells
  simp [BC, CF] at C
  go_enter Try.func43, Try.ntmps43
  go_wp2_with (first
    | (go_at_call 68; (with_reducible refine (c1 _).mono ?_); rintro X w1 ⟨rfl, hb⟩; replace E := E.on hb; replace C := E.cells; simp [BC, CF] at C; clear hb)
    | (go_at_call 68; (with_reducible refine (c2 _).mono ?_); rintro X w2 ⟨rfl, hb⟩; replace E := (E.add w1.heap.size 30 #[.int .i64 0, .int .i64 0, .int .i64 0, .int .i64 1000, .int .i64 200, .int .i64 3000] rfl).on hb; replace C := E.cells; simp [BC, CF] at C; clear hb))
  have E2 := ((E.put 1 0 (.slice (some ⟨w1.heap.size, 0, none⟩) 1 1) rfl).put 1 1 (.slice (some ⟨w2.heap.size, 0, none⟩) 1 1) rfl).add w2.heap.size 30 #[.int .i64 400, .int .i64 (-10), .int .i64 1000, .int .i64 600, .int .i64 210, .int .i64 2000] (by simp [World.setCell])
  have C2 := E2.cells
  simp [BC, CF, setB, numB] at C2
  refine bodyPost_ret (v := sv (some ⟨w1.heap.size, 0, none⟩) (some ⟨w2.heap.size, 0, none⟩) [wB] [wH] 1 1) (by simp [results, Try.results43, go_sem, C2]) rfl ⟨_, _, rfl, sl_one (x := wB) E2.2.2.2.2.2.1, sl_one (x := wH) E2.2.2.1, E2.1⟩
end Go.Proofs.Ytkgaahmehmbfjaa
