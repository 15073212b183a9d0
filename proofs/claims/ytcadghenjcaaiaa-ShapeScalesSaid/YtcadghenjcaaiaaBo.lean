/- boxOf. -/
import Derived.Test.YtcadghenjcaaiaaVa
namespace Go.Proofs.Ytcadghenjcaaiaa
open Go.ChangeShapes Go.WideShapes Go.ChangeAt Go.RowKit
set_option linter.unusedVariables false
set_option linter.unusedSimpArgs false

def C2 (a b : Int) : Array Value := #[.int .i64 a, .int .i64 b]
def B6 (i : Nat) (a b c d e f : Int) : Array Value := #[.int .i64 (if 0 < i then a else 0), .int .i64 (if 1 < i then b else 0), .int .i64 (if 2 < i then c else 0), .int .i64 (if 0 < i then d else 0), .int .i64 (if 1 < i then e else 0), .int .i64 (if 2 < i then f else 0)]
def Lbo (n m i : Nat) (a b c d e f : Int) : List Fb := [⟨m + 1, 90, P6 (n + 1 + 1) 3⟩, ⟨m, 90, P6 (n + 1 + 1) 0⟩, ⟨n + 1 + 1, 42, B6 i a b c d e f⟩, ⟨n + 1, 42, C6 0 0 0 0 0 0⟩, ⟨n, 83, C6 a d b e c f⟩]
set_option maxHeartbeats 4000000 in
set_option maxRecDepth 100000 in
theorem boxOf_any (a b c d e f : Int) (w : World) :
    Calls Try.prog 57 #[.agg #[.int .i64 a, .int .i64 d, .int .i64 b, .int .i64 e, .int .i64 c, .int .i64 f]] w fun E w' => E = .returned (.agg #[.int .i64 a, .int .i64 b, .int .i64 c, .int .i64 d, .int .i64 e, .int .i64 f]) ∧ Below w.heap.size w w' := by
  have E := (((Env.nil w).add w.heap.size 83 (C6 a d b e c f) rfl).add (w.heap.size + 1) 42 (C6 0 0 0 0 0 0) (by simp)).add (w.heap.size + 1 + 1) 42 (C6 0 0 0 0 0 0) (by simp)
  go_enter Try.func57, Try.ntmps57
  go_wp2_with (go_at_call 65; refine (coord_any _ _ _).mono ?_; rintro E w1 ⟨rfl, hb1⟩; replace E := E.on hb1; clear hb1; have C := E.cells; simp [BC, CF, C6, P6] at C)
  clear C
  obtain ⟨W, hW⟩ : ∃ W, W = w1 := ⟨_, rfl⟩
  subst w1
  have L : w.heap.size + 1 + 1 < W.heap.size := E.lt 0 (Nat.zero_lt_succ _)
  have d1 : ¬ W.heap.size = w.heap.size + 1 + 1 := by omega
  have d2 : ¬ W.heap.size = w.heap.size + 1 := by omega
  have d3 : ¬ w.heap.size + 1 + 1 = W.heap.size := by omega
  have d4 : ¬ w.heap.size + 1 = W.heap.size := by omega
  replace E := (E.add W.heap.size 90 (P6 (w.heap.size + 1 + 1) 0) rfl).add (W.heap.size + 1) 90 (P6 (w.heap.size + 1 + 1) 3) (by simp)
  go_loopw [13] (fun v wr => ∃ i : Nat, v = .int .i64 (i : Int) ∧ i ≤ 3 ∧ Env w wr (Lbo w.heap.size W.heap.size i a b c d e f)) (fun v _ => 3 - (intOf v).toNat)
  case atStart => exact ⟨0, rfl, by omega, E⟩
  case round =>
    clear E
    obtain ⟨i, rfl, hi, E⟩ := hrel
    rcases (by omega : i = 0 ∨ i = 1 ∨ i = 2 ∨ i = 3) with rfl | rfl | rfl | rfl
    · have C := E.cells
      simp [BC, CF, Lbo, C6, P6, B6, S6] at C
      have ix := fun W => six0 a d b e c f W
      go_wp2
      go_region_law (fail)
      all_goals go_wp2
      all_goals go_roundw
      all_goals first | (exact ⟨1, rfl, by omega, (((E.add _ 76 (C2 a d) rfl).put 3 0 _ rfl).put 3 3 _ rfl).tail.drw⟩) | (exact ⟨1, rfl, by omega, ((E.put 2 0 _ rfl).put 2 3 _ rfl).drw.more _⟩) | (exact ⟨1, rfl, by omega, ((E.put 2 0 _ rfl).put 2 3 _ rfl).more _⟩) | (simp [intOf])
    · have C := E.cells
      simp [BC, CF, Lbo, C6, P6, B6, S6] at C
      have ix := fun W => six1 a d b e c f W
      go_wp2
      go_region_law (fail)
      all_goals go_wp2
      all_goals go_roundw
      all_goals first | (exact ⟨2, rfl, by omega, (((E.add _ 76 (C2 b e) rfl).put 3 1 _ rfl).put 3 4 _ rfl).tail.drw⟩) | (exact ⟨2, rfl, by omega, ((E.put 2 1 _ rfl).put 2 4 _ rfl).drw.more _⟩) | (exact ⟨2, rfl, by omega, ((E.put 2 1 _ rfl).put 2 4 _ rfl).more _⟩) | (simp [intOf])
    · have C := E.cells
      simp [BC, CF, Lbo, C6, P6, B6, S6] at C
      have ix := fun W => six2 a d b e c f W
      go_wp2
      go_region_law (fail)
      all_goals go_wp2
      all_goals go_roundw
      all_goals first | (exact ⟨3, rfl, by omega, (((E.add _ 76 (C2 c f) rfl).put 3 2 _ rfl).put 3 5 _ rfl).tail.drw⟩) | (exact ⟨3, rfl, by omega, ((E.put 2 2 _ rfl).put 2 5 _ rfl).drw.more _⟩) | (exact ⟨3, rfl, by omega, ((E.put 2 2 _ rfl).put 2 5 _ rfl).more _⟩) | (simp [intOf])
    · have C := E.cells
      simp [BC, CF, Lbo, C6, P6, B6] at C
      go_wp2
      refine bodyPost_ret (v := .agg #[.int .i64 a, .int .i64 b, .int .i64 c, .int .i64 d, .int .i64 e, .int .i64 f]) (by simp [results, Try.results57, go_sem, C]) rfl ⟨rfl, ?_⟩
      exact (E.six 3 rfl).1
end Go.Proofs.Ytcadghenjcaaiaa
