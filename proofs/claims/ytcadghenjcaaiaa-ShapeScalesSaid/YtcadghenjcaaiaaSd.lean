/- Sides of boxes: the coordinates' pointers, the sides, and what is reckoned of one or two sides. -/
import Derived.Test.YtcadghenjcaaiaaEn
namespace Go.Proofs.Ytcadghenjcaaiaa
open Go.ChangeShapes Go.WideShapes Go.ChangeAt Go.RowKit
set_option linter.unusedVariables false
set_option linter.unusedSimpArgs false

/-- A contract for a call that makes memory, and changes none that was there. -/
def Fn (K : Nat) (args : Array Value) (r : Value) : Prop := ∀ w, Calls Try.prog K args w fun e w' => e = .returned r ∧ Below w.heap.size w w'
theorem coord_any (g o : Nat) (w : World) :
    Calls Try.prog 65 #[.pointer (some ⟨g, o, none⟩)] w fun e w' => e = .returned (.agg #[.pointer (some ⟨g, o, none⟩), .pointer (some ⟨g, o + 1, none⟩), .pointer (some ⟨g, o + 2, none⟩)]) ∧ Below w.heap.size w w' := by
  go_enter Try.func65, Try.ntmps65
  go_wp2
  go_region_law (fail)
  all_goals go_wp2
  all_goals refine bodyPost_ret (v := .agg #[.pointer (some ⟨g, o, none⟩), .pointer (some ⟨g, o + 1, none⟩), .pointer (some ⟨g, o + 2, none⟩)]) (by simp [results, Try.results65, go_sem]) rfl ⟨rfl, Below.drew (al1 _ _)⟩
def sdV (lo hi : Int) : Bool := decide (-1048576 ≤ lo) && decide (lo ≤ hi) && decide (hi ≤ 1048576)
theorem sdvalid_any (lo hi : Int) (w : World) :
    Calls Try.prog 64 #[.agg #[.int .i64 lo, .int .i64 hi]] w fun e w' => e = .returned (.bool (sdV lo hi)) ∧ Below w.heap.size w w' := by
  unfold sdV
  go_enter Try.func64, Try.ntmps64
  go_wp2
  all_goals go_ret
  all_goals refine ⟨?_, al1 _ _⟩
  all_goals simp_all
  all_goals omega
/-- Six cells of a block. -/
def C6 (a b c d e f : Int) : Array Value := #[.int .i64 a, .int .i64 b, .int .i64 c, .int .i64 d, .int .i64 e, .int .i64 f]
def P6 (g o : Nat) : Array Value := #[.pointer (some ⟨g, o, none⟩), .pointer (some ⟨g, o + 1, none⟩), .pointer (some ⟨g, o + 2, none⟩)]
/-- The cells of a list of sides behind i rounds. -/
def S6 (i : Nat) (a b c d e f : Int) : Array Value := #[.int .i64 (if 0 < i then a else 0), .int .i64 (if 0 < i then d else 0), .int .i64 (if 1 < i then b else 0), .int .i64 (if 1 < i then e else 0), .int .i64 (if 2 < i then c else 0), .int .i64 (if 2 < i then f else 0)]
/-- The blocks of sides: pointers, the list behind i rounds, the result, the box. -/
def Lsd (n m i : Nat) (a b c d e f : Int) : List Fb := [⟨m + 1, 90, P6 n 3⟩, ⟨m, 90, P6 n 0⟩, ⟨n + 1 + 1, 83, S6 i a b c d e f⟩, ⟨n + 1, 83, C6 0 0 0 0 0 0⟩, ⟨n, 42, C6 a b c d e f⟩]
set_option maxHeartbeats 4000000 in
set_option maxRecDepth 100000 in
theorem sides_any (a b c d e f : Int) (w : World) :
    Calls Try.prog 56 #[.agg #[.int .i64 a, .int .i64 b, .int .i64 c, .int .i64 d, .int .i64 e, .int .i64 f]] w fun E w' => E = .returned (.agg #[.int .i64 a, .int .i64 d, .int .i64 b, .int .i64 e, .int .i64 c, .int .i64 f]) ∧ Below w.heap.size w w' := by
  have E := (((Env.nil w).add w.heap.size 42 (C6 a b c d e f) rfl).add (w.heap.size + 1) 83 (C6 0 0 0 0 0 0) (by simp)).add (w.heap.size + 1 + 1) 83 (C6 0 0 0 0 0 0) (by simp)
  go_enter Try.func56, Try.ntmps56
  go_wp2_with (go_at_call 65; refine (coord_any _ _ _).mono ?_; rintro E w1 ⟨rfl, hb1⟩; replace E := E.on hb1; clear hb1)
  obtain ⟨W, hW⟩ : ∃ W, W = w1 := ⟨_, rfl⟩
  subst w1
  replace E := (E.add W.heap.size 90 (P6 w.heap.size 0) rfl).add (W.heap.size + 1) 90 (P6 w.heap.size 3) (by simp)
  go_loopw [11] (fun v11 wr => ∃ i : Nat, v11 = .int .i64 (i : Int) ∧ i ≤ 3 ∧ Env w wr (Lsd w.heap.size W.heap.size i a b c d e f)) (fun v _ => 3 - (intOf v).toNat)
  case atStart => exact ⟨0, rfl, by omega, E⟩
  case round =>
    clear E
    obtain ⟨i, rfl, hi, E⟩ := hrel
    rcases (by omega : i = 0 ∨ i = 1 ∨ i = 2 ∨ i = 3) with rfl | rfl | rfl | rfl
    · have C := E.cells
      simp [BC, CF, Lsd, C6, P6, S6] at C
      go_wp2
      go_still_tail 13, (by kernel_rfl)
      go_wp2
      go_roundw
      all_goals first | exact ⟨1, rfl, by omega, ((E.put 2 0 _ rfl).put 2 1 _ rfl).drw⟩ | (simp [intOf])
    · have C := E.cells
      simp [BC, CF, Lsd, C6, P6, S6] at C
      go_wp2
      go_still_tail 13, (by kernel_rfl)
      go_wp2
      go_roundw
      all_goals first | exact ⟨2, rfl, by omega, ((E.put 2 2 _ rfl).put 2 3 _ rfl).drw⟩ | (simp [intOf])
    · have C := E.cells
      simp [BC, CF, Lsd, C6, P6, S6] at C
      go_wp2
      go_still_tail 13, (by kernel_rfl)
      go_wp2
      go_roundw
      all_goals first | exact ⟨3, rfl, by omega, ((E.put 2 4 _ rfl).put 2 5 _ rfl).drw⟩ | (simp [intOf])
    · have C := E.cells
      simp [BC, CF, Lsd, C6, P6, S6] at C
      go_wp2
      refine bodyPost_ret (v := .agg #[.int .i64 a, .int .i64 d, .int .i64 b, .int .i64 e, .int .i64 c, .int .i64 f]) (by simp [results, Try.results56, go_sem, C]) rfl ⟨rfl, ?_⟩
      exact ((((((E.put 3 0 _ rfl).put 3 1 _ rfl).put 3 2 _ rfl).put 3 3 _ rfl).put 3 4 _ rfl).put 3 5 _ rfl).1
end Go.Proofs.Ytcadghenjcaaiaa
