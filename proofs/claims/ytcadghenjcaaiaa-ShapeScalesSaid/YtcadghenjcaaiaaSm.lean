/- What is reckoned of one or two sides. -/
import Derived.Test.YtcadghenjcaaiaaSd
namespace Go.Proofs.Ytcadghenjcaaiaa
open Go.ChangeShapes Go.WideShapes Go.ChangeAt Go.RowKit
set_option linter.unusedVariables false
set_option linter.unusedSimpArgs false

def mx (a b : Int) : Int := if a < b then b else a
def mn (a b : Int) : Int := if b < a then b else a
/-- A coordinate, or what is near one. -/
def Sml (n : Int) : Prop := -1000000000000 ≤ n ∧ n ≤ 1000000000000
def gapS (p1 p2 q1 q2 : Int) : Int := mx (q1 - p2) (p1 - q2)
def nearS (p1 p2 q1 q2 : Int) : Int × Int := if p2 < q1 then (p2, q1) else if q2 < p1 then (p1, q2) else (mx p1 q1, mx p1 q1)
theorem mn_l {a b : Int} (h : a < b) : mn b a = a := if_pos h
theorem mn_r {a b : Int} (h : ¬ a < b) : mn b a = b := if_neg h
theorem mx_l {a b : Int} (h : a < b) : mx a b = b := if_pos h
theorem mx_r {a b : Int} (h : ¬ a < b) : mx a b = a := if_neg h
theorem sdhull_any (p1 p2 q1 q2 : Int) (w : World) :
    Calls Try.prog 46 #[.agg #[.int .i64 p1, .int .i64 p2], .agg #[.int .i64 q1, .int .i64 q2]] w fun e w' => e = .returned (.agg #[.int .i64 (mn p1 q1), .int .i64 (mx p2 q2)]) ∧ Below w.heap.size w w' := by
  by_cases c1 : q1 < p1 <;> by_cases c2 : p2 < q2
  all_goals (first | rw [mn_l c1] | rw [mn_r c1])
  all_goals (first | rw [mx_l c2] | rw [mx_r c2])
  all_goals go_enter Try.func46, Try.ntmps46
  all_goals go_wp2
  all_goals first
    | exact bodyPost_ret (v := .agg #[.int .i64 q1, .int .i64 q2]) (by simp [results, Try.results46, go_sem]) rfl ⟨rfl, al (al (al1 _ _) _) _⟩
    | exact bodyPost_ret (v := .agg #[.int .i64 q1, .int .i64 p2]) (by simp [results, Try.results46, go_sem]) rfl ⟨rfl, al (al (al1 _ _) _) _⟩
    | exact bodyPost_ret (v := .agg #[.int .i64 p1, .int .i64 q2]) (by simp [results, Try.results46, go_sem]) rfl ⟨rfl, al (al (al1 _ _) _) _⟩
    | exact bodyPost_ret (v := .agg #[.int .i64 p1, .int .i64 p2]) (by simp [results, Try.results46, go_sem]) rfl ⟨rfl, al (al (al1 _ _) _) _⟩
def conS (p1 p2 q1 q2 : Int) : Bool := decide (p1 ≤ q1) && decide (q2 ≤ p2)
end Go.Proofs.Ytcadghenjcaaiaa
