/- What is reckoned of one or two sides. -/
import Derived.Test.YtffigpkkdljaiaaSd
namespace Go.Proofs.Ytffigpkkdljaiaa
open Go.ChangeShapes Go.WideShapes Go.ChangeAt Go.RowKit
set_option linter.unusedVariables false
set_option linter.unusedSimpArgs false

def mx (a b : Int) : Int := if a < b then b else a
def mn (a b : Int) : Int := if b < a then b else a
/-- A coordinate, or what is near one. -/
def Sml (n : Int) : Prop := -1000000000000 ≤ n ∧ n ≤ 1000000000000
def gapS (p1 p2 q1 q2 : Int) : Int := mx (q1 - p2) (p1 - q2)
theorem sdgap_any (p1 p2 q1 q2 : Int) (w : World) (h1 : Sml p1) (h2 : Sml p2) (h3 : Sml q1) (h4 : Sml q2) :
    Calls Try.prog 60 #[.agg #[.int .i64 p1, .int .i64 p2], .agg #[.int .i64 q1, .int .i64 q2]] w fun e w' => e = .returned (.int .i64 (gapS p1 p2 q1 q2)) ∧ Below w.heap.size w w' := by
  unfold Sml at *
  have W1 : IntKind.i64.wrap (q1 - p2) = q1 - p2 := IntWalk.i64_in _ (by omega)
  have W2 : IntKind.i64.wrap (p1 - q2) = p1 - q2 := IntWalk.i64_in _ (by omega)
  unfold gapS
  go_enter Try.func60, Try.ntmps60
  go_wp2
  all_goals go_ret
  all_goals exact ⟨ret_one (by unfold mx; split <;> omega), al (al1 _ _) _⟩
def nearS (p1 p2 q1 q2 : Int) : Int × Int := if p2 < q1 then (p2, q1) else if q2 < p1 then (p1, q2) else (mx p1 q1, mx p1 q1)
theorem sdnear_any (p1 p2 q1 q2 : Int) (w : World) :
    Calls Try.prog 42 #[.agg #[.int .i64 p1, .int .i64 p2], .agg #[.int .i64 q1, .int .i64 q2]] w fun e w' => e = .returned (.tuple #[.int .i64 (nearS p1 p2 q1 q2).1, .int .i64 (nearS p1 p2 q1 q2).2]) ∧ Below w.heap.size w w' := by
  by_cases c1 : p2 < q1
  · have e : nearS p1 p2 q1 q2 = (p2, q1) := by unfold nearS; rw [if_pos c1]
    rw [e]; clear e
    go_enter Try.func42, Try.ntmps42
    go_wp2
    go_quiet (fail)
    go_wp2
    exact bodyPost_ret (v := .tuple #[.int .i64 p2, .int .i64 q1]) (by simp [results, Try.results42, go_sem]) rfl ⟨rfl, below_drewN (al (al1 _ _) _) _⟩
  · by_cases c2 : q2 < p1
    · have e : nearS p1 p2 q1 q2 = (p1, q2) := by unfold nearS; rw [if_neg c1, if_pos c2]
      rw [e]; clear e
      go_enter Try.func42, Try.ntmps42
      go_wp2
      go_quiet (fail)
      go_wp2
      exact bodyPost_ret (v := .tuple #[.int .i64 p1, .int .i64 q2]) (by simp [results, Try.results42, go_sem]) rfl ⟨rfl, below_drewN (al (al1 _ _) _) _⟩
    · have e : nearS p1 p2 q1 q2 = (mx p1 q1, mx p1 q1) := by unfold nearS; rw [if_neg c1, if_neg c2]
      rw [e]; clear e
      by_cases c3 : p1 < q1
      · have e : mx p1 q1 = q1 := if_pos c3
        rw [e]; clear e
        go_enter Try.func42, Try.ntmps42
        go_wp2
        exact bodyPost_ret (v := .tuple #[.int .i64 q1, .int .i64 q1]) (by simp [results, Try.results42, go_sem]) rfl ⟨rfl, al (al1 _ _) _⟩
      · have e : mx p1 q1 = p1 := if_neg c3
        rw [e]; clear e
        go_enter Try.func42, Try.ntmps42
        go_wp2
        exact bodyPost_ret (v := .tuple #[.int .i64 p1, .int .i64 p1]) (by simp [results, Try.results42, go_sem]) rfl ⟨rfl, al (al1 _ _) _⟩
theorem sdgrown_any (lo hi by_ : Int) (w : World) (h1 : Sml lo) (h2 : Sml hi) (h3 : Sml by_) :
    Calls Try.prog 52 #[.agg #[.int .i64 lo, .int .i64 hi], .int .i64 by_] w fun e w' => e = .returned (.agg #[.int .i64 (lo - by_), .int .i64 (hi + by_)]) ∧ Below w.heap.size w w' := by
  unfold Sml at *
  have W1 : IntKind.i64.wrap (lo - by_) = lo - by_ := IntWalk.i64_in _ (by omega)
  have W2 : IntKind.i64.wrap (hi + by_) = hi + by_ := IntWalk.i64_in _ (by omega)
  go_enter Try.func52, Try.ntmps52
  go_wp2
  refine bodyPost_ret (v := .agg #[.int .i64 (lo - by_), .int .i64 (hi + by_)]) (by simp [results, Try.results52, go_sem]) rfl ⟨rfl, al (al1 _ _) _⟩
theorem mn_l {a b : Int} (h : a < b) : mn b a = a := if_pos h
theorem mn_r {a b : Int} (h : ¬ a < b) : mn b a = b := if_neg h
theorem mx_l {a b : Int} (h : a < b) : mx a b = b := if_pos h
theorem mx_r {a b : Int} (h : ¬ a < b) : mx a b = a := if_neg h
theorem sdhull_any (p1 p2 q1 q2 : Int) (w : World) :
    Calls Try.prog 50 #[.agg #[.int .i64 p1, .int .i64 p2], .agg #[.int .i64 q1, .int .i64 q2]] w fun e w' => e = .returned (.agg #[.int .i64 (mn p1 q1), .int .i64 (mx p2 q2)]) ∧ Below w.heap.size w w' := by
  by_cases c1 : q1 < p1 <;> by_cases c2 : p2 < q2
  all_goals (first | rw [mn_l c1] | rw [mn_r c1])
  all_goals (first | rw [mx_l c2] | rw [mx_r c2])
  all_goals go_enter Try.func50, Try.ntmps50
  all_goals go_wp2
  all_goals first
    | exact bodyPost_ret (v := .agg #[.int .i64 q1, .int .i64 q2]) (by simp [results, Try.results50, go_sem]) rfl ⟨rfl, al (al (al1 _ _) _) _⟩
    | exact bodyPost_ret (v := .agg #[.int .i64 q1, .int .i64 p2]) (by simp [results, Try.results50, go_sem]) rfl ⟨rfl, al (al (al1 _ _) _) _⟩
    | exact bodyPost_ret (v := .agg #[.int .i64 p1, .int .i64 q2]) (by simp [results, Try.results50, go_sem]) rfl ⟨rfl, al (al (al1 _ _) _) _⟩
    | exact bodyPost_ret (v := .agg #[.int .i64 p1, .int .i64 p2]) (by simp [results, Try.results50, go_sem]) rfl ⟨rfl, al (al (al1 _ _) _) _⟩
theorem sdmeet_any (p1 p2 q1 q2 : Int) (w : World) :
    Calls Try.prog 48 #[.agg #[.int .i64 p1, .int .i64 p2], .agg #[.int .i64 q1, .int .i64 q2]] w fun e w' => e = .returned (.agg #[.int .i64 (mx p1 q1), .int .i64 (mn p2 q2)]) ∧ Below w.heap.size w w' := by
  by_cases c1 : p1 < q1 <;> by_cases c2 : q2 < p2
  all_goals (first | rw [mx_l c1] | rw [mx_r c1])
  all_goals (first | rw [mn_l c2] | rw [mn_r c2])
  all_goals go_enter Try.func48, Try.ntmps48
  all_goals go_wp2
  all_goals first
    | exact bodyPost_ret (v := .agg #[.int .i64 q1, .int .i64 q2]) (by simp [results, Try.results48, go_sem]) rfl ⟨rfl, al (al (al1 _ _) _) _⟩
    | exact bodyPost_ret (v := .agg #[.int .i64 q1, .int .i64 p2]) (by simp [results, Try.results48, go_sem]) rfl ⟨rfl, al (al (al1 _ _) _) _⟩
    | exact bodyPost_ret (v := .agg #[.int .i64 p1, .int .i64 q2]) (by simp [results, Try.results48, go_sem]) rfl ⟨rfl, al (al (al1 _ _) _) _⟩
    | exact bodyPost_ret (v := .agg #[.int .i64 p1, .int .i64 p2]) (by simp [results, Try.results48, go_sem]) rfl ⟨rfl, al (al (al1 _ _) _) _⟩
def conS (p1 p2 q1 q2 : Int) : Bool := decide (p1 ≤ q1) && decide (q2 ≤ p2)
theorem sdcon_any (p1 p2 q1 q2 : Int) (w : World) :
    Calls Try.prog 51 #[.agg #[.int .i64 p1, .int .i64 p2], .agg #[.int .i64 q1, .int .i64 q2]] w fun e w' => e = .returned (.bool (conS p1 p2 q1 q2)) ∧ Below w.heap.size w w' := by
  unfold conS
  go_enter Try.func51, Try.ntmps51
  go_wp2
  all_goals go_ret
  all_goals refine ⟨?_, al (al1 _ _) _⟩
  all_goals simp_all
  all_goals omega
end Go.Proofs.Ytffigpkkdljaiaa
