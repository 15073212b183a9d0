/- Two lists gone through together: the closure that yields the next From. -/
import Derived.Test.YtbohcedclnbcdaaV1
import Derived.Test.YtbohcedclnbcdaaRf
import Derived.RangeFuncNested
import Derived.RangeFuncBound
import Derived.RangeFuncCalls
import Derived.RangeFuncLeaves
import Derived.Shelf.Abstract
import Derived.Shelf.RegionOpen
import Derived.OwnWalkIn
import Derived.TacticsInMore
import Derived.LoopNIn
import Derived.LoopIn
namespace Go.Proofs.Ytbohcedclnbcdaa
open Go.ChangeShapes Go.WideShapes Go.ChangeAt Go.RowKit Go.Shelf
attribute [local go_sem] Oper.semAt_some
set_option linter.unusedVariables false
set_option linter.unusedSimpArgs false

theorem drop_at {l : List Stp} {i : Nat} (h : i < l.length) : l.drop i = l[i] :: l.drop (i + 1) := List.drop_eq_getElem_cons h
theorem drop_no {l : List Stp} {i : Nat} (h : ¬ i < l.length) : l.drop i = [] := List.drop_of_length_le (by omega)
set_option maxHeartbeats 2000000 in
set_option maxRecDepth 100000 in
theorem next_any (pa pb : Option Addr) (la lb : List Stp) (ca cb gi gj g1 g2 i j : Nat) (W : World)
    (h1 : W.cell? ⟨gi, 0, none⟩ = some (.int .i64 i)) (h2 : W.cell? ⟨gj, 0, none⟩ = some (.int .i64 j))
    (h3 : W.cell? ⟨g1, 0, none⟩ = some (.slice pa la.length ca)) (h4 : W.cell? ⟨g2, 0, none⟩ = some (.slice pb lb.length cb)) (hA : Sl W pa la) (hB : Sl W pb lb) :
    Calls Try.prog 57 #[.pointer (some ⟨gi, 0, none⟩), .pointer (some ⟨g1, 0, none⟩), .pointer (some ⟨gj, 0, none⟩), .pointer (some ⟨g2, 0, none⟩)] W fun e w' =>
      e = .returned (.tuple #[.int .i64 ((nx (la.drop i) (lb.drop j)).getD 0), .bool (nx (la.drop i) (lb.drop j)).isSome]) ∧ ∃ n, w' = W.drewN n := by
  by_cases hi : i < la.length
  · have g1 : decide ((i : Int) < (la.length : Int)) = true := by simp [hi]
    have q1 : (0 : Int) ≤ (i : Int) := by omega
    have q2 : (i : Int) < (la.length : Int) := by omega
    obtain ⟨a, rfl, c0, -⟩ := hA.at hi
    by_cases hj : j < lb.length
    · have g2 : decide ((j : Int) < (lb.length : Int)) = true := by simp [hj]
      have q3 : (0 : Int) ≤ (j : Int) := by omega
      have q4 : (j : Int) < (lb.length : Int) := by omega
      obtain ⟨b, rfl, d0, -⟩ := hB.at hj
      have HE : Hid (nx (la.drop i) (lb.drop j) = some (min la[i].1 lb[j].1)) := Lib.hid (by rw [drop_at hi, drop_at hj]; rfl)
      generalize la[i].1 = s at *
      generalize lb[j].1 = t at *
      clear hA hB
      go_enter Try.func57, Try.ntmps57
      go_wp2_with fail
      go_quiet (fail)
      go_wp2
      all_goals exact bodyPost_ret (v := .tuple #[.int .i64 (min s t), .bool true]) (by simp [results, Try.results57, go_sem]; omega) rfl ⟨by rw [HE.out]; rfl, _, rfl⟩
    · have g2 : decide ((j : Int) < (lb.length : Int)) = false := by simp; omega
      have HE : Hid (nx (la.drop i) (lb.drop j) = some la[i].1) := Lib.hid (by rw [drop_at hi, drop_no hj]; rfl)
      generalize la[i].1 = s at *
      clear hA hB
      go_enter Try.func57, Try.ntmps57
      go_wp2
      exact bodyPost_ret (v := .tuple #[.int .i64 s, .bool true]) (by simp [results, Try.results57, go_sem]) rfl ⟨by rw [HE.out]; rfl, 0, rfl⟩
  · have g1 : decide ((i : Int) < (la.length : Int)) = false := by simp; omega
    by_cases hj : j < lb.length
    · have g2 : decide ((j : Int) < (lb.length : Int)) = true := by simp [hj]
      have q3 : (0 : Int) ≤ (j : Int) := by omega
      have q4 : (j : Int) < (lb.length : Int) := by omega
      obtain ⟨b, rfl, d0, -⟩ := hB.at hj
      have HE : Hid (nx (la.drop i) (lb.drop j) = some lb[j].1) := Lib.hid (by rw [drop_no hi, drop_at hj]; rfl)
      generalize lb[j].1 = t at *
      clear hA hB
      go_enter Try.func57, Try.ntmps57
      go_wp2
      exact bodyPost_ret (v := .tuple #[.int .i64 t, .bool true]) (by simp [results, Try.results57, go_sem]) rfl ⟨by rw [HE.out]; rfl, 0, rfl⟩
    · have g2 : decide ((j : Int) < (lb.length : Int)) = false := by simp; omega
      have HE : Hid (nx (la.drop i) (lb.drop j) = none) := Lib.hid (by rw [drop_no hi, drop_no hj]; rfl)
      clear hA hB
      go_enter Try.func57, Try.ntmps57
      go_wp2
      exact bodyPost_ret (v := .tuple #[.int .i64 0, .bool false]) (by simp [results, Try.results57, go_sem]) rfl ⟨by rw [HE.out]; rfl, 0, rfl⟩
theorem together_any (pa pb : Option Addr) (na nb ca cb : Nat) (w : World) :
    Calls Try.prog 50 #[.slice pa na ca, .slice pb nb cb] w fun e w' => e = .returned (.func (.func 56) #[] #[.pointer (some ⟨w.heap.size, 0, none⟩), .pointer (some ⟨w.heap.size + 1, 0, none⟩)]) ∧ w' = (w.alloc (.cells #[.slice pa na ca] 22)).alloc (.cells #[.slice pb nb cb] 22) := by
  go_enter Try.func50, Try.ntmps50
  go_wp2
  go_ret
  exact ⟨rfl, rfl⟩
end Go.Proofs.Ytbohcedclnbcdaa
