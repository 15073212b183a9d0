/- ScheduleForms. -/
import Derived.Test.YthdafpbmmfelpaaGreatDoorAx
import Derived.Test.YthdafpbmmfelpaaGreatDoorFw
namespace Go.Proofs.YthdafpbmmfelpaaGreatDoor
open Go.ChangeShapes Go.WideShapes Go.ChangeAt Go.RowKit
set_option linter.unusedVariables false
set_option linter.unusedSimpArgs false

set_option maxHeartbeats 8000000 in
set_option maxRecDepth 100000 in
theorem forms_walk (p : Option Addr) (l : List Bar) (cap : Nat) (m : ByteArray) (w : World) (hS : Slb w p l cap) (hm : m.size ≤ maxLen) (hT : Tab w) :
    Calls Tryz.prog 3 #[.slice p l.length cap, .string m] w fun e w' => e = .returned (.bool true) ∧ Below w.heap.size w w' := by
  have hw : Below w.heap.size w w := Below.refl _ _
  cases hs : smallL l
  · have few1 := few_one p l cap
    rw [hs] at few1
    go_enter Tryz.func3, Tryz.ntmps3
    go_wp2_with (first
      | (go_at_call 10; (with_reducible refine (awake_any _ hT).mono ?_); rintro X w1 ⟨rfl, hb1⟩; have h11 := few1 w1 (hS.on hb1))
      | (go_at_call 11; (with_reducible refine h11.mono ?_); rintro X w2 ⟨rfl, rfl⟩; have B2 := al hb1 (.cells #[.slice p l.length cap] 22)))
    go_ret
    exact ⟨rfl, B2⟩
  have few1 := few_one p l cap
  rw [hs] at few1
  by_cases hm60 : m.size > 60
  · have g1 : decide ((m.size : Int) > 60) = true := by simp; omega
    clear hm60
    go_enter Tryz.func3, Tryz.ntmps3
    go_wp2_with (first
      | (go_at_call 10; (with_reducible refine (awake_any _ hT).mono ?_); rintro X w1 ⟨rfl, hb1⟩; have h11 := few1 w1 (hS.on hb1))
      | (go_at_call 11; (with_reducible refine h11.mono ?_); rintro X w2 ⟨rfl, rfl⟩; have B2 := al hb1 (.cells #[.slice p l.length cap] 22)))
    go_ret
    exact ⟨rfl, B2⟩
  have g1 : decide ((m.size : Int) > 60) = false := by simp; omega
  clear hm60
  have h14 := fun W (h : Below w.heap.size w W) => rValid_list p l cap W (hS.on h)
  have h15 := fun W (h : Below w.heap.size w W) => Valid_list p l cap W (hS.on h)
  cases hv : validL l
  · have h12 := fun W (h : Below w.heap.size w W) => Find_no p l cap m W (hS.on h) hv
    have h13 := fun W (h : Below w.heap.size w W) => Total_no p l cap W (hS.on h) hv
    rw [hv] at h14 h15
    clear hv hs
    go_enter Tryz.func3, Tryz.ntmps3
    go_wp2_with (first
      | (go_at_call 10; (with_reducible refine (awake_any _ hT).mono ?_); rintro X w1 ⟨rfl, hb1⟩; have h11 := few1 w1 (hS.on hb1))
      | (go_at_call 11; (with_reducible refine h11.mono ?_); rintro X w2 ⟨rfl, rfl⟩; have B2 := al hb1 (.cells #[.slice p l.length cap] 22))
      | (go_at_call 12; (with_reducible refine (h12 _ B2).mono ?_); rintro X w3 ⟨rfl, hb⟩; have B3 := belows B2 hb; clear hb)
      | (go_at_call 13; (with_reducible refine (h13 _ B3).mono ?_); rintro X w4 ⟨rfl, hb⟩; have B4 := belows B3 hb; clear hb)
      | (go_at_call 14; (with_reducible refine (h14 _ B4).mono ?_); rintro X w5 ⟨rfl, hb⟩; have B5 := belows B4 hb; clear hb)
      | (go_at_call 15; (with_reducible refine (h15 _ B5).mono ?_); rintro X w6 ⟨rfl, hb⟩; have B6 := belows B5 hb; clear hb))
    go_ret
    exact ⟨rfl, B6⟩
  · obtain ⟨hl60, hvb⟩ := valid_all hv
    have h12 := fun W (h : Below w.heap.size w W) => Find_ok p l cap m W (hS.on h) hv
    have h13 := fun W (h : Below w.heap.size w W) => Total_ok p l cap W (hS.on h) hv
    have h16 := fun W (h : Below w.heap.size w W) => rTotal_any p l cap W (hS.on h) hl60 hvb
    have h17 := fun W (h : Below w.heap.size w W) => rFind_any p l cap m W (hS.on h)
    rw [hv] at h14 h15
    clear hv hs hvb
    generalize totL l = tl at *
    generalize fndV m l = fv at *
    by_cases hf : fv < 0
    · rw [if_pos hf, if_pos hf] at h12
      have g2 : decide (fv ≥ 0) = false := by simpa using hf
      clear hf
      go_enter Tryz.func3, Tryz.ntmps3
      go_wp2_with (first
        | (go_at_call 10; (with_reducible refine (awake_any _ hT).mono ?_); rintro X w1 ⟨rfl, hb1⟩; have h11 := few1 w1 (hS.on hb1))
        | (go_at_call 11; (with_reducible refine h11.mono ?_); rintro X w2 ⟨rfl, rfl⟩; have B2 := al hb1 (.cells #[.slice p l.length cap] 22))
        | (go_at_call 12; (with_reducible refine (h12 _ B2).mono ?_); rintro X w3 ⟨rfl, hb⟩; have B3 := belows B2 hb; clear hb)
        | (go_at_call 13; (with_reducible refine (h13 _ B3).mono ?_); rintro X w4 ⟨rfl, hb⟩; have B4 := belows B3 hb; clear hb)
        | (go_at_call 14; (with_reducible refine (h14 _ B4).mono ?_); rintro X w5 ⟨rfl, hb⟩; have B5 := belows B4 hb; clear hb)
        | (go_at_call 15; (with_reducible refine (h15 _ B5).mono ?_); rintro X w6 ⟨rfl, hb⟩; have B6 := belows B5 hb; clear hb)
        | (go_at_call 16; (with_reducible refine (h16 _ B6).mono ?_); rintro X w7 ⟨rfl, rfl⟩)
        | (go_at_call 17; (with_reducible refine (h17 _ B6).mono ?_); rintro X w8 ⟨rfl, rfl⟩))
      go_ret
      exact ⟨rfl, B6⟩
    · rw [if_neg hf, if_neg hf] at h12
      have g2 : decide (fv ≥ 0) = true := by simp; omega
      clear hf
      go_enter Tryz.func3, Tryz.ntmps3
      go_wp2_with (first
        | (go_at_call 10; (with_reducible refine (awake_any _ hT).mono ?_); rintro X w1 ⟨rfl, hb1⟩; have h11 := few1 w1 (hS.on hb1))
        | (go_at_call 11; (with_reducible refine h11.mono ?_); rintro X w2 ⟨rfl, rfl⟩; have B2 := al hb1 (.cells #[.slice p l.length cap] 22))
        | (go_at_call 12; (with_reducible refine (h12 _ B2).mono ?_); rintro X w3 ⟨rfl, hb⟩; have B3 := belows B2 hb; clear hb)
        | (go_at_call 13; (with_reducible refine (h13 _ B3).mono ?_); rintro X w4 ⟨rfl, hb⟩; have B4 := belows B3 hb; clear hb)
        | (go_at_call 14; (with_reducible refine (h14 _ B4).mono ?_); rintro X w5 ⟨rfl, hb⟩; have B5 := belows B4 hb; clear hb)
        | (go_at_call 15; (with_reducible refine (h15 _ B5).mono ?_); rintro X w6 ⟨rfl, hb⟩; have B6 := belows B5 hb; clear hb)
        | (go_at_call 16; (with_reducible refine (h16 _ B6).mono ?_); rintro X w7 ⟨rfl, rfl⟩)
        | (go_at_call 17; (with_reducible refine (h17 _ B6).mono ?_); rintro X w8 ⟨rfl, rfl⟩))
      go_ret
      exact ⟨rfl, B6⟩
end Go.Proofs.YthdafpbmmfelpaaGreatDoor
