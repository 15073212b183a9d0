/- SchedulePieces. -/
import Derived.Test.YthdafpbmmfelpaaGreatDoorAx
import Derived.Test.YthdafpbmmfelpaaGreatDoorFw
import Derived.Test.YthdafpbmmfelpaaGreatDoorRc
namespace Go.Proofs.YthdafpbmmfelpaaGreatDoor
open Go.ChangeShapes Go.WideShapes Go.ChangeAt Go.RowKit
set_option linter.unusedVariables false
set_option linter.unusedSimpArgs false

theorem rd_form {w : World} {v : Value} {xs : List S2} (h : Rd sc 2 w v xs) : ∃ q c, v = .slice q xs.length c := let ⟨q, c, e, _⟩ := h; ⟨q, c, e⟩
set_option maxHeartbeats 8000000 in
set_option maxRecDepth 100000 in
theorem pieces_walk (p : Option Addr) (l : List Bar) (cap : Nat) (d : Int) (w : World) (hS : Slb w p l cap) (hd0 : I64 d) (hT : Tab w) :
    Calls Tryz.prog 5 #[.slice p l.length cap, .int .i64 d] w fun e w' => e = .returned (.bool true) ∧ Below w.heap.size w w' := by
  have few1 := few_one p l cap
  have h14 := fun W (h : Below w.heap.size w W) => rValid_list p l cap W (hS.on h)
  have h24 := fun W (h : Below w.heap.size w W) => kind_any d W
  cases hs : smallL l
  · rw [hs] at few1
    go_enter Tryz.func5, Tryz.ntmps5
    go_wp2_with (first
      | (go_at_call 10; (with_reducible refine (awake_any _ hT).mono ?_); rintro X w1 ⟨rfl, hb1⟩; have h11 := few1 w1 (hS.on hb1))
      | (go_at_call 11; (with_reducible refine h11.mono ?_); rintro X w2 ⟨rfl, rfl⟩; have B2 := al hb1 (.cells #[.slice p l.length cap] 22)))
    go_ret
    exact ⟨rfl, B2⟩
  rw [hs] at few1
  cases hv : validL l
  · have h23 := fun W (h : Below w.heap.size w W) => Pieces_no p l cap d W (hS.on h) hv
    rw [hv] at h14
    clear hv hs
    go_enter Tryz.func5, Tryz.ntmps5
    go_wp2_with (first
      | (go_at_call 10; (with_reducible refine (awake_any _ hT).mono ?_); rintro X w1 ⟨rfl, hb1⟩; have h11 := few1 w1 (hS.on hb1))
      | (go_at_call 11; (with_reducible refine h11.mono ?_); rintro X w2 ⟨rfl, rfl⟩; have B2 := al hb1 (.cells #[.slice p l.length cap] 22))
      | (go_at_call 23; (with_reducible refine (h23 _ B2).mono ?_); rintro X w3 ⟨rfl, hb⟩; have B3 := belows B2 hb; clear hb)
      | (go_at_call 14; (with_reducible refine (h14 _ B3).mono ?_); rintro X w4 ⟨rfl, hb⟩; have B4 := belows B3 hb; clear hb))
    go_ret
    exact ⟨rfl, B4⟩
  obtain ⟨hl60, hvb⟩ := valid_all hv
  cases hz : isz d
  · have h23 := fun W (h : Below w.heap.size w W) => Pieces_kind p l cap d W (hS.on h) hv hz
    rw [hv] at h14
    rw [hz] at h24
    clear hv hs hz hvb
    go_enter Tryz.func5, Tryz.ntmps5
    go_wp2_with (first
      | (go_at_call 10; (with_reducible refine (awake_any _ hT).mono ?_); rintro X w1 ⟨rfl, hb1⟩; have h11 := few1 w1 (hS.on hb1))
      | (go_at_call 11; (with_reducible refine h11.mono ?_); rintro X w2 ⟨rfl, rfl⟩; have B2 := al hb1 (.cells #[.slice p l.length cap] 22))
      | (go_at_call 23; (with_reducible refine (h23 _ B2).mono ?_); rintro X w3 ⟨rfl, hb⟩; have B3 := belows B2 hb; clear hb)
      | (go_at_call 14; (with_reducible refine (h14 _ B3).mono ?_); rintro X w4 ⟨rfl, hb⟩; have B4 := belows B3 hb; clear hb)
      | (go_at_call 24; (with_reducible refine (h24 _ B4).mono ?_); rintro X w5 ⟨rfl, hb⟩; have B5 := belows B4 hb; clear hb))
    go_ret
    exact ⟨rfl, B5⟩
  · have h23 := fun W (h : Below w.heap.size w W) => Pieces_ok p l cap d W (hS.on h) hv hz
    have h26 := fun W (h : Below w.heap.size w W) => rPieces_any p l cap d W (hS.on h) hl60 hvb
    have hpl : (pcs l d).length ≤ 100000 := by
      have := pcK_le l d hvb
      unfold pcs; rw [List.length_map]; omega
    rw [hv] at h14
    rw [hz] at h24
    clear hv hs hz hvb
    generalize pcs l d = PC at *
    go_enter Tryz.func5, Tryz.ntmps5
    go_wp2_with (first
      | (go_at_call 10; (with_reducible refine (awake_any _ hT).mono ?_); rintro X w1 ⟨rfl, hb1⟩; have h11 := few1 w1 (hS.on hb1))
      | (go_at_call 11; (with_reducible refine h11.mono ?_); rintro X w2 ⟨rfl, rfl⟩; have B2 := al hb1 (.cells #[.slice p l.length cap] 22))
      | (go_at_call 23; (with_reducible refine (h23 _ B2).mono ?_); rintro X w3 ⟨v3, rfl, hO3, hb⟩; have B3 := belows B2 hb; clear hb; have R3 := Own.rd sl hO3; obtain ⟨q3, c3, rfl⟩ := rd_form R3; have HR3 := Lib.hid R3; clear R3 hO3)
      | (go_at_call 14; (with_reducible refine (h14 _ B3).mono ?_); rintro X w4 ⟨rfl, hb⟩; have B4 := belows B3 hb; have HR4 := Lib.hid (HR3.out.on sl hb); clear hb)
      | (go_at_call 24; (with_reducible refine (h24 _ B4).mono ?_); rintro X w5 ⟨rfl, hb⟩; have B5 := belows B4 hb; have HR5 := Lib.hid (HR4.out.on sl hb); clear hb)
      | (go_at_call 26; (with_reducible refine (h26 _ B5).mono ?_); rintro X w6 ⟨v6, rfl, hO6, hb⟩; have B6 := belows B5 hb; have h25 := equalq_any _ v6 PC PC w6 (HR5.out.on sl hb) (Own.rd sl hO6) hpl; clear hb hO6)
      | (go_at_call 25; (with_reducible refine h25.mono ?_); rintro X w7 ⟨rfl, hb⟩; have B7 := belows B6 hb; clear hb))
    go_ret
    exact ⟨by simp, B7⟩
end Go.Proofs.YthdafpbmmfelpaaGreatDoor
