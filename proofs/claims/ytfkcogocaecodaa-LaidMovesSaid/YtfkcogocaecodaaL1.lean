/- LaidMoves: the walk. -/
import Derived.Test.YtfkcogocaecodaaRs2
import Derived.Deep.CutBlock
namespace Go.Proofs.Ytfkcogocaecodaa
open Go.ChangeShapes Go.WideShapes Go.ChangeAt Go.RowKit
set_option linter.unusedVariables false
set_option linter.unusedSimpArgs false

theorem own_rdr {B : Nat} {w : World} {v : Value} {l : List Rn} (h : Own rc 30 10 B w v l) : Rd rc 10 w v l := Own.rd rcl h
theorem movC_le (rs : List Rn) (d : Pt) : (movC rs d).1.length ≤ 60 := by
  unfold movC
  split
  · simp
  · split
    · simp
    · split
      · rw [List.length_map]; omega
      · simp
set_option maxHeartbeats 8000000 in
set_option maxRecDepth 100000 in
theorem moves_walk (q : Option Addr) (rs : List Rn) (cap : Nat) (d : Pt) (w : World) (hR : Slr w q rs cap) :
    Calls Try.prog 3 #[.slice q rs.length cap, d.val] w fun e w' => e = .returned (.bool true) ∧ Below w.heap.size w w' := by
  have h11 := fun W (h : Below w.heap.size w W) => Moved_11 q rs cap d W (hR.on h)
  have h12 := fun W (h : Below w.heap.size w W) => rMoved_12 q rs cap d W (hR.on h)
  have HM := Lib.hid (show (movC rs d).1.length ≤ 100000 by have := movC_le rs d; omega)
  generalize (movC rs d).1 = LL at *
  generalize (movC rs d).2 = cd at *
  obtain ⟨dx, dy, dz⟩ := d
  unfold Pt.val at *
  dsimp only at *
  have E := (Env.nil w).add w.heap.size 24 #[.int .i64 dx, .int .i64 dy, .int .i64 dz] rfl
  have C := E.cells
  simp [BC, CF] at C
  have hlng : ∀ p l cap w (hS : Slr w p l cap), Calls Try.prog 9 #[.slice p l.length cap, .func (.func 10) #[] #[]] w fun e w' => e = .returned (.bool (l.any lngR)) ∧ Below w.heap.size w w' := lng_9
  cases g8 : decide ((rs.length : Int) > 8)
  · cases g63 : decide ((rs.length : Int) > 63)
    · cases gl : rs.any lngR
      · have h9 := fun W (h : Slr W q rs cap) => hlng q rs cap W h
        rw [gl] at h9
        clear gl hlng
        go_enter Try.func3, Try.ntmps3
        go_wp2_with (first | (go_at_call 8; (with_reducible refine (awake_8 _).mono ?_); rintro X w1 ⟨rfl, hb1⟩; replace E := E.on hb1; replace C := E.cells; simp [BC, CF] at C; have HRd := hR.on (envb E)) | (go_at_call 9; (with_reducible refine (h9 _ HRd).mono ?_); rintro X w2 ⟨rfl, hb2⟩; replace E := E.on hb2; replace C := E.cells; simp [BC, CF] at C) | (go_at_call 11; (with_reducible refine (h11 _ (envb E)).mono ?_); rintro X w3 ⟨v3, rfl, hO3, hb3⟩; replace E := E.on hb3; replace C := E.cells; simp [BC, CF] at C) | (go_at_call 12; (with_reducible refine (h12 _ (envb E)).mono ?_); rintro X w4 ⟨v4, rfl, hO4, hb4⟩; have r3 := own_rdr (hO3.on hb4); have r4 := own_rdr hO4; replace E := E.on hb4; replace C := E.cells; simp [BC, CF] at C) | (go_at_call 13; (with_reducible refine (rSame_13 _ _ _ _ r3 r4 HM.out).mono ?_); rintro X w5 ⟨rfl, hb5⟩; replace E := E.on hb5))
        go_ret
        exact ⟨by simp, envb E⟩
      · have h9 := fun W (h : Slr W q rs cap) => hlng q rs cap W h
        rw [gl] at h9
        clear gl hlng
        go_enter Try.func3, Try.ntmps3
        go_wp2_with (first | (go_at_call 8; (with_reducible refine (awake_8 _).mono ?_); rintro X w1 ⟨rfl, hb1⟩; replace E := E.on hb1; replace C := E.cells; simp [BC, CF] at C; have HRd := hR.on (envb E)) | (go_at_call 9; (with_reducible refine (h9 _ HRd).mono ?_); rintro X w2 ⟨rfl, hb2⟩; replace E := E.on hb2; replace C := E.cells; simp [BC, CF] at C))
        go_ret
        exact ⟨rfl, envb E⟩
    · go_enter Try.func3, Try.ntmps3
      go_wp2_with (go_at_call 8; (with_reducible refine (awake_8 _).mono ?_); rintro X w1 ⟨rfl, hb1⟩; replace E := E.on hb1; replace C := E.cells; simp [BC, CF] at C; have HRd := hR.on (envb E))
      go_ret
      exact ⟨rfl, envb E⟩
  · cases g60 : decide ((rs.length : Int) ≤ 60)
    · cases g63 : decide ((rs.length : Int) > 63)
      · cases gl : rs.any lngR
        · have h9 := fun W (h : Slr W q rs cap) => hlng q rs cap W h
          rw [gl] at h9
          clear gl hlng
          go_enter Try.func3, Try.ntmps3
          go_wp2_with (first | (go_at_call 8; (with_reducible refine (awake_8 _).mono ?_); rintro X w1 ⟨rfl, hb1⟩; replace E := E.on hb1; replace C := E.cells; simp [BC, CF] at C; have HRd := hR.on (envb E)) | (go_at_call 9; (with_reducible refine (h9 _ HRd).mono ?_); rintro X w2 ⟨rfl, hb2⟩; replace E := E.on hb2; replace C := E.cells; simp [BC, CF] at C) | (go_at_call 11; (with_reducible refine (h11 _ (envb E)).mono ?_); rintro X w3 ⟨v3, rfl, hO3, hb3⟩; replace E := E.on hb3; replace C := E.cells; simp [BC, CF] at C) | (go_at_call 12; (with_reducible refine (h12 _ (envb E)).mono ?_); rintro X w4 ⟨v4, rfl, hO4, hb4⟩; have r3 := own_rdr (hO3.on hb4); have r4 := own_rdr hO4; replace E := E.on hb4; replace C := E.cells; simp [BC, CF] at C) | (go_at_call 13; (with_reducible refine (rSame_13 _ _ _ _ r3 r4 HM.out).mono ?_); rintro X w5 ⟨rfl, hb5⟩; replace E := E.on hb5))
          go_ret
          exact ⟨by simp, envb E⟩
        · have h9 := fun W (h : Slr W q rs cap) => hlng q rs cap W h
          rw [gl] at h9
          clear gl hlng
          go_enter Try.func3, Try.ntmps3
          go_wp2_with (first | (go_at_call 8; (with_reducible refine (awake_8 _).mono ?_); rintro X w1 ⟨rfl, hb1⟩; replace E := E.on hb1; replace C := E.cells; simp [BC, CF] at C; have HRd := hR.on (envb E)) | (go_at_call 9; (with_reducible refine (h9 _ HRd).mono ?_); rintro X w2 ⟨rfl, hb2⟩; replace E := E.on hb2; replace C := E.cells; simp [BC, CF] at C))
          go_ret
          exact ⟨rfl, envb E⟩
      · go_enter Try.func3, Try.ntmps3
        go_wp2_with (go_at_call 8; (with_reducible refine (awake_8 _).mono ?_); rintro X w1 ⟨rfl, hb1⟩; replace E := E.on hb1; replace C := E.cells; simp [BC, CF] at C; have HRd := hR.on (envb E))
        go_ret
        exact ⟨rfl, envb E⟩
    · go_enter Try.func3, Try.ntmps3
      go_wp2_with (go_at_call 8; (with_reducible refine (awake_8 _).mono ?_); rintro X w1 ⟨rfl, hb1⟩; replace E := E.on hb1; replace C := E.cells; simp [BC, CF] at C; have HRd := hR.on (envb E))
      go_ret
      exact ⟨rfl, envb E⟩
end Go.Proofs.Ytfkcogocaecodaa
