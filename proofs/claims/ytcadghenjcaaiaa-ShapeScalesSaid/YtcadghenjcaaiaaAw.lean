/- awake; Short, Codes; ShapeCodes. -/
import Derived.Test.YtcadghenjcaaiaaEq
namespace Go.Proofs.Ytcadghenjcaaiaa
open Go.ChangeShapes Go.WideShapes Go.ChangeAt Go.RowKit
set_option linter.unusedVariables false
set_option linter.unusedSimpArgs false

def xb (g : Nat) : Bar := ⟨⟨#[97]⟩, 12, 1, 21, some ⟨g, 0, none⟩, [200, 500, 300], 3⟩
theorem xb_ok (g : Nat) : barB (xb g) = true := by kernel_rfl
theorem xb_legs (g : Nat) : legs (xb g) = [200, 500, 300] := by kernel_rfl
theorem xb_pts (g : Nat) : pts (xb g) = [⟨0, 0, 0⟩, ⟨0, -200, 0⟩, ⟨500, -200, 0⟩, ⟨500, 100, 0⟩] := by kernel_rfl
theorem rdz_has {w : World} {g : Nat} {l : List Int} {cap : Nat} (h : Has w g 3 (l.map (Value.int .i64)).toArray) : Rdz w (.slice (some ⟨g, 0, none⟩) l.length cap) l := by
  refine ⟨_, cap, rfl, fun j hj => ⟨_, rfl, ?_⟩⟩
  rw [Addr.add_lit, Nat.zero_add, Has.read h]
  simp [hj]
theorem lit3 (w : World) : Rdz (w.alloc (.cells #[.int .i64 200, .int .i64 500, .int .i64 300] 3)) (.slice (some ⟨w.heap.size, 0, none⟩) 3 3) [200, 500, 300] := rdz_has (l := [200, 500, 300]) (Has.new_ w 3 _)
theorem litp (w : World) : Rd pc 3 (w.alloc (.cells #[.int .i64 0, .int .i64 0, .int .i64 0, .int .i64 0, .int .i64 (-200), .int .i64 0, .int .i64 500, .int .i64 (-200), .int .i64 0, .int .i64 500, .int .i64 100, .int .i64 0] 40)) (.slice (some ⟨w.heap.size, 0, none⟩) 4 4) [⟨0, 0, 0⟩, ⟨0, -200, 0⟩, ⟨500, -200, 0⟩, ⟨500, 100, 0⟩] := by
  have h := own_lit (B := 0) (n := 4) (s := 3) (Has.new_ w 40 #[.int .i64 0, .int .i64 0, .int .i64 0, .int .i64 0, .int .i64 (-200), .int .i64 0, .int .i64 500, .int .i64 (-200), .int .i64 0, .int .i64 500, .int .i64 100, .int .i64 0]) rfl (Nat.zero_le _) (by decide)
  have h' : Own pc 40 3 0 (w.alloc (.cells #[.int .i64 0, .int .i64 0, .int .i64 0, .int .i64 0, .int .i64 (-200), .int .i64 0, .int .i64 500, .int .i64 (-200), .int .i64 0, .int .i64 500, .int .i64 100, .int .i64 0] 40)) (.slice (some ⟨w.heap.size, 0, none⟩) 4 4) [⟨0, 0, 0⟩, ⟨0, -200, 0⟩, ⟨500, -200, 0⟩, ⟨500, 100, 0⟩] := by
    unfold Own
    simpa [pc] using h
  exact Own.rd pl h'
set_option maxHeartbeats 8000000 in
set_option maxRecDepth 100000 in
theorem awake_any (w : World) : Calls Try.prog 10 #[] w fun e w' => e = .returned (.bool true) ∧ Below w.heap.size w w' := by
  have E := ((Env.nil w).add w.heap.size 3 #[.int .i64 200, .int .i64 500, .int .i64 300] rfl).add (w.heap.size + 1) 32 (xb w.heap.size).cs (by simp)
  have hk : ∀ W, Env w W [⟨w.heap.size + 1, 32, (xb w.heap.size).cs⟩, ⟨w.heap.size, 3, #[.int .i64 200, .int .i64 500, .int .i64 300]⟩] → (xb w.heap.size).Ok W := fun W h =>
    ⟨by show (1 : Nat) ≤ _; decide, by show (3 : Nat) ≤ _; decide, rdz_has (l := [200, 500, 300]) h.2.2.2.2.2.1⟩
  have h17 := fun W h => Legs_ok (xb w.heap.size) W (hk W h) (xb_ok _)
  have h18 := fun W h => Path_ok (xb w.heap.size) W (hk W h) (xb_ok _)
  rw [xb_legs] at h17
  rw [xb_pts] at h18
  have e1 : nl (xb w.heap.size).code = 3 := by kernel_rfl
  have e2 : mc (xb w.heap.size).code = 5 := by kernel_rfl
  rw [e1, e2] at h17
  have e3 : (xb w.heap.size).val = .agg #[.string ⟨#[97]⟩, .int .i64 12, .int .i64 1, .int .i64 21, .slice (some ⟨w.heap.size, 0, none⟩) 3 3] := rfl
  have e4 : (xb w.heap.size).cs = #[.string ⟨#[97]⟩, .int .i64 12, .int .i64 1, .int .i64 21, .slice (some ⟨w.heap.size, 0, none⟩) 3 3] := rfl
  rw [e3] at h17 h18
  rw [e4] at h17 h18 E
  clear hk e1 e2 e3 e4
  have C := E.cells
  simp [BC, CF] at C
  go_enter Try.func10, Try.ntmps10
  go_wp2_with (first
    | (go_at_call 17; (with_reducible refine (h17 _ E).mono ?_); rintro X w1 ⟨g1, rfl, hR, hb⟩; replace E := E.on hb; clear hb; replace C := E.cells; simp [BC, CF] at C)
    | (go_at_call 18; (with_reducible refine (h18 _ E).mono ?_); rintro X w2 ⟨v2, rfl, hO, hb⟩; replace E := E.on hb; replace hR := hR.on hb; clear hb; replace C := E.cells; simp [BC, CF] at C)
    | (go_at_call 12; (with_reducible refine (equalz_any _ _ _ _ _ (hR.on (al1 _ _)) (lit3 _) (by decide)).mono ?_); rintro X w3 ⟨rfl, hb⟩; replace E := (E.more _).on hb; replace hO := (hO.on (al1 _ _)).on hb; clear hb; replace C := E.cells; simp [BC, CF] at C)
    | (go_at_call 23; (with_reducible refine (equalp_any _ _ _ _ _ (Own.rd pl (hO.on (al1 _ _))) (litp _) (by decide)).mono ?_); rintro X w4 ⟨rfl, hb⟩; replace E := (E.more _).on hb; clear hb; replace C := E.cells; simp [BC, CF] at C))
  go_ret
  exact ⟨by simp, envb E⟩
def codes : List Int := [0, 11, 21, 26, 31, 41, 51, 98]
theorem codes_any (w : World) : Calls Try.prog 13 #[] w fun e w' => ∃ g, e = .returned (.slice (some ⟨g, 0, none⟩) 8 8) ∧ Rdz w' (.slice (some ⟨g, 0, none⟩) 8 8) codes ∧ Below w.heap.size w w' := by
  go_enter Try.func13, Try.ntmps13
  go_wp2
  go_ret
  exact ⟨w.heap.size, rfl, rdz_has (l := codes) (Has.new_ w 3 _), al1 w _⟩
theorem rcodes_any (w : World) : Calls Try.prog 14 #[] w fun e w' => ∃ g, e = .returned (.slice (some ⟨g, 0, none⟩) 8 8) ∧ Rdz w' (.slice (some ⟨g, 0, none⟩) 8 8) codes ∧ Below w.heap.size w w' := by
  go_enter Try.func14, Try.ntmps14
  go_wp2
  go_ret
  exact ⟨w.heap.size, rfl, rdz_has (l := codes) (Has.new_ w 3 _), al1 w _⟩
set_option maxHeartbeats 4000000 in
set_option maxRecDepth 100000 in
theorem codes_walk (c : Int) (w : World) (hc : I64 c) : Calls Try.prog 3 #[.int .i64 c] w fun e w' => e = .returned (.bool true) ∧ Below w.heap.size w w' := by
  have h10 := fun W => awake_any W
  have h11 := fun W => Dims_any c W
  have h15 := fun W => rdims_any c W
  have B := Below.refl w.heap.size w
  have hz := @ndim_zero c
  clear hc
  generalize ndim c = n at *
  cases h : isC c
  · have e := hz.2 h
    subst e
    rw [h] at h11
    clear hz h
    go_enter Try.func3, Try.ntmps3
    go_wp2_with (first
      | (go_at_call 10; (with_reducible refine (h10 _).mono ?_); rintro X w1 ⟨rfl, hb⟩; replace B := belows B hb; clear hb)
      | (go_at_call 11; (with_reducible refine (h11 _).mono ?_); rintro X w2 ⟨rfl, hb⟩; replace B := belows B hb; clear hb)
      | (go_at_call 13; (with_reducible refine (codes_any _).mono ?_); rintro X w3 ⟨g1, rfl, hR, hb⟩; replace B := belows B hb; clear hb)
      | (go_at_call 14; (with_reducible refine (rcodes_any _).mono ?_); rintro X w4 ⟨g2, rfl, hR2, hb⟩; replace B := belows B hb; replace hR := hR.on hb; clear hb)
      | (go_at_call 12; (with_reducible refine (equalz_any _ _ _ _ _ hR hR2 (by decide)).mono ?_); rintro X w5 ⟨rfl, hb⟩; replace B := belows B hb; clear hb)
      | (go_at_call 15; (with_reducible refine (h15 _).mono ?_); rintro X w6 ⟨rfl, rfl⟩))
    go_ret
    exact ⟨rfl, B⟩
  · have e : ¬ n = 0 := fun k => by rw [hz.1 k] at h; cases h
    have t1 : ((n : Int) == 0) = false := by simp; omega
    rw [h] at h11
    clear hz h
    go_enter Try.func3, Try.ntmps3
    go_wp2_with (first
      | (go_at_call 10; (with_reducible refine (h10 _).mono ?_); rintro X w1 ⟨rfl, hb⟩; replace B := belows B hb; clear hb)
      | (go_at_call 11; (with_reducible refine (h11 _).mono ?_); rintro X w2 ⟨rfl, hb⟩; replace B := belows B hb; clear hb)
      | (go_at_call 13; (with_reducible refine (codes_any _).mono ?_); rintro X w3 ⟨g1, rfl, hR, hb⟩; replace B := belows B hb; clear hb)
      | (go_at_call 14; (with_reducible refine (rcodes_any _).mono ?_); rintro X w4 ⟨g2, rfl, hR2, hb⟩; replace B := belows B hb; replace hR := hR.on hb; clear hb)
      | (go_at_call 12; (with_reducible refine (equalz_any _ _ _ _ _ hR hR2 (by decide)).mono ?_); rintro X w5 ⟨rfl, hb⟩; replace B := belows B hb; clear hb)
      | (go_at_call 15; (with_reducible refine (h15 _).mono ?_); rintro X w6 ⟨rfl, rfl⟩))
    go_ret
    exact ⟨by simp, B⟩
end Go.Proofs.Ytcadghenjcaaiaa
