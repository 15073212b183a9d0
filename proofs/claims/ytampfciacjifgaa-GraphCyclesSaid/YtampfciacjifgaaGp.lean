/- GraphParts: the walk; large, right. -/
import Derived.Test.YtampfciacjifgaaAw2
namespace Go.Proofs.Ytampfciacjifgaa
open Go.ChangeShapes Go.WideShapes Go.ChangeAt Go.RowKit
set_option linter.unusedVariables false
set_option linter.unusedSimpArgs false

/-- Whether a graph is larger than the laws look at. -/
def lg (n : Int) (k : Nat) : Bool := decide ((30 < n ∧ n ≤ 1000) ∨ (40 < k ∧ k ≤ 4000) ∨ 4010 < k)
set_option maxRecDepth 100000 in
theorem large_any (p : Option Addr) (m cap : Nat) (n : Int) (w : World) :
    Calls Try.prog 10 #[.int .i64 n, .slice p m cap] w fun e w' => e = .returned (.bool (lg n m)) ∧ w = w' := by
  by_cases a1 : 30 < n <;> by_cases a2 : n ≤ 1000 <;> by_cases a3 : (40 : Int) < m <;> by_cases a4 : (m : Int) ≤ 4000 <;> by_cases a5 : (4010 : Int) < m
  all_goals (first | (exfalso; omega) | skip)
  all_goals (
    go_enter Try.func10, Try.ntmps10
    go_wp2
    go_ret
    refine ⟨congrArg (fun b => Ending.returned (.bool b)) ?_, rfl⟩
    unfold lg
    first
    | (exact (decide_eq_true (by omega)).symm)
    | (exact (decide_eq_false (by omega)).symm))
theorem gr_sl {w : World} {p : Option Addr} {n : Nat} {l : List (Nat × Nat)} (h : Gr w p n l) : Sl w p (cast2 l) := h.1
theorem parts_bounds {R : Nat → Nat} {n : Nat} (hn : n ≤ 1000) : (partsL R n).length ≤ 100000 ∧ ∀ x ∈ partsL R n, x.length ≤ 100000 := by
  refine ⟨by rw [partsL_len]; exact Nat.le_trans (roots_le R n) (by omega), fun x hx => ?_⟩
  obtain ⟨r, -, rfl⟩ := List.mem_map.1 hx
  exact Nat.le_trans (List.length_filter_le _ _) (by simp; omega)
theorem drewN_below {w w' : World} (h : ∃ n, w' = w.drewN n) : Below w.heap.size w w' := by
  obtain ⟨n, rfl⟩ := h; exact below_drewN (Below.refl _ _) n
set_option maxRecDepth 100000 in
set_option maxHeartbeats 4000000 in
theorem gparts_walk (p : Option Addr) (l : List (Int × Int)) (cap : Nat) (n : Int) (w : World) (hS : Sl w p l) :
    Calls Try.prog 3 #[.int .i64 n, .slice p l.length cap] w fun e w' => e = .returned (.bool true) ∧ Below w.heap.size w w' := by
  have hL := fun W => large_any p l.length cap n W
  cases hl : lg n l.length
  · rw [hl] at hL
    cases hv : vG n l
    · have f13 := fun W h => rvalid_any p l cap n W h
      have f14 := fun W h => valid_any p l cap n W h
      have f11 := fun W h => parts_no p n l cap W h hv
      have f12 := fun W h => forest_no p n l cap W h hv
      rw [hv] at f13 f14
      go_enter Try.func3, Try.ntmps3
      go_wp2_with (first
        | (go_at_call 9; (with_reducible refine (awake_any _).mono ?_); rintro e w1 ⟨rfl, b1⟩; have S1 := hS.on b1)
        | (go_at_call 10; (with_reducible refine (hL _).mono ?_); rintro e w2 ⟨rfl, rfl⟩)
        | (go_at_call 11; (with_reducible refine (f11 _ S1).mono ?_); rintro e w2 ⟨rfl, b2⟩; have S2 := S1.on b2)
        | (go_at_call 12; (with_reducible refine (f12 _ S2).mono ?_); rintro e w3 ⟨rfl, b3⟩; have S3 := S2.on b3)
        | (go_at_call 13; (with_reducible refine (f13 _ S3).mono ?_); rintro e w4 ⟨rfl, b4⟩; have S4 := S3.on b4)
        | (go_at_call 14; (with_reducible refine (f14 _ S4).mono ?_); rintro e w5 ⟨rfl, b5⟩))
      go_ret
      exact ⟨rfl, belows (belows (belows (belows b1 b2) b3) b4) b5⟩
    · obtain ⟨m, k, rfl, rfl, hlen, hG⟩ := gr_of_valid hS hv
      have f13 := fun W h => rvalid_any p (cast2 k) cap (m : Int) W h
      have f14 := fun W h => valid_any p (cast2 k) cap (m : Int) W h
      rw [hv] at f13 f14
      rw [hlen] at hL f13 f14 ⊢
      have hm := hG.2.2.1
      have pb := parts_bounds (R := pre k k.length) hm
      have fl := inF_len k k.length
      have hk := hG.2.1
      go_enter Try.func3, Try.ntmps3
      go_wp2_with (first
        | (go_at_call 9; (with_reducible refine (awake_any _).mono ?_); rintro e w1 ⟨rfl, b1⟩; have S1 := hG.on b1)
        | (go_at_call 10; (with_reducible refine (hL _).mono ?_); rintro e w2 ⟨rfl, rfl⟩)
        | (go_at_call 11; (with_reducible refine (parts_ok p m k cap _ S1).mono ?_); rintro e w2 ⟨v2, rfl, o2, b2⟩; have S2 := S1.on b2)
        | (go_at_call 12; (with_reducible refine (forest_ok p m k cap _ S2).mono ?_); rintro e w3 ⟨v3, rfl, o3, b3⟩; have S3 := S2.on b3; have o23 := Nest.on o2 b3)
        | (go_at_call 13; (with_reducible refine (f13 _ (gr_sl S3)).mono ?_); rintro e w4 ⟨rfl, b4⟩; have S4 := S3.on b4; have o24 := Nest.on o23 b4; have o34 := (Own.rd o3).on b4)
        | (go_at_call 14; (with_reducible refine (f14 _ (gr_sl S4)).mono ?_); rintro e w5 ⟨rfl, b5⟩; have S5 := S4.on b5; have o25 := (Nest.on o24 b5); have o35 := o34.on b5)
        | (go_at_call 16; (with_reducible refine (rparts_any p m k cap _ S5).mono ?_); rintro e w6 ⟨v6, rfl, o6, b6⟩; have S6 := S5.on b6; have o26 := (Nest.on o25 b6).rd; have o36 := o35.on b6; have r6 := o6.rd)
        | (go_at_call 15; (with_reducible refine (same_any v2 v6 _ _ _ o26 r6 pb.1 pb.2).mono ?_); rintro e w7 ⟨rfl, b7⟩; have B7 := drewN_below b7; have S7 := S6.on B7; have o37 := o36.on B7)
        | (go_at_call 18; (with_reducible refine (rforest_any p m k cap _ S7).mono ?_); rintro e w8 ⟨v8, rfl, o8, b8⟩; have r8 := Own.rd o8; have o38 := o37.on b8)
        | (go_at_call 17; (with_reducible refine (equal_any v3 v8 _ _ _ o38 r8 (by omega)).mono ?_); rintro e w9 ⟨rfl, b9⟩; have B9 := drewN_below b9))
      go_ret
      exact ⟨by simp, belows (belows (belows (belows (belows (belows (belows (belows b1 b2) b3) b4) b5) b6) B7) b8) B9⟩
  · rw [hl] at hL
    go_enter Try.func3, Try.ntmps3
    go_wp2_with (first
      | (go_at_call 9; (with_reducible refine (awake_any _).mono ?_); rintro e w1 ⟨rfl, b1⟩)
      | (go_at_call 10; (with_reducible refine (hL _).mono ?_); rintro e w2 ⟨rfl, rfl⟩))
    go_ret
    exact ⟨rfl, b1⟩
end Go.Proofs.Ytampfciacjifgaa
