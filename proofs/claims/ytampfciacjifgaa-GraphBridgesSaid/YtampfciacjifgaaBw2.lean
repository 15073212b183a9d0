/- GraphBridges: the walk. -/
import Derived.Test.YtampfciacjifgaaBw1
namespace Go.Proofs.Ytampfciacjifgaa
open Go.ChangeShapes Go.WideShapes Go.ChangeAt Go.RowKit
set_option linter.unusedVariables false
set_option linter.unusedSimpArgs false

set_option maxRecDepth 100000 in
set_option maxHeartbeats 8000000 in
theorem gbridges_walk (p : Option Addr) (l : List (Int × Int)) (cap : Nat) (n a b : Int) (w : World) (hS : Sl w p l) :
    Calls Try.prog 5 #[.int .i64 n, .slice p l.length cap, .int .i64 a, .int .i64 b] w fun e w' => e = .returned (.bool true) ∧ Below w.heap.size w w' := by
  have hL := fun W => large_any p l.length cap n W
  cases hl : lg n l.length
  rotate_left
  · rw [hl] at hL
    go_enter Try.func5, Try.ntmps5
    go_wp2_with (first
      | (go_at_call 9; (with_reducible refine (awake_any _).mono ?_); rintro e w1 ⟨rfl, b1⟩)
      | (go_at_call 10; (with_reducible refine (hL _).mono ?_); rintro e w2 ⟨rfl, rfl⟩))
    go_ret
    exact ⟨rfl, b1⟩
  rw [hl] at hL
  cases hv : vG n l
  · have f13 := fun W h => rvalid_any p l cap n W h
    have f25 := fun W h => bridges_no p n l cap W h hv
    have f26 := fun W h => path_no p n a b l cap W h hv
    have f27 := fun W h => rpath_no p n a b l cap W h hv
    rw [hv] at f13
    go_enter Try.func5, Try.ntmps5
    go_wp2_with (first
      | (go_at_call 9; (with_reducible refine (awake_any _).mono ?_); rintro e w1 ⟨rfl, b1⟩; have S1 := hS.on b1)
      | (go_at_call 10; (with_reducible refine (hL _).mono ?_); rintro e w2 ⟨rfl, rfl⟩)
      | (go_at_call 25; (with_reducible refine (f25 _ S1).mono ?_); rintro e w2 ⟨rfl, b2⟩; have S2 := S1.on b2)
      | (go_at_call 26; (with_reducible refine (f26 _ S2).mono ?_); rintro e w3 ⟨rfl, b3⟩; have S3 := S2.on b3)
      | (go_at_call 27; (with_reducible refine (f27 _ S3).mono ?_); rintro e w4 ⟨rfl, b4⟩; have S4 := S3.on b4)
      | (go_at_call 17; (with_reducible refine (equal_nil _).mono ?_); rintro e w5 ⟨rfl, b5⟩; have S5 := S4.on b5)
      | (go_at_call 13; (with_reducible refine (f13 _ S5).mono ?_); rintro e w6 ⟨rfl, b6⟩))
    go_ret
    exact ⟨rfl, belows (belows (belows (belows (belows b1 b2) b3) b4) b5) b6⟩
  obtain ⟨m, k, rfl, rfl, hlen, hG⟩ := gr_of_valid hS hv
  rw [hlen] at hL ⊢
  have hk := hG.2.1
  have hOk : Ok k m := hG.2.2.2
  have hBl : (brg k (adj k (List.range k.length)) m).length ≤ 100000 := by
    rw [← isB_list hOk]
    have := List.length_filter_le (isB k m) (List.range k.length)
    rw [List.length_range] at this
    omega
  have f25 := fun W h => bridges_ok p m k cap W h
  have f28 := fun W h => rbridges_any p m k cap W h
  generalize brg k (adj k (List.range k.length)) m = B at *
  clear hOk hv hlen hl
  cases hr : (wi a m && wi b m)
  · have f26 := fun W h => path_range p m a b k cap W h hr
    have f27 := fun W h => rpath_range p m a b k cap W h hr
    clear hr
    go_enter Try.func5, Try.ntmps5
    go_wp2_with (first
      | (go_at_call 9; (with_reducible refine (awake_any _).mono ?_); rintro e w1 ⟨rfl, b1⟩; have G1 := hG.on b1)
      | (go_at_call 10; (with_reducible refine (hL _).mono ?_); rintro e w2 ⟨rfl, rfl⟩)
      | (go_at_call 25; (with_reducible refine (f25 _ G1).mono ?_); rintro e w2 ⟨v2, rfl, o2, b2⟩; have G2 := G1.on b2; have r2 := Own.rd o2)
      | (go_at_call 26; (with_reducible refine (f26 _ G2).mono ?_); rintro e w3 ⟨rfl, b3⟩; have G3 := G2.on b3; have r3 := r2.on b3)
      | (go_at_call 27; (with_reducible refine (f27 _ G3).mono ?_); rintro e w4 ⟨rfl, b4⟩; have G4 := G3.on b4; have r4 := r3.on b4)
      | (go_at_call 17; first
        | ((with_reducible refine (equal_nil _).mono ?_); rintro e w5 ⟨rfl, b5⟩; have G5 := G4.on b5; have r5 := r4.on b5)
        | ((with_reducible refine (equal_same v2 v7 B _ r7 o7 hBl).mono ?_); rintro e w8 ⟨rfl, b8⟩))
      | (go_at_call 13; (with_reducible refine (rvalid_ok cap G5).mono ?_); rintro e w6 ⟨rfl, b6⟩; have G6 := G5.on b6; have r6 := r5.on b6)
      | (go_at_call 28; (with_reducible refine (f28 _ G6).mono ?_); rintro e w7 ⟨v7, rfl, o7', b7⟩; have o7 := Own.rd o7'; have r7 := r6.on b7))
    go_ret
    exact ⟨rfl, belows (belows (belows (belows (belows (belows (belows b1 b2) b3) b4) b5) b6) b7) b8⟩
  have hab : (0 ≤ a ∧ a < m) ∧ 0 ≤ b ∧ b < m := by simpa [wi] using hr
  clear hr
  obtain ⟨a, rfl⟩ : ∃ x : Nat, a = (x : Int) := ⟨a.toNat, by omega⟩
  obtain ⟨b, rfl⟩ : ∃ x : Nat, b = (x : Int) := ⟨b.toNat, by omega⟩
  have la : a < m := by omega
  have lb : b < m := by omega
  clear hab
  have f27 := fun W h => rpath_in p m a b k cap W h la lb
  by_cases hj : pre k k.length a = pre k k.length b
  · have f26 := fun W h => path_pth p m k cap a b W h la lb hj
    have f27' := fun W h => (f27 W h).mono fun e w' (x : _ ∧ _ ∧ _) => And.intro (x.2.2 hj) x.1
    clear f27 hj
    go_enter Try.func5, Try.ntmps5
    go_wp2_with (first
      | (go_at_call 9; (with_reducible refine (awake_any _).mono ?_); rintro e w1 ⟨rfl, b1⟩; have G1 := hG.on b1)
      | (go_at_call 10; (with_reducible refine (hL _).mono ?_); rintro e w2 ⟨rfl, rfl⟩)
      | (go_at_call 25; (with_reducible refine (f25 _ G1).mono ?_); rintro e w2 ⟨v2, rfl, o2, b2⟩; have G2 := G1.on b2; have r2 := Own.rd o2)
      | (go_at_call 26; (with_reducible refine (f26 _ G2).mono ?_); rintro e w3 ⟨v3, xs, rfl, o3, p3, x3, b3⟩; have G3 := G2.on b3; have r3 := r2.on b3; have s3 := Own.rd o3)
      | (go_at_call 27; (with_reducible refine (f27' _ G3).mono ?_); rintro e w4 ⟨⟨v4, ys, rfl, o4, p4⟩, b4⟩; have G4 := G3.on b4; have r4 := r3.on b4; have s4 := s3.on b4; have e4 := p4 xs p3; have t4 := Own.rd o4; rw [← e4] at t4)
      | (go_at_call 17; first
        | ((with_reducible refine (equal_same v3 v4 xs _ s4 t4 (Nat.le_trans x3 (by decide))).mono ?_); rintro e w5 ⟨rfl, b5⟩; have G5 := G4.on b5; have r5 := r4.on b5)
        | ((with_reducible refine (equal_same v2 v7 B _ r7 o7 hBl).mono ?_); rintro e w8 ⟨rfl, b8⟩))
      | (go_at_call 13; (with_reducible refine (rvalid_ok cap G5).mono ?_); rintro e w6 ⟨rfl, b6⟩; have G6 := G5.on b6; have r6 := r5.on b6)
      | (go_at_call 28; (with_reducible refine (f28 _ G6).mono ?_); rintro e w7 ⟨v7, rfl, o7', b7⟩; have o7 := Own.rd o7'; have r7 := r6.on b7))
    go_ret
    exact ⟨rfl, belows (belows (belows (belows (belows (belows (belows b1 b2) b3) b4) b5) b6) b7) b8⟩
  · have f26 := fun W h => pth_not p m k cap a b W h la lb hj
    have f27' := fun W h => (f27 W h).mono fun e w' (x : _ ∧ _ ∧ _) => And.intro (x.2.1 hj) x.1
    clear f27 hj
    go_enter Try.func5, Try.ntmps5
    go_wp2_with (first
      | (go_at_call 9; (with_reducible refine (awake_any _).mono ?_); rintro e w1 ⟨rfl, b1⟩; have G1 := hG.on b1)
      | (go_at_call 10; (with_reducible refine (hL _).mono ?_); rintro e w2 ⟨rfl, rfl⟩)
      | (go_at_call 25; (with_reducible refine (f25 _ G1).mono ?_); rintro e w2 ⟨v2, rfl, o2, b2⟩; have G2 := G1.on b2; have r2 := Own.rd o2)
      | (go_at_call 26; (with_reducible refine (f26 _ G2).mono ?_); rintro e w3 ⟨rfl, b3⟩; have G3 := G2.on b3; have r3 := r2.on b3)
      | (go_at_call 27; (with_reducible refine (f27' _ G3).mono ?_); rintro e w4 ⟨rfl, b4⟩; have G4 := G3.on b4; have r4 := r3.on b4)
      | (go_at_call 17; first
        | ((with_reducible refine (equal_nil _).mono ?_); rintro e w5 ⟨rfl, b5⟩; have G5 := G4.on b5; have r5 := r4.on b5)
        | ((with_reducible refine (equal_same v2 v7 B _ r7 o7 hBl).mono ?_); rintro e w8 ⟨rfl, b8⟩))
      | (go_at_call 13; (with_reducible refine (rvalid_ok cap G5).mono ?_); rintro e w6 ⟨rfl, b6⟩; have G6 := G5.on b6; have r6 := r5.on b6)
      | (go_at_call 28; (with_reducible refine (f28 _ G6).mono ?_); rintro e w7 ⟨v7, rfl, o7', b7⟩; have o7 := Own.rd o7'; have r7 := r6.on b7))
    go_ret
    exact ⟨rfl, belows (belows (belows (belows (belows (belows (belows b1 b2) b3) b4) b5) b6) b7) b8⟩
end Go.Proofs.Ytampfciacjifgaa
