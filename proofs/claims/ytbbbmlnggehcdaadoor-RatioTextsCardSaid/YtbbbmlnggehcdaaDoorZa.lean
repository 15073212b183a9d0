/- RatioTexts returns true: where it says nothing. RatioTexts returns true: a walk. RatioTexts returns true: a walk. RatioTexts returns true: a walk. RatioTexts returns true: a walk. RatioTexts returns true: a walk. RatioTexts returns true: a walk. RatioTexts returns true: a walk. RatioTexts returns true: a walk. RatioTexts returns true: the walks, put together. -/
import Derived.Test.YtbbbmlnggehcdaaDoorZb
import Derived.Test.YtbbbmlnggehcdaaDoorZd
namespace Go.Proofs.YtbbbmlnggehcdaaDoor
open Go.ChangeShapes Go.WideShapes Go.ChangeAt Go.RowKit Go.Shelf
set_option linter.unusedVariables false
set_option linter.unusedSimpArgs false

set_option maxRecDepth 100000 in
set_option maxHeartbeats 4000000 in
theorem texts_early (p : Option Addr) (l : List (Int × Int)) (cap : Nat) (n d : Int) (s : ByteArray) (w : World) (hV : Vars w) (b1 b2 b3 b4 : Bool)
    (g1 : decide ((40 : Int) < (l.length : Int)) = b1) (g2 : decide ((l.length : Int) ≤ 1000) = b2) (g3 : decide ((1005 : Int) < (l.length : Int)) = b3) (g4 : decide ((100 : Int) < (s.size : Int)) = b4) (hb : (b1 && b2 || b3 || b4) = true) :
    Calls Tryd.prog 5 #[.slice p l.length cap, .agg #[.int .i64 n, .int .i64 d], .string s] w (Yes w) := by
  cases b1 <;> cases b2 <;> cases b3 <;> cases b4
  all_goals first | (exfalso; revert hb; decide) | skip
  all_goals clear hb
  all_goals go_enter Tryd.func5, Tryd.ntmps5
  all_goals go_wp2_with (go_at_call 11; refine (awake_any _ (hV.1.on (al1 _ _))).mono ?_; rintro e w0 ⟨rfl, hb⟩; have E := (env_one w n d).on hb; have C := E.cells; simp only [BC] at C; clear hb)
  all_goals go_ret
  all_goals exact ⟨rfl, E.1⟩
end Go.Proofs.YtbbbmlnggehcdaaDoor
namespace Go.Proofs.YtbbbmlnggehcdaaDoor
open Go.ChangeShapes Go.WideShapes Go.ChangeAt Go.RowKit Go.Shelf
set_option linter.unusedVariables false
set_option linter.unusedSimpArgs false


set_option maxRecDepth 100000 in
set_option maxHeartbeats 8000000 in
theorem texts_000 (p : Option Addr) (l : List (Int × Int)) (cap : Nat) (n d   : Int) (s : ByteArray) (w : World) (hV : Vars w) (hS : Sl w p l) (i1 : I64 n) (i2 : I64 d) (b1 b2 : Bool)
    (g1 : decide ((40 : Int) < (l.length : Int)) = b1) (g2 : decide ((l.length : Int) ≤ 1000) = b2) (hbb : (b1 && b2) = false) (g3 : decide ((1005 : Int) < (l.length : Int)) = false) (g4 : decide ((100 : Int) < (s.size : Int)) = false) (hs : s.size ≤ 1000)
    (hall : l.all okF = false) (hv : vB n d = false) (r1 : sumR l = (0, 0, 1)) 
    (r3 : parseR s.data.toList = (0, 0, 7)) (r4 : parseR s.data.toList = (0, 0, if false then 0 else 7)) :
    Calls Tryd.prog 5 #[.slice p l.length cap, .agg #[.int .i64 n, .int .i64 d], .string s] w (Yes w) := by
  obtain ⟨i3, i4⟩ := i1
  obtain ⟨i5, i6⟩ := i2
  have hVl := fun W => rvalid_any n d W i3 i4 i5 i6
  rw [hv] at hVl
  have hT := fun W (h : Vars W) => text_bad n d W i3 i4 i5 i6 hv

  have hRP := fun W (h : Vars W) => rparse_any s W hs h (b := false) r4
  clear r4 hv

  cases b1 <;> cases b2
  all_goals first | (exfalso; revert hbb; decide) | skip
  all_goals clear hbb
  all_goals go_enter Tryd.func5, Tryd.ntmps5
  all_goals go_wp2_with (first | (go_at_call 11; refine (awake_any _ (hV.1.on (al1 _ _))).mono ?_; rintro e w0 ⟨rfl, hb⟩; have E := (env_one w n d).on hb; have C := E.cells; simp only [BC] at C; clear hb) | (go_at_call 31; (first | (refine (sum_any _ _ _ _ (hS.on E.1) r1).mono ?_) | (refine (sum_any _ _ _ _ (hS.on (belows E.1 (al1 _ _))) r1).mono ?_)); rintro e wA ⟨rfl, hb⟩; (first | (replace E := (E.add _ _).on hb) | (replace E := E.on hb)); replace C := E.cells; simp only [BC] at C; clear hb) | (go_at_call 32; (first | (refine (all_any _ _ _ _ (hS.on E.1)).mono ?_) | (refine (all_any _ _ _ _ (hS.on (belows E.1 (al1 _ _)))).mono ?_)); simp only [hall]; rintro e wA ⟨rfl, hb⟩; (first | (replace E := (E.add _ _).on hb) | (replace E := E.on hb)); replace C := E.cells; simp only [BC] at C; clear hb) | (go_at_call 16; refine (same_any _ _ _ _ _ _ _).mono ?_; simp only [beq_self_eq_true, Bool.and_self]; rintro e wS ⟨rfl, hb⟩; (first | (replace E := (E.add _ _).on hb) | (replace E := E.on hb)); replace C := E.cells; simp only [BC] at C; clear hb) | (go_at_call 34; (first | (refine (hT _ (hV.on E.1)).mono ?_) | (refine (hT _ (hV.on (belows E.1 (al1 _ _)))).mono ?_)); rintro e wA ⟨rfl, hb⟩; (first | (replace E := (E.add _ _).on hb) | (replace E := E.on hb)); replace C := E.cells; simp only [BC] at C; clear hb) | (go_at_call 18; refine (hVl _).mono ?_; rintro e wA ⟨rfl, hb⟩; (first | (replace E := (E.add _ _).on hb) | (replace E := E.on hb)); replace C := E.cells; simp only [BC] at C; clear hb) | (go_at_call 36; (first | (refine (parse_any s _ hs (hV.on E.1) r3).mono ?_) | (refine (parse_any s _ hs (hV.on (belows E.1 (al1 _ _))) r3).mono ?_)); rintro e wA ⟨rfl, hb⟩; (first | (replace E := (E.add _ _).on hb) | (replace E := E.on hb)); replace C := E.cells; simp only [BC] at C; clear hb) | (go_at_call 37; (first | (refine (hRP _ (hV.on E.1)).mono ?_) | (refine (hRP _ (hV.on (belows E.1 (al1 _ _)))).mono ?_)); rintro e wA ⟨rfl, hb⟩; (first | (replace E := (E.add _ _).on hb) | (replace E := E.on hb)); replace C := E.cells; simp only [BC] at C; clear hb))
  all_goals go_ret
  all_goals first | refine ⟨?_, E.1⟩ | refine ⟨?_, belows E.1 (al1 _ _)⟩
  all_goals first | rfl | simp
end Go.Proofs.YtbbbmlnggehcdaaDoor
namespace Go.Proofs.YtbbbmlnggehcdaaDoor
open Go.ChangeShapes Go.WideShapes Go.ChangeAt Go.RowKit Go.Shelf
set_option linter.unusedVariables false
set_option linter.unusedSimpArgs false


set_option maxRecDepth 100000 in
set_option maxHeartbeats 8000000 in
theorem texts_001 (p : Option Addr) (l : List (Int × Int)) (cap : Nat) (n d  y z : Int) (s : ByteArray) (w : World) (hV : Vars w) (hS : Sl w p l) (i1 : I64 n) (i2 : I64 d) (b1 b2 : Bool)
    (g1 : decide ((40 : Int) < (l.length : Int)) = b1) (g2 : decide ((l.length : Int) ≤ 1000) = b2) (hbb : (b1 && b2) = false) (g3 : decide ((1005 : Int) < (l.length : Int)) = false) (g4 : decide ((100 : Int) < (s.size : Int)) = false) (hs : s.size ≤ 1000)
    (hall : l.all okF = false) (hv : vB n d = false) (r1 : sumR l = (0, 0, 1)) 
    (r3 : parseR s.data.toList = (y, z, 0)) (r4 : parseR s.data.toList = (y, z, if true then 0 else 7)) :
    Calls Tryd.prog 5 #[.slice p l.length cap, .agg #[.int .i64 n, .int .i64 d], .string s] w (Yes w) := by
  obtain ⟨i3, i4⟩ := i1
  obtain ⟨i5, i6⟩ := i2
  have hVl := fun W => rvalid_any n d W i3 i4 i5 i6
  rw [hv] at hVl
  have hT := fun W (h : Vars W) => text_bad n d W i3 i4 i5 i6 hv

  have hRP := fun W (h : Vars W) => rparse_any s W hs h (b := true) r4
  clear r4 hv

  cases b1 <;> cases b2
  all_goals first | (exfalso; revert hbb; decide) | skip
  all_goals clear hbb
  all_goals go_enter Tryd.func5, Tryd.ntmps5
  all_goals go_wp2_with (first | (go_at_call 11; refine (awake_any _ (hV.1.on (al1 _ _))).mono ?_; rintro e w0 ⟨rfl, hb⟩; have E := (env_one w n d).on hb; have C := E.cells; simp only [BC] at C; clear hb) | (go_at_call 31; (first | (refine (sum_any _ _ _ _ (hS.on E.1) r1).mono ?_) | (refine (sum_any _ _ _ _ (hS.on (belows E.1 (al1 _ _))) r1).mono ?_)); rintro e wA ⟨rfl, hb⟩; (first | (replace E := (E.add _ _).on hb) | (replace E := E.on hb)); replace C := E.cells; simp only [BC] at C; clear hb) | (go_at_call 32; (first | (refine (all_any _ _ _ _ (hS.on E.1)).mono ?_) | (refine (all_any _ _ _ _ (hS.on (belows E.1 (al1 _ _)))).mono ?_)); simp only [hall]; rintro e wA ⟨rfl, hb⟩; (first | (replace E := (E.add _ _).on hb) | (replace E := E.on hb)); replace C := E.cells; simp only [BC] at C; clear hb) | (go_at_call 16; refine (same_any _ _ _ _ _ _ _).mono ?_; simp only [beq_self_eq_true, Bool.and_self]; rintro e wS ⟨rfl, hb⟩; (first | (replace E := (E.add _ _).on hb) | (replace E := E.on hb)); replace C := E.cells; simp only [BC] at C; clear hb) | (go_at_call 34; (first | (refine (hT _ (hV.on E.1)).mono ?_) | (refine (hT _ (hV.on (belows E.1 (al1 _ _)))).mono ?_)); rintro e wA ⟨rfl, hb⟩; (first | (replace E := (E.add _ _).on hb) | (replace E := E.on hb)); replace C := E.cells; simp only [BC] at C; clear hb) | (go_at_call 18; refine (hVl _).mono ?_; rintro e wA ⟨rfl, hb⟩; (first | (replace E := (E.add _ _).on hb) | (replace E := E.on hb)); replace C := E.cells; simp only [BC] at C; clear hb) | (go_at_call 36; (first | (refine (parse_any s _ hs (hV.on E.1) r3).mono ?_) | (refine (parse_any s _ hs (hV.on (belows E.1 (al1 _ _))) r3).mono ?_)); rintro e wA ⟨rfl, hb⟩; (first | (replace E := (E.add _ _).on hb) | (replace E := E.on hb)); replace C := E.cells; simp only [BC] at C; clear hb) | (go_at_call 37; (first | (refine (hRP _ (hV.on E.1)).mono ?_) | (refine (hRP _ (hV.on (belows E.1 (al1 _ _)))).mono ?_)); rintro e wA ⟨rfl, hb⟩; (first | (replace E := (E.add _ _).on hb) | (replace E := E.on hb)); replace C := E.cells; simp only [BC] at C; clear hb))
  all_goals go_ret
  all_goals first | refine ⟨?_, E.1⟩ | refine ⟨?_, belows E.1 (al1 _ _)⟩
  all_goals first | rfl | simp
end Go.Proofs.YtbbbmlnggehcdaaDoor
namespace Go.Proofs.YtbbbmlnggehcdaaDoor
open Go.ChangeShapes Go.WideShapes Go.ChangeAt Go.RowKit Go.Shelf
set_option linter.unusedVariables false
set_option linter.unusedSimpArgs false


set_option maxRecDepth 100000 in
set_option maxHeartbeats 8000000 in
theorem texts_010 (p : Option Addr) (l : List (Int × Int)) (cap : Nat) (n d   : Int) (s : ByteArray) (w : World) (hV : Vars w) (hS : Sl w p l) (i1 : I64 n) (i2 : I64 d) (b1 b2 : Bool)
    (g1 : decide ((40 : Int) < (l.length : Int)) = b1) (g2 : decide ((l.length : Int) ≤ 1000) = b2) (hbb : (b1 && b2) = false) (g3 : decide ((1005 : Int) < (l.length : Int)) = false) (g4 : decide ((100 : Int) < (s.size : Int)) = false) (hs : s.size ≤ 1000)
    (hall : l.all okF = false) (hv : vB n d = true) (r1 : sumR l = (0, 0, 1)) 
    (r3 : parseR s.data.toList = (0, 0, 7)) (r4 : parseR s.data.toList = (0, 0, if false then 0 else 7)) :
    Calls Tryd.prog 5 #[.slice p l.length cap, .agg #[.int .i64 n, .int .i64 d], .string s] w (Yes w) := by
  obtain ⟨i3, i4⟩ := i1
  obtain ⟨i5, i6⟩ := i2
  have hVl := fun W => rvalid_any n d W i3 i4 i5 i6
  rw [hv] at hVl
  have hT := fun W (h : Vars W) => text_ok n d W (vB_t.1 hv) h.1
  have hRT := fun W => rtext_ok n d W (vB_t.1 hv)
  have hRP := fun W (h : Vars W) => rparse_any s W hs h (b := false) r4
  clear r4 hv
  generalize textL n d = tx at *
  cases b1 <;> cases b2
  all_goals first | (exfalso; revert hbb; decide) | skip
  all_goals clear hbb
  all_goals go_enter Tryd.func5, Tryd.ntmps5
  all_goals go_wp2_with (first | (go_at_call 11; refine (awake_any _ (hV.1.on (al1 _ _))).mono ?_; rintro e w0 ⟨rfl, hb⟩; have E := (env_one w n d).on hb; have C := E.cells; simp only [BC] at C; clear hb) | (go_at_call 31; (first | (refine (sum_any _ _ _ _ (hS.on E.1) r1).mono ?_) | (refine (sum_any _ _ _ _ (hS.on (belows E.1 (al1 _ _))) r1).mono ?_)); rintro e wA ⟨rfl, hb⟩; (first | (replace E := (E.add _ _).on hb) | (replace E := E.on hb)); replace C := E.cells; simp only [BC] at C; clear hb) | (go_at_call 32; (first | (refine (all_any _ _ _ _ (hS.on E.1)).mono ?_) | (refine (all_any _ _ _ _ (hS.on (belows E.1 (al1 _ _)))).mono ?_)); simp only [hall]; rintro e wA ⟨rfl, hb⟩; (first | (replace E := (E.add _ _).on hb) | (replace E := E.on hb)); replace C := E.cells; simp only [BC] at C; clear hb) | (go_at_call 16; refine (same_any _ _ _ _ _ _ _).mono ?_; simp only [beq_self_eq_true, Bool.and_self]; rintro e wS ⟨rfl, hb⟩; (first | (replace E := (E.add _ _).on hb) | (replace E := E.on hb)); replace C := E.cells; simp only [BC] at C; clear hb) | (go_at_call 34; (first | (refine (hT _ (hV.on E.1)).mono ?_) | (refine (hT _ (hV.on (belows E.1 (al1 _ _)))).mono ?_)); rintro e wA ⟨rfl, hb⟩; (first | (replace E := (E.add _ _).on hb) | (replace E := E.on hb)); replace C := E.cells; simp only [BC] at C; clear hb) | (go_at_call 18; refine (hVl _).mono ?_; rintro e wA ⟨rfl, hb⟩; (first | (replace E := (E.add _ _).on hb) | (replace E := E.on hb)); replace C := E.cells; simp only [BC] at C; clear hb) | (go_at_call 35; refine (hRT _).mono ?_; rintro e wA ⟨rfl, hb⟩; (first | (replace E := (E.add _ _).on hb) | (replace E := E.on hb)); replace C := E.cells; simp only [BC] at C; clear hb) | (go_at_call 36; (first | (refine (parse_any s _ hs (hV.on E.1) r3).mono ?_) | (refine (parse_any s _ hs (hV.on (belows E.1 (al1 _ _))) r3).mono ?_)); rintro e wA ⟨rfl, hb⟩; (first | (replace E := (E.add _ _).on hb) | (replace E := E.on hb)); replace C := E.cells; simp only [BC] at C; clear hb) | (go_at_call 37; (first | (refine (hRP _ (hV.on E.1)).mono ?_) | (refine (hRP _ (hV.on (belows E.1 (al1 _ _)))).mono ?_)); rintro e wA ⟨rfl, hb⟩; (first | (replace E := (E.add _ _).on hb) | (replace E := E.on hb)); replace C := E.cells; simp only [BC] at C; clear hb))
  all_goals go_ret
  all_goals first | refine ⟨?_, E.1⟩ | refine ⟨?_, belows E.1 (al1 _ _)⟩
  all_goals first | rfl | simp
end Go.Proofs.YtbbbmlnggehcdaaDoor
namespace Go.Proofs.YtbbbmlnggehcdaaDoor
open Go.ChangeShapes Go.WideShapes Go.ChangeAt Go.RowKit Go.Shelf
set_option linter.unusedVariables false
set_option linter.unusedSimpArgs false


set_option maxRecDepth 100000 in
set_option maxHeartbeats 8000000 in
theorem texts_011 (p : Option Addr) (l : List (Int × Int)) (cap : Nat) (n d  y z : Int) (s : ByteArray) (w : World) (hV : Vars w) (hS : Sl w p l) (i1 : I64 n) (i2 : I64 d) (b1 b2 : Bool)
    (g1 : decide ((40 : Int) < (l.length : Int)) = b1) (g2 : decide ((l.length : Int) ≤ 1000) = b2) (hbb : (b1 && b2) = false) (g3 : decide ((1005 : Int) < (l.length : Int)) = false) (g4 : decide ((100 : Int) < (s.size : Int)) = false) (hs : s.size ≤ 1000)
    (hall : l.all okF = false) (hv : vB n d = true) (r1 : sumR l = (0, 0, 1)) 
    (r3 : parseR s.data.toList = (y, z, 0)) (r4 : parseR s.data.toList = (y, z, if true then 0 else 7)) :
    Calls Tryd.prog 5 #[.slice p l.length cap, .agg #[.int .i64 n, .int .i64 d], .string s] w (Yes w) := by
  obtain ⟨i3, i4⟩ := i1
  obtain ⟨i5, i6⟩ := i2
  have hVl := fun W => rvalid_any n d W i3 i4 i5 i6
  rw [hv] at hVl
  have hT := fun W (h : Vars W) => text_ok n d W (vB_t.1 hv) h.1
  have hRT := fun W => rtext_ok n d W (vB_t.1 hv)
  have hRP := fun W (h : Vars W) => rparse_any s W hs h (b := true) r4
  clear r4 hv
  generalize textL n d = tx at *
  cases b1 <;> cases b2
  all_goals first | (exfalso; revert hbb; decide) | skip
  all_goals clear hbb
  all_goals go_enter Tryd.func5, Tryd.ntmps5
  all_goals go_wp2_with (first | (go_at_call 11; refine (awake_any _ (hV.1.on (al1 _ _))).mono ?_; rintro e w0 ⟨rfl, hb⟩; have E := (env_one w n d).on hb; have C := E.cells; simp only [BC] at C; clear hb) | (go_at_call 31; (first | (refine (sum_any _ _ _ _ (hS.on E.1) r1).mono ?_) | (refine (sum_any _ _ _ _ (hS.on (belows E.1 (al1 _ _))) r1).mono ?_)); rintro e wA ⟨rfl, hb⟩; (first | (replace E := (E.add _ _).on hb) | (replace E := E.on hb)); replace C := E.cells; simp only [BC] at C; clear hb) | (go_at_call 32; (first | (refine (all_any _ _ _ _ (hS.on E.1)).mono ?_) | (refine (all_any _ _ _ _ (hS.on (belows E.1 (al1 _ _)))).mono ?_)); simp only [hall]; rintro e wA ⟨rfl, hb⟩; (first | (replace E := (E.add _ _).on hb) | (replace E := E.on hb)); replace C := E.cells; simp only [BC] at C; clear hb) | (go_at_call 16; refine (same_any _ _ _ _ _ _ _).mono ?_; simp only [beq_self_eq_true, Bool.and_self]; rintro e wS ⟨rfl, hb⟩; (first | (replace E := (E.add _ _).on hb) | (replace E := E.on hb)); replace C := E.cells; simp only [BC] at C; clear hb) | (go_at_call 34; (first | (refine (hT _ (hV.on E.1)).mono ?_) | (refine (hT _ (hV.on (belows E.1 (al1 _ _)))).mono ?_)); rintro e wA ⟨rfl, hb⟩; (first | (replace E := (E.add _ _).on hb) | (replace E := E.on hb)); replace C := E.cells; simp only [BC] at C; clear hb) | (go_at_call 18; refine (hVl _).mono ?_; rintro e wA ⟨rfl, hb⟩; (first | (replace E := (E.add _ _).on hb) | (replace E := E.on hb)); replace C := E.cells; simp only [BC] at C; clear hb) | (go_at_call 35; refine (hRT _).mono ?_; rintro e wA ⟨rfl, hb⟩; (first | (replace E := (E.add _ _).on hb) | (replace E := E.on hb)); replace C := E.cells; simp only [BC] at C; clear hb) | (go_at_call 36; (first | (refine (parse_any s _ hs (hV.on E.1) r3).mono ?_) | (refine (parse_any s _ hs (hV.on (belows E.1 (al1 _ _))) r3).mono ?_)); rintro e wA ⟨rfl, hb⟩; (first | (replace E := (E.add _ _).on hb) | (replace E := E.on hb)); replace C := E.cells; simp only [BC] at C; clear hb) | (go_at_call 37; (first | (refine (hRP _ (hV.on E.1)).mono ?_) | (refine (hRP _ (hV.on (belows E.1 (al1 _ _)))).mono ?_)); rintro e wA ⟨rfl, hb⟩; (first | (replace E := (E.add _ _).on hb) | (replace E := E.on hb)); replace C := E.cells; simp only [BC] at C; clear hb))
  all_goals go_ret
  all_goals first | refine ⟨?_, E.1⟩ | refine ⟨?_, belows E.1 (al1 _ _)⟩
  all_goals first | rfl | simp
end Go.Proofs.YtbbbmlnggehcdaaDoor
namespace Go.Proofs.YtbbbmlnggehcdaaDoor
open Go.ChangeShapes Go.WideShapes Go.ChangeAt Go.RowKit Go.Shelf
set_option linter.unusedVariables false
set_option linter.unusedSimpArgs false


set_option maxRecDepth 100000 in
set_option maxHeartbeats 8000000 in
theorem texts_100 (p : Option Addr) (l : List (Int × Int)) (cap : Nat) (n d x q e0  : Int) (s : ByteArray) (w : World) (hV : Vars w) (hS : Sl w p l) (i1 : I64 n) (i2 : I64 d) (b1 b2 : Bool)
    (g1 : decide ((40 : Int) < (l.length : Int)) = b1) (g2 : decide ((l.length : Int) ≤ 1000) = b2) (hbb : (b1 && b2) = false) (g3 : decide ((1005 : Int) < (l.length : Int)) = false) (g4 : decide ((100 : Int) < (s.size : Int)) = false) (hs : s.size ≤ 1000)
    (hall : l.all okF = true) (hv : vB n d = false) (r1 : sumR l = (x, q, e0)) (r2 : (if 1000 < l.length then (0, 0, 4) else sumF 0 1 l) = (x, q, e0))
    (r3 : parseR s.data.toList = (0, 0, 7)) (r4 : parseR s.data.toList = (0, 0, if false then 0 else 7)) :
    Calls Tryd.prog 5 #[.slice p l.length cap, .agg #[.int .i64 n, .int .i64 d], .string s] w (Yes w) := by
  obtain ⟨i3, i4⟩ := i1
  obtain ⟨i5, i6⟩ := i2
  have hVl := fun W => rvalid_any n d W i3 i4 i5 i6
  rw [hv] at hVl
  have hT := fun W (h : Vars W) => text_bad n d W i3 i4 i5 i6 hv

  have hRP := fun W (h : Vars W) => rparse_any s W hs h (b := false) r4
  clear r4 hv

  cases b1 <;> cases b2
  all_goals first | (exfalso; revert hbb; decide) | skip
  all_goals clear hbb
  all_goals go_enter Tryd.func5, Tryd.ntmps5
  all_goals go_wp2_with (first | (go_at_call 11; refine (awake_any _ (hV.1.on (al1 _ _))).mono ?_; rintro e w0 ⟨rfl, hb⟩; have E := (env_one w n d).on hb; have C := E.cells; simp only [BC] at C; clear hb) | (go_at_call 31; (first | (refine (sum_any _ _ _ _ (hS.on E.1) r1).mono ?_) | (refine (sum_any _ _ _ _ (hS.on (belows E.1 (al1 _ _))) r1).mono ?_)); rintro e wA ⟨rfl, hb⟩; (first | (replace E := (E.add _ _).on hb) | (replace E := E.on hb)); replace C := E.cells; simp only [BC] at C; clear hb) | (go_at_call 32; (first | (refine (all_any _ _ _ _ (hS.on E.1)).mono ?_) | (refine (all_any _ _ _ _ (hS.on (belows E.1 (al1 _ _)))).mono ?_)); simp only [hall]; rintro e wA ⟨rfl, hb⟩; (first | (replace E := (E.add _ _).on hb) | (replace E := E.on hb)); replace C := E.cells; simp only [BC] at C; clear hb) | (go_at_call 16; refine (same_any _ _ _ _ _ _ _).mono ?_; simp only [beq_self_eq_true, Bool.and_self]; rintro e wS ⟨rfl, hb⟩; (first | (replace E := (E.add _ _).on hb) | (replace E := E.on hb)); replace C := E.cells; simp only [BC] at C; clear hb) | (go_at_call 33; (first | (refine (rsum_ok _ _ _ _ (hS.on E.1) hall r2).mono ?_) | (refine (rsum_ok _ _ _ _ (hS.on (belows E.1 (al1 _ _))) hall r2).mono ?_)); rintro e wA ⟨rfl, hb⟩; (first | (replace E := (E.add _ _).on hb) | (replace E := E.on hb)); replace C := E.cells; simp only [BC] at C; clear hb) | (go_at_call 34; (first | (refine (hT _ (hV.on E.1)).mono ?_) | (refine (hT _ (hV.on (belows E.1 (al1 _ _)))).mono ?_)); rintro e wA ⟨rfl, hb⟩; (first | (replace E := (E.add _ _).on hb) | (replace E := E.on hb)); replace C := E.cells; simp only [BC] at C; clear hb) | (go_at_call 18; refine (hVl _).mono ?_; rintro e wA ⟨rfl, hb⟩; (first | (replace E := (E.add _ _).on hb) | (replace E := E.on hb)); replace C := E.cells; simp only [BC] at C; clear hb) | (go_at_call 36; (first | (refine (parse_any s _ hs (hV.on E.1) r3).mono ?_) | (refine (parse_any s _ hs (hV.on (belows E.1 (al1 _ _))) r3).mono ?_)); rintro e wA ⟨rfl, hb⟩; (first | (replace E := (E.add _ _).on hb) | (replace E := E.on hb)); replace C := E.cells; simp only [BC] at C; clear hb) | (go_at_call 37; (first | (refine (hRP _ (hV.on E.1)).mono ?_) | (refine (hRP _ (hV.on (belows E.1 (al1 _ _)))).mono ?_)); rintro e wA ⟨rfl, hb⟩; (first | (replace E := (E.add _ _).on hb) | (replace E := E.on hb)); replace C := E.cells; simp only [BC] at C; clear hb))
  all_goals go_ret
  all_goals first | refine ⟨?_, E.1⟩ | refine ⟨?_, belows E.1 (al1 _ _)⟩
  all_goals first | rfl | simp
end Go.Proofs.YtbbbmlnggehcdaaDoor
namespace Go.Proofs.YtbbbmlnggehcdaaDoor
open Go.ChangeShapes Go.WideShapes Go.ChangeAt Go.RowKit Go.Shelf
set_option linter.unusedVariables false
set_option linter.unusedSimpArgs false


set_option maxRecDepth 100000 in
set_option maxHeartbeats 8000000 in
theorem texts_101 (p : Option Addr) (l : List (Int × Int)) (cap : Nat) (n d x q e0 y z : Int) (s : ByteArray) (w : World) (hV : Vars w) (hS : Sl w p l) (i1 : I64 n) (i2 : I64 d) (b1 b2 : Bool)
    (g1 : decide ((40 : Int) < (l.length : Int)) = b1) (g2 : decide ((l.length : Int) ≤ 1000) = b2) (hbb : (b1 && b2) = false) (g3 : decide ((1005 : Int) < (l.length : Int)) = false) (g4 : decide ((100 : Int) < (s.size : Int)) = false) (hs : s.size ≤ 1000)
    (hall : l.all okF = true) (hv : vB n d = false) (r1 : sumR l = (x, q, e0)) (r2 : (if 1000 < l.length then (0, 0, 4) else sumF 0 1 l) = (x, q, e0))
    (r3 : parseR s.data.toList = (y, z, 0)) (r4 : parseR s.data.toList = (y, z, if true then 0 else 7)) :
    Calls Tryd.prog 5 #[.slice p l.length cap, .agg #[.int .i64 n, .int .i64 d], .string s] w (Yes w) := by
  obtain ⟨i3, i4⟩ := i1
  obtain ⟨i5, i6⟩ := i2
  have hVl := fun W => rvalid_any n d W i3 i4 i5 i6
  rw [hv] at hVl
  have hT := fun W (h : Vars W) => text_bad n d W i3 i4 i5 i6 hv

  have hRP := fun W (h : Vars W) => rparse_any s W hs h (b := true) r4
  clear r4 hv

  cases b1 <;> cases b2
  all_goals first | (exfalso; revert hbb; decide) | skip
  all_goals clear hbb
  all_goals go_enter Tryd.func5, Tryd.ntmps5
  all_goals go_wp2_with (first | (go_at_call 11; refine (awake_any _ (hV.1.on (al1 _ _))).mono ?_; rintro e w0 ⟨rfl, hb⟩; have E := (env_one w n d).on hb; have C := E.cells; simp only [BC] at C; clear hb) | (go_at_call 31; (first | (refine (sum_any _ _ _ _ (hS.on E.1) r1).mono ?_) | (refine (sum_any _ _ _ _ (hS.on (belows E.1 (al1 _ _))) r1).mono ?_)); rintro e wA ⟨rfl, hb⟩; (first | (replace E := (E.add _ _).on hb) | (replace E := E.on hb)); replace C := E.cells; simp only [BC] at C; clear hb) | (go_at_call 32; (first | (refine (all_any _ _ _ _ (hS.on E.1)).mono ?_) | (refine (all_any _ _ _ _ (hS.on (belows E.1 (al1 _ _)))).mono ?_)); simp only [hall]; rintro e wA ⟨rfl, hb⟩; (first | (replace E := (E.add _ _).on hb) | (replace E := E.on hb)); replace C := E.cells; simp only [BC] at C; clear hb) | (go_at_call 16; refine (same_any _ _ _ _ _ _ _).mono ?_; simp only [beq_self_eq_true, Bool.and_self]; rintro e wS ⟨rfl, hb⟩; (first | (replace E := (E.add _ _).on hb) | (replace E := E.on hb)); replace C := E.cells; simp only [BC] at C; clear hb) | (go_at_call 33; (first | (refine (rsum_ok _ _ _ _ (hS.on E.1) hall r2).mono ?_) | (refine (rsum_ok _ _ _ _ (hS.on (belows E.1 (al1 _ _))) hall r2).mono ?_)); rintro e wA ⟨rfl, hb⟩; (first | (replace E := (E.add _ _).on hb) | (replace E := E.on hb)); replace C := E.cells; simp only [BC] at C; clear hb) | (go_at_call 34; (first | (refine (hT _ (hV.on E.1)).mono ?_) | (refine (hT _ (hV.on (belows E.1 (al1 _ _)))).mono ?_)); rintro e wA ⟨rfl, hb⟩; (first | (replace E := (E.add _ _).on hb) | (replace E := E.on hb)); replace C := E.cells; simp only [BC] at C; clear hb) | (go_at_call 18; refine (hVl _).mono ?_; rintro e wA ⟨rfl, hb⟩; (first | (replace E := (E.add _ _).on hb) | (replace E := E.on hb)); replace C := E.cells; simp only [BC] at C; clear hb) | (go_at_call 36; (first | (refine (parse_any s _ hs (hV.on E.1) r3).mono ?_) | (refine (parse_any s _ hs (hV.on (belows E.1 (al1 _ _))) r3).mono ?_)); rintro e wA ⟨rfl, hb⟩; (first | (replace E := (E.add _ _).on hb) | (replace E := E.on hb)); replace C := E.cells; simp only [BC] at C; clear hb) | (go_at_call 37; (first | (refine (hRP _ (hV.on E.1)).mono ?_) | (refine (hRP _ (hV.on (belows E.1 (al1 _ _)))).mono ?_)); rintro e wA ⟨rfl, hb⟩; (first | (replace E := (E.add _ _).on hb) | (replace E := E.on hb)); replace C := E.cells; simp only [BC] at C; clear hb))
  all_goals go_ret
  all_goals first | refine ⟨?_, E.1⟩ | refine ⟨?_, belows E.1 (al1 _ _)⟩
  all_goals first | rfl | simp
end Go.Proofs.YtbbbmlnggehcdaaDoor
namespace Go.Proofs.YtbbbmlnggehcdaaDoor
open Go.ChangeShapes Go.WideShapes Go.ChangeAt Go.RowKit Go.Shelf
set_option linter.unusedVariables false
set_option linter.unusedSimpArgs false


set_option maxRecDepth 100000 in
set_option maxHeartbeats 8000000 in
theorem texts_110 (p : Option Addr) (l : List (Int × Int)) (cap : Nat) (n d x q e0  : Int) (s : ByteArray) (w : World) (hV : Vars w) (hS : Sl w p l) (i1 : I64 n) (i2 : I64 d) (b1 b2 : Bool)
    (g1 : decide ((40 : Int) < (l.length : Int)) = b1) (g2 : decide ((l.length : Int) ≤ 1000) = b2) (hbb : (b1 && b2) = false) (g3 : decide ((1005 : Int) < (l.length : Int)) = false) (g4 : decide ((100 : Int) < (s.size : Int)) = false) (hs : s.size ≤ 1000)
    (hall : l.all okF = true) (hv : vB n d = true) (r1 : sumR l = (x, q, e0)) (r2 : (if 1000 < l.length then (0, 0, 4) else sumF 0 1 l) = (x, q, e0))
    (r3 : parseR s.data.toList = (0, 0, 7)) (r4 : parseR s.data.toList = (0, 0, if false then 0 else 7)) :
    Calls Tryd.prog 5 #[.slice p l.length cap, .agg #[.int .i64 n, .int .i64 d], .string s] w (Yes w) := by
  obtain ⟨i3, i4⟩ := i1
  obtain ⟨i5, i6⟩ := i2
  have hVl := fun W => rvalid_any n d W i3 i4 i5 i6
  rw [hv] at hVl
  have hT := fun W (h : Vars W) => text_ok n d W (vB_t.1 hv) h.1
  have hRT := fun W => rtext_ok n d W (vB_t.1 hv)
  have hRP := fun W (h : Vars W) => rparse_any s W hs h (b := false) r4
  clear r4 hv
  generalize textL n d = tx at *
  cases b1 <;> cases b2
  all_goals first | (exfalso; revert hbb; decide) | skip
  all_goals clear hbb
  all_goals go_enter Tryd.func5, Tryd.ntmps5
  all_goals go_wp2_with (first | (go_at_call 11; refine (awake_any _ (hV.1.on (al1 _ _))).mono ?_; rintro e w0 ⟨rfl, hb⟩; have E := (env_one w n d).on hb; have C := E.cells; simp only [BC] at C; clear hb) | (go_at_call 31; (first | (refine (sum_any _ _ _ _ (hS.on E.1) r1).mono ?_) | (refine (sum_any _ _ _ _ (hS.on (belows E.1 (al1 _ _))) r1).mono ?_)); rintro e wA ⟨rfl, hb⟩; (first | (replace E := (E.add _ _).on hb) | (replace E := E.on hb)); replace C := E.cells; simp only [BC] at C; clear hb) | (go_at_call 32; (first | (refine (all_any _ _ _ _ (hS.on E.1)).mono ?_) | (refine (all_any _ _ _ _ (hS.on (belows E.1 (al1 _ _)))).mono ?_)); simp only [hall]; rintro e wA ⟨rfl, hb⟩; (first | (replace E := (E.add _ _).on hb) | (replace E := E.on hb)); replace C := E.cells; simp only [BC] at C; clear hb) | (go_at_call 16; refine (same_any _ _ _ _ _ _ _).mono ?_; simp only [beq_self_eq_true, Bool.and_self]; rintro e wS ⟨rfl, hb⟩; (first | (replace E := (E.add _ _).on hb) | (replace E := E.on hb)); replace C := E.cells; simp only [BC] at C; clear hb) | (go_at_call 33; (first | (refine (rsum_ok _ _ _ _ (hS.on E.1) hall r2).mono ?_) | (refine (rsum_ok _ _ _ _ (hS.on (belows E.1 (al1 _ _))) hall r2).mono ?_)); rintro e wA ⟨rfl, hb⟩; (first | (replace E := (E.add _ _).on hb) | (replace E := E.on hb)); replace C := E.cells; simp only [BC] at C; clear hb) | (go_at_call 34; (first | (refine (hT _ (hV.on E.1)).mono ?_) | (refine (hT _ (hV.on (belows E.1 (al1 _ _)))).mono ?_)); rintro e wA ⟨rfl, hb⟩; (first | (replace E := (E.add _ _).on hb) | (replace E := E.on hb)); replace C := E.cells; simp only [BC] at C; clear hb) | (go_at_call 18; refine (hVl _).mono ?_; rintro e wA ⟨rfl, hb⟩; (first | (replace E := (E.add _ _).on hb) | (replace E := E.on hb)); replace C := E.cells; simp only [BC] at C; clear hb) | (go_at_call 35; refine (hRT _).mono ?_; rintro e wA ⟨rfl, hb⟩; (first | (replace E := (E.add _ _).on hb) | (replace E := E.on hb)); replace C := E.cells; simp only [BC] at C; clear hb) | (go_at_call 36; (first | (refine (parse_any s _ hs (hV.on E.1) r3).mono ?_) | (refine (parse_any s _ hs (hV.on (belows E.1 (al1 _ _))) r3).mono ?_)); rintro e wA ⟨rfl, hb⟩; (first | (replace E := (E.add _ _).on hb) | (replace E := E.on hb)); replace C := E.cells; simp only [BC] at C; clear hb) | (go_at_call 37; (first | (refine (hRP _ (hV.on E.1)).mono ?_) | (refine (hRP _ (hV.on (belows E.1 (al1 _ _)))).mono ?_)); rintro e wA ⟨rfl, hb⟩; (first | (replace E := (E.add _ _).on hb) | (replace E := E.on hb)); replace C := E.cells; simp only [BC] at C; clear hb))
  all_goals go_ret
  all_goals first | refine ⟨?_, E.1⟩ | refine ⟨?_, belows E.1 (al1 _ _)⟩
  all_goals first | rfl | simp
end Go.Proofs.YtbbbmlnggehcdaaDoor
namespace Go.Proofs.YtbbbmlnggehcdaaDoor
open Go.ChangeShapes Go.WideShapes Go.ChangeAt Go.RowKit Go.Shelf
set_option linter.unusedVariables false
set_option linter.unusedSimpArgs false


set_option maxRecDepth 100000 in
set_option maxHeartbeats 8000000 in
theorem texts_111 (p : Option Addr) (l : List (Int × Int)) (cap : Nat) (n d x q e0 y z : Int) (s : ByteArray) (w : World) (hV : Vars w) (hS : Sl w p l) (i1 : I64 n) (i2 : I64 d) (b1 b2 : Bool)
    (g1 : decide ((40 : Int) < (l.length : Int)) = b1) (g2 : decide ((l.length : Int) ≤ 1000) = b2) (hbb : (b1 && b2) = false) (g3 : decide ((1005 : Int) < (l.length : Int)) = false) (g4 : decide ((100 : Int) < (s.size : Int)) = false) (hs : s.size ≤ 1000)
    (hall : l.all okF = true) (hv : vB n d = true) (r1 : sumR l = (x, q, e0)) (r2 : (if 1000 < l.length then (0, 0, 4) else sumF 0 1 l) = (x, q, e0))
    (r3 : parseR s.data.toList = (y, z, 0)) (r4 : parseR s.data.toList = (y, z, if true then 0 else 7)) :
    Calls Tryd.prog 5 #[.slice p l.length cap, .agg #[.int .i64 n, .int .i64 d], .string s] w (Yes w) := by
  obtain ⟨i3, i4⟩ := i1
  obtain ⟨i5, i6⟩ := i2
  have hVl := fun W => rvalid_any n d W i3 i4 i5 i6
  rw [hv] at hVl
  have hT := fun W (h : Vars W) => text_ok n d W (vB_t.1 hv) h.1
  have hRT := fun W => rtext_ok n d W (vB_t.1 hv)
  have hRP := fun W (h : Vars W) => rparse_any s W hs h (b := true) r4
  clear r4 hv
  generalize textL n d = tx at *
  cases b1 <;> cases b2
  all_goals first | (exfalso; revert hbb; decide) | skip
  all_goals clear hbb
  all_goals go_enter Tryd.func5, Tryd.ntmps5
  all_goals go_wp2_with (first | (go_at_call 11; refine (awake_any _ (hV.1.on (al1 _ _))).mono ?_; rintro e w0 ⟨rfl, hb⟩; have E := (env_one w n d).on hb; have C := E.cells; simp only [BC] at C; clear hb) | (go_at_call 31; (first | (refine (sum_any _ _ _ _ (hS.on E.1) r1).mono ?_) | (refine (sum_any _ _ _ _ (hS.on (belows E.1 (al1 _ _))) r1).mono ?_)); rintro e wA ⟨rfl, hb⟩; (first | (replace E := (E.add _ _).on hb) | (replace E := E.on hb)); replace C := E.cells; simp only [BC] at C; clear hb) | (go_at_call 32; (first | (refine (all_any _ _ _ _ (hS.on E.1)).mono ?_) | (refine (all_any _ _ _ _ (hS.on (belows E.1 (al1 _ _)))).mono ?_)); simp only [hall]; rintro e wA ⟨rfl, hb⟩; (first | (replace E := (E.add _ _).on hb) | (replace E := E.on hb)); replace C := E.cells; simp only [BC] at C; clear hb) | (go_at_call 16; refine (same_any _ _ _ _ _ _ _).mono ?_; simp only [beq_self_eq_true, Bool.and_self]; rintro e wS ⟨rfl, hb⟩; (first | (replace E := (E.add _ _).on hb) | (replace E := E.on hb)); replace C := E.cells; simp only [BC] at C; clear hb) | (go_at_call 33; (first | (refine (rsum_ok _ _ _ _ (hS.on E.1) hall r2).mono ?_) | (refine (rsum_ok _ _ _ _ (hS.on (belows E.1 (al1 _ _))) hall r2).mono ?_)); rintro e wA ⟨rfl, hb⟩; (first | (replace E := (E.add _ _).on hb) | (replace E := E.on hb)); replace C := E.cells; simp only [BC] at C; clear hb) | (go_at_call 34; (first | (refine (hT _ (hV.on E.1)).mono ?_) | (refine (hT _ (hV.on (belows E.1 (al1 _ _)))).mono ?_)); rintro e wA ⟨rfl, hb⟩; (first | (replace E := (E.add _ _).on hb) | (replace E := E.on hb)); replace C := E.cells; simp only [BC] at C; clear hb) | (go_at_call 18; refine (hVl _).mono ?_; rintro e wA ⟨rfl, hb⟩; (first | (replace E := (E.add _ _).on hb) | (replace E := E.on hb)); replace C := E.cells; simp only [BC] at C; clear hb) | (go_at_call 35; refine (hRT _).mono ?_; rintro e wA ⟨rfl, hb⟩; (first | (replace E := (E.add _ _).on hb) | (replace E := E.on hb)); replace C := E.cells; simp only [BC] at C; clear hb) | (go_at_call 36; (first | (refine (parse_any s _ hs (hV.on E.1) r3).mono ?_) | (refine (parse_any s _ hs (hV.on (belows E.1 (al1 _ _))) r3).mono ?_)); rintro e wA ⟨rfl, hb⟩; (first | (replace E := (E.add _ _).on hb) | (replace E := E.on hb)); replace C := E.cells; simp only [BC] at C; clear hb) | (go_at_call 37; (first | (refine (hRP _ (hV.on E.1)).mono ?_) | (refine (hRP _ (hV.on (belows E.1 (al1 _ _)))).mono ?_)); rintro e wA ⟨rfl, hb⟩; (first | (replace E := (E.add _ _).on hb) | (replace E := E.on hb)); replace C := E.cells; simp only [BC] at C; clear hb))
  all_goals go_ret
  all_goals first | refine ⟨?_, E.1⟩ | refine ⟨?_, belows E.1 (al1 _ _)⟩
  all_goals first | rfl | simp
end Go.Proofs.YtbbbmlnggehcdaaDoor
namespace Go.Proofs.YtbbbmlnggehcdaaDoor
open Go.ChangeShapes Go.WideShapes Go.ChangeAt Go.RowKit Go.Shelf
set_option linter.unusedVariables false

theorem texts_walk (p : Option Addr) (l : List (Int × Int)) (cap : Nat) (n d : Int) (s : ByteArray) (w : World) (hV : Vars w) (hS : Sl w p l) (i1 : I64 n) (i2 : I64 d) :
    Calls Tryd.prog 5 #[.slice p l.length cap, .agg #[.int .i64 n, .int .i64 d], .string s] w (Yes w) := by
  by_cases hb : (decide ((40 : Int) < (l.length : Int)) && decide ((l.length : Int) ≤ 1000) || decide ((1005 : Int) < (l.length : Int)) || decide ((100 : Int) < (s.size : Int))) = true
  · exact texts_early p l cap n d s w hV _ _ _ _ rfl rfl rfl rfl hb
  · simp only [Bool.or_eq_true, not_or, Bool.not_eq_true] at hb
    obtain ⟨⟨hbb, g3⟩, g4⟩ := hb
    have hs : s.size ≤ 1000 := by have := of_decide_eq_false g4; omega
    have r3 : ∀ {y z e : Int}, parseR s.data.toList = (y, z, e) → (e = 0 ∧ V y z ∧ textL y z = s.data.toList) ∨ (y = 0 ∧ z = 0 ∧ e = 7) := fun h => parse_is h
    obtain ⟨y, z, e, hp⟩ : ∃ y z e, parseR s.data.toList = (y, z, e) := ⟨_, _, _, rfl⟩
    cases hall : l.all okF
    · have r1 : sumR l = (0, 0, 1) := by unfold sumR; rw [hall]; rfl
      cases hv : vB n d
      · rcases r3 hp with ⟨rfl, -, -⟩ | ⟨rfl, rfl, rfl⟩
        · exact texts_001 p l cap n d y z s w hV hS i1 i2 _ _ rfl rfl hbb g3 g4 hs hall hv r1 hp hp
        · exact texts_000 p l cap n d s w hV hS i1 i2 _ _ rfl rfl hbb g3 g4 hs hall hv r1 hp hp
      · rcases r3 hp with ⟨rfl, -, -⟩ | ⟨rfl, rfl, rfl⟩
        · exact texts_011 p l cap n d y z s w hV hS i1 i2 _ _ rfl rfl hbb g3 g4 hs hall hv r1 hp hp
        · exact texts_010 p l cap n d s w hV hS i1 i2 _ _ rfl rfl hbb g3 g4 hs hall hv r1 hp hp
    · obtain ⟨a, b, f, r2⟩ : ∃ a b f, (if 1000 < l.length then ((0 : Int), (0 : Int), (4 : Int)) else sumF 0 1 l) = (a, b, f) := ⟨_, _, _, rfl⟩
      have r1 : sumR l = (a, b, f) := by unfold sumR; rw [hall, if_pos rfl]; exact r2
      cases hv : vB n d
      · rcases r3 hp with ⟨rfl, -, -⟩ | ⟨rfl, rfl, rfl⟩
        · exact texts_101 p l cap n d a b f y z s w hV hS i1 i2 _ _ rfl rfl hbb g3 g4 hs hall hv r1 r2 hp hp
        · exact texts_100 p l cap n d a b f s w hV hS i1 i2 _ _ rfl rfl hbb g3 g4 hs hall hv r1 r2 hp hp
      · rcases r3 hp with ⟨rfl, -, -⟩ | ⟨rfl, rfl, rfl⟩
        · exact texts_111 p l cap n d a b f y z s w hV hS i1 i2 _ _ rfl rfl hbb g3 g4 hs hall hv r1 r2 hp hp
        · exact texts_110 p l cap n d a b f s w hV hS i1 i2 _ _ rfl rfl hbb g3 g4 hs hall hv r1 r2 hp hp
end Go.Proofs.YtbbbmlnggehcdaaDoor
