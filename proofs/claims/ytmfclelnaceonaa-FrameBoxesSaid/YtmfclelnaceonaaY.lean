/- FrameBoxes: the walk. -/
import Derived.Test.YtmfclelnaceonaaXh
namespace Go.Proofs.Ytmfclelnaceonaa
open Go.ChangeShapes Go.WideShapes Go.ChangeAt Go.RowKit
set_option linter.unusedVariables false
set_option linter.unusedSimpArgs false

theorem s_x8 {w0 w : World} {g0 g1 g2 g3 g4 : Nat} {a0_0 a0_1 a0_2 a1_0 a1_1 a1_2 a1_3 a1_4 a1_5 a2_0 a2_1 a2_2 a2_3 a2_4 a2_5 a3_0 a3_1 a3_2 a4_0 a4_1 : Value} (E : Env w0 w (⟨g0, 37, #[a0_0, a0_1, a0_2]⟩ :: ⟨g1, 39, #[a1_0, a1_1, a1_2, a1_3, a1_4, a1_5]⟩ :: ⟨g2, 39, #[a2_0, a2_1, a2_2, a2_3, a2_4, a2_5]⟩ :: ⟨g3, 37, #[a3_0, a3_1, a3_2]⟩ :: ⟨g4, 23, #[a4_0, a4_1]⟩ :: [])) : Env w0 w (⟨g0, 37, #[a0_0, a0_1, a0_2]⟩ :: ⟨g1, 39, #[a1_0, a1_1, a1_2, a1_3, a1_4, a1_5]⟩ :: ⟨g2, 39, #[a2_0, a2_1, a2_2, a2_3, a2_4, a2_5]⟩ :: ⟨g3, 37, #[a3_0, a3_1, a3_2]⟩ :: ⟨g4, 23, #[a4_0, a4_1]⟩ :: []) ∧ w.cell? ⟨g0, 0, none⟩ = some a0_0 ∧ w.cell? ⟨g0, 1, none⟩ = some a0_1 ∧ w.cell? ⟨g0, 2, none⟩ = some a0_2 ∧ w.cell? ⟨g2, 0, none⟩ = some a2_0 ∧ w.cell? ⟨g2, 1, none⟩ = some a2_1 ∧ w.cell? ⟨g2, 2, none⟩ = some a2_2 ∧ w.cell? ⟨g2, 3, none⟩ = some a2_3 ∧ w.cell? ⟨g2, 4, none⟩ = some a2_4 ∧ w.cell? ⟨g2, 5, none⟩ = some a2_5 := by
  have C := E.cells
  simp [BC, CF] at C
  exact ⟨E, C.1.2.1.1, C.1.2.2.1.1, C.1.2.2.2.1, C.2.2.1.2.1.1, C.2.2.1.2.2.1.1, C.2.2.1.2.2.2.1.1, C.2.2.1.2.2.2.2.1.1, C.2.2.1.2.2.2.2.2.1.1, C.2.2.1.2.2.2.2.2.2.1⟩
theorem s_x19 {w0 w : World} {g0 g1 g2 g3 g4 g5 g6 : Nat} {a0_0 a0_1 a0_2 a1_0 a1_1 a1_2 a2_0 a2_1 a2_2 a3_0 a3_1 a3_2 a3_3 a3_4 a3_5 a4_0 a4_1 a4_2 a4_3 a4_4 a4_5 a5_0 a5_1 a5_2 a6_0 a6_1 : Value} (E : Env w0 w (⟨g0, 37, #[a0_0, a0_1, a0_2]⟩ :: ⟨g1, 37, #[a1_0, a1_1, a1_2]⟩ :: ⟨g2, 37, #[a2_0, a2_1, a2_2]⟩ :: ⟨g3, 39, #[a3_0, a3_1, a3_2, a3_3, a3_4, a3_5]⟩ :: ⟨g4, 39, #[a4_0, a4_1, a4_2, a4_3, a4_4, a4_5]⟩ :: ⟨g5, 37, #[a5_0, a5_1, a5_2]⟩ :: ⟨g6, 23, #[a6_0, a6_1]⟩ :: [])) : Env w0 w (⟨g0, 37, #[a0_0, a0_1, a0_2]⟩ :: ⟨g1, 37, #[a1_0, a1_1, a1_2]⟩ :: ⟨g2, 37, #[a2_0, a2_1, a2_2]⟩ :: ⟨g3, 39, #[a3_0, a3_1, a3_2, a3_3, a3_4, a3_5]⟩ :: ⟨g4, 39, #[a4_0, a4_1, a4_2, a4_3, a4_4, a4_5]⟩ :: ⟨g5, 37, #[a5_0, a5_1, a5_2]⟩ :: ⟨g6, 23, #[a6_0, a6_1]⟩ :: []) ∧ w.cell? ⟨g0, 0, none⟩ = some a0_0 ∧ w.cell? ⟨g0, 1, none⟩ = some a0_1 ∧ w.cell? ⟨g0, 2, none⟩ = some a0_2 ∧ w.cell? ⟨g2, 0, none⟩ = some a2_0 ∧ w.cell? ⟨g2, 1, none⟩ = some a2_1 ∧ w.cell? ⟨g2, 2, none⟩ = some a2_2 := by
  have C := E.cells
  simp [BC, CF] at C
  exact ⟨E, C.1.2.1.1, C.1.2.2.1.1, C.1.2.2.2.1, C.2.2.1.2.1.1, C.2.2.1.2.2.1.1, C.2.2.1.2.2.2.1⟩
theorem s_x23 {w0 w : World} {g0 g1 g2 g3 g4 g5 g6 g7 : Nat} {a0_0 a0_1 a0_2 a1_0 a1_1 a1_2 a2_0 a2_1 a2_2 a3_0 a3_1 a3_2 a4_0 a4_1 a4_2 a4_3 a4_4 a4_5 a5_0 a5_1 a5_2 a5_3 a5_4 a5_5 a6_0 a6_1 a6_2 a7_0 a7_1 : Value} (E : Env w0 w (⟨g0, 37, #[a0_0, a0_1, a0_2]⟩ :: ⟨g1, 37, #[a1_0, a1_1, a1_2]⟩ :: ⟨g2, 37, #[a2_0, a2_1, a2_2]⟩ :: ⟨g3, 37, #[a3_0, a3_1, a3_2]⟩ :: ⟨g4, 39, #[a4_0, a4_1, a4_2, a4_3, a4_4, a4_5]⟩ :: ⟨g5, 39, #[a5_0, a5_1, a5_2, a5_3, a5_4, a5_5]⟩ :: ⟨g6, 37, #[a6_0, a6_1, a6_2]⟩ :: ⟨g7, 23, #[a7_0, a7_1]⟩ :: [])) : Env w0 w (⟨g0, 37, #[a0_0, a0_1, a0_2]⟩ :: ⟨g1, 37, #[a1_0, a1_1, a1_2]⟩ :: ⟨g2, 37, #[a2_0, a2_1, a2_2]⟩ :: ⟨g3, 37, #[a3_0, a3_1, a3_2]⟩ :: ⟨g4, 39, #[a4_0, a4_1, a4_2, a4_3, a4_4, a4_5]⟩ :: ⟨g5, 39, #[a5_0, a5_1, a5_2, a5_3, a5_4, a5_5]⟩ :: ⟨g6, 37, #[a6_0, a6_1, a6_2]⟩ :: ⟨g7, 23, #[a7_0, a7_1]⟩ :: []) ∧ w.cell? ⟨g0, 0, none⟩ = some a0_0 ∧ w.cell? ⟨g0, 1, none⟩ = some a0_1 ∧ w.cell? ⟨g0, 2, none⟩ = some a0_2 ∧ w.cell? ⟨g6, 0, none⟩ = some a6_0 ∧ w.cell? ⟨g6, 1, none⟩ = some a6_1 ∧ w.cell? ⟨g6, 2, none⟩ = some a6_2 := by
  have C := E.cells
  simp [BC, CF] at C
  exact ⟨E, C.1.2.1.1, C.1.2.2.1.1, C.1.2.2.2.1, C.2.2.2.2.2.2.1.2.1.1, C.2.2.2.2.2.2.1.2.2.1.1, C.2.2.2.2.2.2.1.2.2.2.1⟩
theorem pr_a (ws : World) (c d : Array Value) : ∃ g1 g2 : Nat, Value.slice (some ⟨ws.heap.size, 0, none⟩) 3 3 = .slice (some ⟨g1, 0, none⟩) 3 3 ∧ Value.slice (some ⟨ws.heap.size + 1, 0, none⟩) 3 3 = .slice (some ⟨g2, 0, none⟩) 3 3 ∧ ws.heap.size ≤ g1 ∧ ws.heap.size ≤ g2 ∧ g1 ≠ g2 ∧
    Has ((ws.drew.alloc (.cells c 3)).alloc (.cells d 3)) g1 3 c ∧ Has ((ws.drew.alloc (.cells c 3)).alloc (.cells d 3)) g2 3 d ∧ Below ws.heap.size ws ((ws.drew.alloc (.cells c 3)).alloc (.cells d 3)) := by
  have hz : (ws.drew.alloc (.cells c 3)).heap.size = ws.heap.size + 1 := by rw [World.size_alloc]; rfl
  have H1 := (Has.new_ ws.drew 3 c).on (al1 (ws.drew.alloc (.cells c 3)) (.cells d 3))
  have H2 := Has.new_ (ws.drew.alloc (.cells c 3)) 3 d
  rw [hz] at H2
  exact ⟨_, _, rfl, rfl, Nat.le_refl _, Nat.le_succ _, by omega, H1, H2, al (al (below_dr (Below.refl _ _)) _) _⟩
theorem pr_b (ws : World) (c d : Array Value) : ∃ g1 g2 : Nat, Value.slice (some ⟨ws.heap.size + 1, 0, none⟩) 3 3 = .slice (some ⟨g1, 0, none⟩) 3 3 ∧ Value.slice (some ⟨ws.heap.size, 0, none⟩) 3 3 = .slice (some ⟨g2, 0, none⟩) 3 3 ∧ ws.heap.size ≤ g1 ∧ ws.heap.size ≤ g2 ∧ g1 ≠ g2 ∧
    Has ((ws.drew.alloc (.cells d 3)).alloc (.cells c 3)) g1 3 c ∧ Has ((ws.drew.alloc (.cells d 3)).alloc (.cells c 3)) g2 3 d ∧ Below ws.heap.size ws ((ws.drew.alloc (.cells d 3)).alloc (.cells c 3)) := by
  have hz : (ws.drew.alloc (.cells d 3)).heap.size = ws.heap.size + 1 := by rw [World.size_alloc]; rfl
  have H1 := (Has.new_ ws.drew 3 d).on (al1 (ws.drew.alloc (.cells d 3)) (.cells c 3))
  have H2 := Has.new_ (ws.drew.alloc (.cells d 3)) 3 c
  rw [hz] at H2
  exact ⟨_, _, rfl, rfl, Nat.le_succ _, Nat.le_refl _, by omega, H2, H1, al (al (below_dr (Below.refl _ _)) _) _⟩
theorem part_b (n p : Int) (hn : 0 ≤ n ∧ n ≤ 4194304) (hp : 0 ≤ p ∧ p ≤ 65535) (w : World) : Calls Try.prog 32 #[.int .i64 n, .int .u16 p] w fun e w' => e = .returned (.int .i64 (prt n p)) ∧ Below w.heap.size w w' :=
  (part_32 n p hn hp w).mono fun e w' h => ⟨h.1, h.2 ▸ Below.refl _ _⟩
set_option maxHeartbeats 16000000 in
set_option maxRecDepth 100000 in
theorem boxes_walk (t : Tn) (at_ : Pt) (bx : Bx) (uu vv ww : Int) (w : World) (hu : 0 ≤ uu ∧ uu ≤ 65535) (hv : 0 ≤ vv ∧ vv ≤ 65535) (hw : 0 ≤ ww ∧ ww ≤ 65535) :
    Calls Try.prog 9 #[t.val, at_.val, bx.val, .int .u16 uu, .int .u16 vv, .int .u16 ww] w fun e w' => e = .returned (.bool true) ∧ Below w.heap.size w w' := by
  have hr := fun g W (h : Sl W (some ⟨g, 0, none⟩) [at_, bx.lo, bx.hi]) => ready_28 t (some ⟨g, 0, none⟩) [at_, bx.lo, bx.hi] 3 W h
  simp only [List.length_cons, List.length_nil, Nat.zero_add, List.all_cons, List.all_nil, Bool.and_true, Nat.reduceAdd] at hr
  cases hc : vT t && (nearB at_ && (nearB bx.lo && nearB bx.hi))
  · rw [hc] at hr
    clear hc hu hv hw
    obtain ⟨x, y⟩ := t
    obtain ⟨a0, a1, a2⟩ := at_
    obtain ⟨⟨a, b, c⟩, d, e, f⟩ := bx
    unfold Tn.val Pt.val Bx.val at *
    try unfold Pt.val at *
    dsimp only at *
    have E := (((Env.nil w).add (w.heap.size) 23 #[.int .i64 x, .int .i64 y] rfl).add (w.heap.size + 1) 37 #[.int .i64 a0, .int .i64 a1, .int .i64 a2] (by simp)).add (w.heap.size + 2) 39 #[.int .i64 a, .int .i64 b, .int .i64 c, .int .i64 d, .int .i64 e, .int .i64 f] (by simp)
    have C := E.cells
    simp [BC, CF] at C
    go_enter Try.func9, Try.ntmps9
    go_wp2_with (first
      | (go_at_call 10; (with_reducible refine (awake_10 _).mono ?_); rintro X wq ⟨rfl, hb⟩; replace E := E.on hb; replace C := E.cells; simp [BC, CF] at C; clear hb)
      | (go_at_call 28; (with_reducible refine (hr _ _ ?_).mono ?_); (exact Sl.lit [⟨a0, a1, a2⟩, ⟨a, b, c⟩, ⟨d, e, f⟩] (Has.new_ _ _ _) rfl (show 3 ≤ maxLen by decide)); rintro X wq ⟨rfl, hb⟩; replace E := (E.more _).on hb; replace C := E.cells; simp [BC, CF] at C; clear hb))
    go_ret
    exact ⟨rfl, envb E⟩
  · rw [hc] at hr
    cases hb : leB bx.lo bx.hi
    · simp only [leB, Bool.and_eq_false_iff, decide_eq_false_iff_not] at hb
      clear hc hu hv hw
      obtain ⟨x, y⟩ := t
      obtain ⟨a0, a1, a2⟩ := at_
      obtain ⟨⟨a, b, c⟩, d, e, f⟩ := bx
      unfold Tn.val Pt.val Bx.val at *
      try unfold Pt.val at *
      dsimp only at *
      by_cases x1 : a ≤ d
      · by_cases x2 : b ≤ e
        · have x3 : ¬ c ≤ f := by omega
          have q1 : decide (a > d) = false := by simp; omega
          have r1 : decide (d < a) = false := by simp; omega
          have q2 : decide (b > e) = false := by simp; omega
          have r2 : decide (e < b) = false := by simp; omega
          have q3 : decide (c > f) = true := by simp; omega
          have r3 : decide (f < c) = true := by simp; omega
          clear hb x1 x2 x3
          have E := (((Env.nil w).add (w.heap.size) 23 #[.int .i64 x, .int .i64 y] rfl).add (w.heap.size + 1) 37 #[.int .i64 a0, .int .i64 a1, .int .i64 a2] (by simp)).add (w.heap.size + 2) 39 #[.int .i64 a, .int .i64 b, .int .i64 c, .int .i64 d, .int .i64 e, .int .i64 f] (by simp)
          have C := E.cells
          simp [BC, CF] at C
          go_enter Try.func9, Try.ntmps9
          go_wp2_with (first
            | (go_at_call 10; (with_reducible refine (awake_10 _).mono ?_); rintro X wq ⟨rfl, hb⟩; replace E := E.on hb; replace C := E.cells; simp [BC, CF] at C; clear hb)
            | (go_at_call 28; (with_reducible refine (hr _ _ ?_).mono ?_); (exact Sl.lit [⟨a0, a1, a2⟩, ⟨a, b, c⟩, ⟨d, e, f⟩] (Has.new_ _ _ _) rfl (show 3 ≤ maxLen by decide)); rintro X wq ⟨rfl, hb⟩; replace E := (E.more _).on hb; replace C := E.cells; simp [BC, CF] at C; clear hb))
          go_ret
          exact ⟨rfl, envb E⟩
        · have q1 : decide (a > d) = false := by simp; omega
          have r1 : decide (d < a) = false := by simp; omega
          have q2 : decide (b > e) = true := by simp; omega
          have r2 : decide (e < b) = true := by simp; omega
          clear hb x1 x2
          have E := (((Env.nil w).add (w.heap.size) 23 #[.int .i64 x, .int .i64 y] rfl).add (w.heap.size + 1) 37 #[.int .i64 a0, .int .i64 a1, .int .i64 a2] (by simp)).add (w.heap.size + 2) 39 #[.int .i64 a, .int .i64 b, .int .i64 c, .int .i64 d, .int .i64 e, .int .i64 f] (by simp)
          have C := E.cells
          simp [BC, CF] at C
          go_enter Try.func9, Try.ntmps9
          go_wp2_with (first
            | (go_at_call 10; (with_reducible refine (awake_10 _).mono ?_); rintro X wq ⟨rfl, hb⟩; replace E := E.on hb; replace C := E.cells; simp [BC, CF] at C; clear hb)
            | (go_at_call 28; (with_reducible refine (hr _ _ ?_).mono ?_); (exact Sl.lit [⟨a0, a1, a2⟩, ⟨a, b, c⟩, ⟨d, e, f⟩] (Has.new_ _ _ _) rfl (show 3 ≤ maxLen by decide)); rintro X wq ⟨rfl, hb⟩; replace E := (E.more _).on hb; replace C := E.cells; simp [BC, CF] at C; clear hb))
          go_ret
          exact ⟨rfl, envb E⟩
      · have q1 : decide (a > d) = true := by simp; omega
        have r1 : decide (d < a) = true := by simp; omega
        clear hb x1
        have E := (((Env.nil w).add (w.heap.size) 23 #[.int .i64 x, .int .i64 y] rfl).add (w.heap.size + 1) 37 #[.int .i64 a0, .int .i64 a1, .int .i64 a2] (by simp)).add (w.heap.size + 2) 39 #[.int .i64 a, .int .i64 b, .int .i64 c, .int .i64 d, .int .i64 e, .int .i64 f] (by simp)
        have C := E.cells
        simp [BC, CF] at C
        go_enter Try.func9, Try.ntmps9
        go_wp2_with (first
          | (go_at_call 10; (with_reducible refine (awake_10 _).mono ?_); rintro X wq ⟨rfl, hb⟩; replace E := E.on hb; replace C := E.cells; simp [BC, CF] at C; clear hb)
          | (go_at_call 28; (with_reducible refine (hr _ _ ?_).mono ?_); (exact Sl.lit [⟨a0, a1, a2⟩, ⟨a, b, c⟩, ⟨d, e, f⟩] (Has.new_ _ _ _) rfl (show 3 ≤ maxLen by decide)); rintro X wq ⟨rfl, hb⟩; replace E := (E.more _).on hb; replace C := E.cells; simp [BC, CF] at C; clear hb))
        go_ret
        exact ⟨rfl, envb E⟩
    · simp only [Bool.and_eq_true] at hc
      obtain ⟨ht, hn, hlo, hhi⟩ := hc
      have h21 := fun W => Box_ok t at_ bx W ht hb (by simp [hn, hlo, hhi])
      have hle := hb
      simp only [leB, Bool.and_eq_true, decide_eq_true_eq] at hle
      have blo := nearB_bd hlo
      have bhi := nearB_bd hhi
      have g30 := fun W => mi_any bx.hi bx.lo bhi blo W
      obtain ⟨D, hD⟩ : ∃ D, mi bx.hi bx.lo = D := ⟨_, rfl⟩
      have hDx : (0 ≤ D.x ∧ D.x ≤ 4194304) ∧ (0 ≤ D.y ∧ D.y ≤ 4194304) ∧ (0 ≤ D.z ∧ D.z ≤ 4194304) := by
        rw [← hD]; unfold Pt.bd at blo bhi; dsimp only [mi]; omega
      have k1 := fun W => part_b D.x uu hDx.1 hu W
      have k2 := fun W => part_b D.y vv hDx.2.1 hv W
      have k3 := fun W => part_b D.z ww hDx.2.2 hw W
      have b1 := prt_bd hDx.1.1 hu
      have b2 := prt_bd hDx.2.1.1 hv
      have b3 := prt_bd hDx.2.2.1 hw
      generalize prt D.x uu = P1 at *
      generalize prt D.y vv = P2 at *
      generalize prt D.z ww = P3 at *
      have hPin : (bx.lo.x ≤ bx.lo.x + P1 ∧ bx.lo.x + P1 ≤ bx.hi.x) ∧ (bx.lo.y ≤ bx.lo.y + P2 ∧ bx.lo.y + P2 ≤ bx.hi.y) ∧ (bx.lo.z ≤ bx.lo.z + P3 ∧ bx.lo.z + P3 ≤ bx.hi.z) := by
        rw [← hD] at b1 b2 b3; dsimp only [mi] at b1 b2 b3; omega
      have hPn : nearB ⟨bx.lo.x + P1, bx.lo.y + P2, bx.lo.z + P3⟩ = true := bd_nearB (by unfold Pt.bd at *; dsimp only; omega)
      have W1 : IntKind.i64.wrap (bx.lo.x + P1) = bx.lo.x + P1 := IntWalk.i64_in _ (by unfold Pt.bd at *; omega)
      have W2 : IntKind.i64.wrap (bx.lo.y + P2) = bx.lo.y + P2 := IntWalk.i64_in _ (by unfold Pt.bd at *; omega)
      have W3 : IntKind.i64.wrap (bx.lo.z + P3) = bx.lo.z + P3 := IntWalk.i64_in _ (by unfold Pt.bd at *; omega)
      have HIN := box_facts (at_ := at_) (P := ⟨bx.lo.x + P1, bx.lo.y + P2, bx.lo.z + P3⟩) ht hb hPin
      have hPm := box_perm (at_ := at_) ht hb
      rw [hD] at hPm g30
      have h25 := fun g W (hS : Sl W (some ⟨g, 0, none⟩) [⟨bx.lo.x + P1, bx.lo.y + P2, bx.lo.z + P3⟩, bx.lo, bx.hi]) => Path_ok t at_ (some ⟨g, 0, none⟩) _ 3 W hS ht (show 3 ≤ 1000 by decide) hn (by simp [hPn, hlo, hhi])
      simp only [List.length_cons, List.length_nil, Nat.zero_add, Nat.reduceAdd] at h25
      have h20 := fun W => Apply_ok t ⟨bx.lo.x + P1, bx.lo.y + P2, bx.lo.z + P3⟩ W ht hPn
      have bi := img_bd ht (nearB_bd hPn)
      have ba := nearB_bd hn
      have hm := fun W => minus_30 _ _ _ _ _ _ (bd_ok (mi_bd (ad_bd bi ba) (bd_mono bi (show (1048576 : Int) ≤ 1048576 + 1048576 by decide))) (by decide)).1 (bd_ok (mi_bd (ad_bd bi ba) (bd_mono bi (show (1048576 : Int) ≤ 1048576 + 1048576 by decide))) (by decide)).2.1 (bd_ok (mi_bd (ad_bd bi ba) (bd_mono bi (show (1048576 : Int) ≤ 1048576 + 1048576 by decide))) (by decide)).2.2 W
      have hR : (bxv t at_ bx).lo.bd 2097152 ∧ (bxv t at_ bx).hi.bd 2097152 := by
        have z := lo_bd (img_bd ht blo) (img_bd ht bhi)
        exact ⟨ad_bd z.1 ba, ad_bd z.2 ba⟩
      have hm2 := fun W => minus_30 _ _ _ _ _ _ (bd_ok (mi_bd hR.2 hR.1) (by decide)).1 (bd_ok (mi_bd hR.2 hR.1) (by decide)).2.1 (bd_ok (mi_bd hR.2 hR.1) (by decide)).2.2 W
      replace hm : ∀ W, Calls Try.prog 30 #[(ad (img t ⟨bx.lo.x + P1, bx.lo.y + P2, bx.lo.z + P3⟩) at_).val, (img t ⟨bx.lo.x + P1, bx.lo.y + P2, bx.lo.z + P3⟩).val] W fun e w' => e = .returned at_.val ∧ Below W.heap.size W w' := fun W => by
        have z := hm W
        have e : ∀ i j : Int, i + j - i = j := fun i j => by omega
        simp only [ad, e] at z
        exact z
      replace hm2 : ∀ W, Calls Try.prog 30 #[(bxv t at_ bx).hi.val, (bxv t at_ bx).lo.val] W fun e w' => e = .returned (mi (bxv t at_ bx).hi (bxv t at_ bx).lo).val ∧ Below W.heap.size W w' := hm2
      obtain ⟨LS, hLS⟩ : ∃ LS, psL t at_ [⟨bx.lo.x + P1, bx.lo.y + P2, bx.lo.z + P3⟩, bx.lo, bx.hi] = LS := ⟨_, rfl⟩
      have hLl : Hid (LS.length = 3) := Lib.hid (by rw [← hLS]; rfl)
      have hL0 : Hid (∀ h : 0 < LS.length, LS[0] = ad (img t ⟨bx.lo.x + P1, bx.lo.y + P2, bx.lo.z + P3⟩) at_) := Lib.hid (by subst hLS; intro _; rfl)
      rw [hLS] at h25 HIN
      have e5 := eq37_same at_
      clear hLS hR bi ba b1 b2 b3 hDx hD blo bhi hb ht hn hlo hhi hPin hPn hu hv hw
      generalize mi (bxv t at_ bx).hi (bxv t at_ bx).lo = CX at *
      generalize bxv t at_ bx = R at *
      generalize ad (img t ⟨bx.lo.x + P1, bx.lo.y + P2, bx.lo.z + P3⟩) at_ = QA at *
      generalize img t ⟨bx.lo.x + P1, bx.lo.y + P2, bx.lo.z + P3⟩ = Q at *
      have HIN2 := Lib.hid HIN
      have HPm := Lib.hid hPm
      clear HIN hPm
      obtain ⟨x, y⟩ := t
      obtain ⟨a0, a1, a2⟩ := at_
      obtain ⟨⟨a, b, c⟩, d, e, f⟩ := bx
      unfold Tn.val Pt.val Bx.val at *
      try unfold Pt.val at *
      dsimp only at *
      obtain ⟨p0, hp0⟩ : ∃ z, a + P1 = z := ⟨_, rfl⟩
      obtain ⟨p1, hp1⟩ : ∃ z, b + P2 = z := ⟨_, rfl⟩
      obtain ⟨p2, hp2⟩ : ∃ z, c + P3 = z := ⟨_, rfl⟩
      rw [hp0] at W1
      rw [hp1] at W2
      rw [hp2] at W3
      rw [hp0, hp1, hp2] at h25 h20
      obtain ⟨d0, d1, d2⟩ := D
      obtain ⟨c0, c1, c2⟩ := CX
      obtain ⟨⟨x0, x1, x2⟩, y0, y1, y2⟩ := R
      obtain ⟨q0, q1, q2⟩ := Q
      obtain ⟨o0, o1, o2⟩ := QA
      try unfold Pt.val at *
      dsimp only at *
      have q1 : decide (a > d) = false := by simp; omega
      have r1 : decide (d < a) = false := by simp; omega
      have q2 : decide (b > e) = false := by simp; omega
      have r2 : decide (e < b) = false := by simp; omega
      have q3 : decide (c > f) = false := by simp; omega
      have r3 : decide (f < c) = false := by simp; omega
      clear hle
      have E := (((Env.nil w).add (w.heap.size) 23 #[.int .i64 x, .int .i64 y] rfl).add (w.heap.size + 1) 37 #[.int .i64 a0, .int .i64 a1, .int .i64 a2] (by simp)).add (w.heap.size + 2) 39 #[.int .i64 a, .int .i64 b, .int .i64 c, .int .i64 d, .int .i64 e, .int .i64 f] (by simp)
      have C := E.cells
      simp [BC, CF] at C
      go_enter Try.func9, Try.ntmps9
      go_upto_region 5 with (first
        | (go_at_call 10; (with_reducible refine (awake_10 _).mono ?_); rintro X wq ⟨rfl, hb⟩; replace E := E.on hb; replace C := E.cells; simp [BC, CF] at C; clear hb)
        | (go_at_call 28; (with_reducible refine (hr _ _ ?_).mono ?_); (exact Sl.lit [⟨a0, a1, a2⟩, ⟨a, b, c⟩, ⟨d, e, f⟩] (Has.new_ _ _ _) rfl (show 3 ≤ maxLen by decide)); rintro X wq ⟨rfl, hb⟩; replace E := (E.more _).on hb; replace C := E.cells; simp [BC, CF] at C; clear hb))
      clear q1 q2 q3 r1 r2 r3 hr
      go_upto_region 6 with (go_at_call 21; (with_reducible refine (h21 _).mono ?_); rintro X wa ⟨rfl, hb⟩; replace E := E.on hb; replace C := E.cells; simp [BC, CF] at C; clear hb)
      have lt0 := E.lt 0 (by simp)
      simp only [numB] at lt0
      replace E := E.add _ 39 #[.int .i64 x0, .int .i64 x1, .int .i64 x2, .int .i64 y0, .int .i64 y1, .int .i64 y2] rfl
      replace C := E.cells
      simp [BC, CF] at C
      go_upto_region 7 with (go_at_call 30; (with_reducible refine (g30 _).mono ?_); rintro X wb ⟨rfl, hb⟩; replace E := E.on hb; replace C := E.cells; simp [BC, CF] at C; clear hb)
      have lt1 := E.lt 0 (by simp)
      simp only [numB] at lt1
      replace E := E.add _ 37 #[.int .i64 d0, .int .i64 d1, .int .i64 d2] rfl
      replace C := E.cells
      simp [BC, CF] at C
      go_upto_region 8 with fail
      refine wp_region_free 29 [(0, true), (1, true), (2, true), (3, true), (4, true), (5, true), (6, true), (9, true), (10, true), (11, true), (12, true), (13, true), (14, true), (15, true), (18, true), (19, true), (20, true), (21, true), (22, true), (23, true), (24, true), (7, false), (8, true), (16, false), (17, true), (25, false), (26, true), (27, true)] [28] (fun _ => (37, #[.int .i64 0, .int .i64 0, .int .i64 0])) (wb.heap.size + 1) (fun W' => Env w W' [⟨wb.heap.size, 37, #[.int .i64 d0, .int .i64 d1, .int .i64 d2]⟩, ⟨wa.heap.size, 39, #[.int .i64 x0, .int .i64 x1, .int .i64 x2, .int .i64 y0, .int .i64 y1, .int .i64 y2]⟩, ⟨w.heap.size + 2, 39, #[.int .i64 a, .int .i64 b, .int .i64 c, .int .i64 d, .int .i64 e, .int .i64 f]⟩, ⟨w.heap.size + 1, 37, #[.int .i64 a0, .int .i64 a1, .int .i64 a2]⟩, ⟨w.heap.size, 23, #[.int .i64 x, .int .i64 y]⟩] ∧ W'.cell? ⟨wb.heap.size, 0, none⟩ = some (.int .i64 d0) ∧ W'.cell? ⟨wb.heap.size, 1, none⟩ = some (.int .i64 d1) ∧ W'.cell? ⟨wb.heap.size, 2, none⟩ = some (.int .i64 d2) ∧ W'.cell? ⟨w.heap.size + 2, 0, none⟩ = some (.int .i64 a) ∧ W'.cell? ⟨w.heap.size + 2, 1, none⟩ = some (.int .i64 b) ∧ W'.cell? ⟨w.heap.size + 2, 2, none⟩ = some (.int .i64 c) ∧ W'.cell? ⟨w.heap.size + 2, 3, none⟩ = some (.int .i64 d) ∧ W'.cell? ⟨w.heap.size + 2, 4, none⟩ = some (.int .i64 e) ∧ W'.cell? ⟨w.heap.size + 2, 5, none⟩ = some (.int .i64 f)) (by kernel_rfl) (by kernel_rfl) (fun _ _ d _ _ => by cases d <;> exact Iff.rfl) (by
          simp only [List.mem_cons, List.not_mem_nil, or_false, forall_eq_or_imp, forall_eq]
          (intro o ho; cases ho; exact ⟨fun _ => rfl, fun a w => by first | rfl | (simp [go_sem]; done) | (go_simp; rfl)⟩)) (fun W1 W2 h hb => s_x8 ((h.1).on hb)) (fun W h => h.1.lt 0 (by simp)) (s_x8 E.drw) ?_
      simp only [List.filterMap_cons, List.filterMap_nil, List.getElem?_cons_zero, List.getElem?_cons_succ, Option.map_some, List.drop_succ_cons, List.drop_zero]
      iterate 21 (first | (refine wpFree_still (v := ?_) (Or.inl ⟨by rfl, ?_⟩) ?_; rotate_left; (focus (intro W hW; (try dsimp only at hW); go_split_ands; go_simp; try with_reducible rfl)); try simp only [Act.put, List.setIfInBounds_toArray, List.set_cons_zero, List.set_cons_succ]) | (refine wpFree_still (Or.inr ⟨by rfl, rfl⟩) ?_; try simp only [Act.put, List.setIfInBounds_toArray, List.set_cons_zero, List.set_cons_succ]))
      refine wpFree_only (fun W hS K hK => ?_)
      try go_simp
      (go_at_call 32; (with_reducible refine (k1 W).mono ?_); rintro X wq ⟨rfl, hb⟩)
      refine hK.out _ _ hb ?_
      clear hb hS hK K
      try simp only [Act.put, List.setIfInBounds_toArray, List.set_cons_zero, List.set_cons_succ]
      iterate 1 (first | (refine wpFree_still (v := ?_) (Or.inl ⟨by rfl, ?_⟩) ?_; rotate_left; (focus (intro W hW; (try dsimp only at hW); go_split_ands; go_simp; try with_reducible rfl)); try simp only [Act.put, List.setIfInBounds_toArray, List.set_cons_zero, List.set_cons_succ]) | (refine wpFree_still (Or.inr ⟨by rfl, rfl⟩) ?_; try simp only [Act.put, List.setIfInBounds_toArray, List.set_cons_zero, List.set_cons_succ]))
      refine wpFree_only (fun W hS K hK => ?_)
      try go_simp
      (go_at_call 32; (with_reducible refine (k2 W).mono ?_); rintro X wq ⟨rfl, hb⟩)
      refine hK.out _ _ hb ?_
      clear hb hS hK K
      try simp only [Act.put, List.setIfInBounds_toArray, List.set_cons_zero, List.set_cons_succ]
      iterate 1 (first | (refine wpFree_still (v := ?_) (Or.inl ⟨by rfl, ?_⟩) ?_; rotate_left; (focus (intro W hW; (try dsimp only at hW); go_split_ands; go_simp; try with_reducible rfl)); try simp only [Act.put, List.setIfInBounds_toArray, List.set_cons_zero, List.set_cons_succ]) | (refine wpFree_still (Or.inr ⟨by rfl, rfl⟩) ?_; try simp only [Act.put, List.setIfInBounds_toArray, List.set_cons_zero, List.set_cons_succ]))
      refine wpFree_only (fun W hS K hK => ?_)
      try go_simp
      (go_at_call 32; (with_reducible refine (k3 W).mono ?_); rintro X wq ⟨rfl, hb⟩)
      refine hK.out _ _ hb ?_
      clear hb hS hK K
      try simp only [Act.put, List.setIfInBounds_toArray, List.set_cons_zero, List.set_cons_succ]
      iterate 2 (first | (refine wpFree_still (v := ?_) (Or.inl ⟨by rfl, ?_⟩) ?_; rotate_left; (focus (intro W hW; (try dsimp only at hW); go_split_ands; go_simp; try with_reducible rfl)); try simp only [Act.put, List.setIfInBounds_toArray, List.set_cons_zero, List.set_cons_succ]) | (refine wpFree_still (Or.inr ⟨by rfl, rfl⟩) ?_; try simp only [Act.put, List.setIfInBounds_toArray, List.set_cons_zero, List.set_cons_succ]))
      refine wpFree_end (fun G W hG hS hL => ?_)
      obtain ⟨gP, eG1, hN1, hN2⟩ := hL.one hG
      simp only [putA, eG1, List.getElem?_toArray, List.getElem?_cons_succ, List.getElem?_cons_zero]
      clear eG1 hL hG G
      try simp only [Act.put, List.setIfInBounds_toArray, List.set_cons_zero, List.set_cons_succ]
      replace E := hS.1.glue (g := gP) hN2 (by omega) (by simp; omega)
      have ltP := hN1
      clear hS hN1 hN2 k1 k2 k3
      replace C := E.cells
      simp [BC, CF] at C
      go_upto_region 9 with fail
      replace E := E.three (.int .i64 p0) (.int .i64 p1) (.int .i64 p2) 0 rfl
      replace E : Env w (((W.setCell ⟨gP, 0, none⟩ (.int .i64 p0)).setCell ⟨gP, 1, none⟩ (.int .i64 p1)).setCell ⟨gP, 2, none⟩ (.int .i64 p2)) [⟨gP, 37, #[.int .i64 p0, .int .i64 p1, .int .i64 p2]⟩, ⟨wb.heap.size, 37, #[.int .i64 d0, .int .i64 d1, .int .i64 d2]⟩, ⟨wa.heap.size, 39, #[.int .i64 x0, .int .i64 x1, .int .i64 x2, .int .i64 y0, .int .i64 y1, .int .i64 y2]⟩, ⟨w.heap.size + 2, 39, #[.int .i64 a, .int .i64 b, .int .i64 c, .int .i64 d, .int .i64 e, .int .i64 f]⟩, ⟨w.heap.size + 1, 37, #[.int .i64 a0, .int .i64 a1, .int .i64 a2]⟩, ⟨w.heap.size, 23, #[.int .i64 x, .int .i64 y]⟩] := E
      generalize (((W.setCell ⟨gP, 0, none⟩ (.int .i64 p0)).setCell ⟨gP, 1, none⟩ (.int .i64 p1)).setCell ⟨gP, 2, none⟩ (.int .i64 p2)) = w2 at *
      replace C := E.cells
      simp [BC, CF] at C
      clear W1 W2 W3 hp0 hp1 hp2
      go_wp2_with (go_at_call 25; (with_reducible refine (h25 _ _ ?_).mono ?_); (exact Sl.lit [⟨p0, p1, p2⟩, ⟨a, b, c⟩, ⟨d, e, f⟩] (Has.new_ _ _ _) rfl (show 3 ≤ maxLen by decide)); rintro X wl ⟨v1, rfl, O1, hb⟩; replace E := (E.more _).on hb; replace C := E.cells; simp [BC, CF] at C; clear hb; obtain ⟨gl, cl, rfl, hPt⟩ := own_row O1 (by rw [hLl.out]; decide); clear O1; rw [hLl.out])
      go_loopw [130] (fun v wr => ∃ k : Nat, v = .int .i64 k ∧ k ≤ 3 ∧ Env w wr [⟨gP, 37, #[.int .i64 p0, .int .i64 p1, .int .i64 p2]⟩, ⟨wb.heap.size, 37, #[.int .i64 d0, .int .i64 d1, .int .i64 d2]⟩, ⟨wa.heap.size, 39, #[.int .i64 x0, .int .i64 x1, .int .i64 x2, .int .i64 y0, .int .i64 y1, .int .i64 y2]⟩, ⟨w.heap.size + 2, 39, #[.int .i64 a, .int .i64 b, .int .i64 c, .int .i64 d, .int .i64 e, .int .i64 f]⟩, ⟨w.heap.size + 1, 37, #[.int .i64 a0, .int .i64 a1, .int .i64 a2]⟩, ⟨w.heap.size, 23, #[.int .i64 x, .int .i64 y]⟩] ∧ PtRow wr gl LS) (fun v _ => 3 - (intOf v).toNat)
      case atStart => exact ⟨0, rfl, Nat.zero_le _, E, hPt⟩
      case round =>
        clear E C hPt
        obtain ⟨k, rfl, hk, E, hPt⟩ := hrel
        have C := E.cells
        simp [BC, CF] at C
        by_cases hlt : k < 3
        · have hkl : k < LS.length := by rw [hLl.out]; exact hlt
          have g1 : decide ((k : Int) < 3) = true := by simp; omega
          have W1 : IntKind.i64.wrap ((k : Int) + 1) = ((k + 1 : Nat) : Int) := by rw [IntWalk.i64_in _ (by omega)]; omega
          have q1 : (0 : Int) ≤ (k : Int) := by omega
          have q2 : (k : Int) < 3 := by omega
          obtain ⟨f0, f1, f2⟩ := hPt k hkl
          have hin := HIN2.out _ (List.getElem_mem hkl)
          generalize LS[k] = el at *
          obtain ⟨z0, z1, z2⟩ := el
          dsimp only at *
          have s0a : decide (z0 < x0) = false := by simp; omega
          have s0b : decide (z0 > y0) = false := by simp; omega
          have s0c : decide (y0 < z0) = false := by simp; omega
          have s1a : decide (z1 < x1) = false := by simp; omega
          have s1b : decide (z1 > y1) = false := by simp; omega
          have s1c : decide (y1 < z1) = false := by simp; omega
          have s2a : decide (z2 < x2) = false := by simp; omega
          have s2b : decide (z2 > y2) = false := by simp; omega
          have s2c : decide (y2 < z2) = false := by simp; omega
          clear hin
          go_wp2
          exact ⟨⟨k + 1, rfl, hlt, E.more _, hPt.on (al1 _ _)⟩, by simp [intOf]; omega⟩
        · have hk3 : k = 3 := by omega
          subst hk3
          have g1 : decide ((3 : Int) < 3) = false := by simp
          clear hlt hk
          go_upto_region 19 with (go_at_call 30; (with_reducible refine (hm2 _).mono ?_); rintro X wz ⟨rfl, hb⟩; replace E := E.on hb; replace hPt := hPt.on hb; replace C := E.cells; simp [BC, CF] at C; clear hb)
          replace E := E.add _ 37 #[.int .i64 c0, .int .i64 c1, .int .i64 c2] rfl
          replace hPt := hPt.on (al1 wz (.cells #[.int .i64 c0, .int .i64 c1, .int .i64 c2] 37))
          replace E : Env w (wz.alloc (.cells #[.int .i64 c0, .int .i64 c1, .int .i64 c2] 37)) [⟨wz.heap.size, 37, #[.int .i64 c0, .int .i64 c1, .int .i64 c2]⟩, ⟨gP, 37, #[.int .i64 p0, .int .i64 p1, .int .i64 p2]⟩, ⟨wb.heap.size, 37, #[.int .i64 d0, .int .i64 d1, .int .i64 d2]⟩, ⟨wa.heap.size, 39, #[.int .i64 x0, .int .i64 x1, .int .i64 x2, .int .i64 y0, .int .i64 y1, .int .i64 y2]⟩, ⟨w.heap.size + 2, 39, #[.int .i64 a, .int .i64 b, .int .i64 c, .int .i64 d, .int .i64 e, .int .i64 f]⟩, ⟨w.heap.size + 1, 37, #[.int .i64 a0, .int .i64 a1, .int .i64 a2]⟩, ⟨w.heap.size, 23, #[.int .i64 x, .int .i64 y]⟩] := E
          obtain ⟨ws, hws⟩ : ∃ ws, wz.alloc (.cells #[.int .i64 c0, .int .i64 c1, .int .i64 c2] 37) = ws := ⟨_, rfl⟩
          rw [hws] at E hPt
          simp only [hws]
          clear hws
          replace C := E.cells
          simp [BC, CF] at C
          go_cut [23, 24] (fun u v wx => ∃ g1 g2, u = .slice (some ⟨g1, 0, none⟩) 3 3 ∧ v = .slice (some ⟨g2, 0, none⟩) 3 3 ∧ ws.heap.size ≤ g1 ∧ ws.heap.size ≤ g2 ∧ g1 ≠ g2 ∧ Has wx g1 3 #[.int .i64 c0, .int .i64 c1, .int .i64 c2] ∧ Has wx g2 3 #[.int .i64 d0, .int .i64 d1, .int .i64 d2] ∧ Below ws.heap.size ws wx)
          case first =>
            go_region_held3 (fun W' => Env w W' [⟨wz.heap.size, 37, #[.int .i64 c0, .int .i64 c1, .int .i64 c2]⟩, ⟨gP, 37, #[.int .i64 p0, .int .i64 p1, .int .i64 p2]⟩, ⟨wb.heap.size, 37, #[.int .i64 d0, .int .i64 d1, .int .i64 d2]⟩, ⟨wa.heap.size, 39, #[.int .i64 x0, .int .i64 x1, .int .i64 x2, .int .i64 y0, .int .i64 y1, .int .i64 y2]⟩, ⟨w.heap.size + 2, 39, #[.int .i64 a, .int .i64 b, .int .i64 c, .int .i64 d, .int .i64 e, .int .i64 f]⟩, ⟨w.heap.size + 1, 37, #[.int .i64 a0, .int .i64 a1, .int .i64 a2]⟩, ⟨w.heap.size, 23, #[.int .i64 x, .int .i64 y]⟩] ∧ W'.cell? ⟨wz.heap.size, 0, none⟩ = some (.int .i64 c0) ∧ W'.cell? ⟨wz.heap.size, 1, none⟩ = some (.int .i64 c1) ∧ W'.cell? ⟨wz.heap.size, 2, none⟩ = some (.int .i64 c2) ∧ W'.cell? ⟨wb.heap.size, 0, none⟩ = some (.int .i64 d0) ∧ W'.cell? ⟨wb.heap.size, 1, none⟩ = some (.int .i64 d1) ∧ W'.cell? ⟨wb.heap.size, 2, none⟩ = some (.int .i64 d2)) (first | exact s_x19 E.drw | exact s_x19 (E.drw.more _) | exact s_x19 ((E.drw.more _).more _)) (fail)
            all_goals (go_wp2_with fail)
            all_goals go_meet
            all_goals (first | exact pr_a _ _ _ | exact pr_b _ _ _)
          case rest =>
            obtain ⟨g1, g2, rfl, rfl, l1, l2, hne, H1, H2, hB⟩ := hcut
            go_upto_region 21 with (go_at_call 33; (with_reducible refine (sort3k g1 _ _ _ _ H1).mono ?_); rintro X wt ⟨rfl, u0, u1, u2, so1, pe1, G1, hbb, hkp⟩; replace H2 := H2.at_kept (hkp g2 H2.size_ (Ne.symm hne)); replace hB := hB.trans (hbb.mono l1); clear hbb hkp H1)
            go_upto_region 22 with (go_at_call 33; (with_reducible refine (sort3k g2 _ _ _ _ H2).mono ?_); rintro X wt2 ⟨rfl, v0, v1, v2, so2, pe2, G2, hbb, hkp⟩; replace G1 := G1.at_kept (hkp g1 G1.size_ hne); replace hB := hB.trans (hbb.mono l2); clear hbb hkp H2)
            obtain ⟨rfl, rfl, rfl⟩ := sorted3 so1 so2 (pe1.trans (HPm.out.trans pe2.symm))
            clear so1 so2 pe1 pe2 l1 l2 hne
            replace E := E.on hB
            replace hPt := hPt.on hB
            clear hB
            replace C := E.cells
            simp [BC, CF] at C
            have hq := fun W (k1 : Has W g1 3 #[.int .i64 u0, .int .i64 u1, .int .i64 u2]) (k2 : Has W g2 3 #[.int .i64 u0, .int .i64 u1, .int .i64 u2]) => equalz_any _ _ [u0, u1, u2] [u0, u1, u2] W (Rdz.three k1) (Rdz.three k2) (by simp)
            simp only [decide_true] at hq
            go_upto_region 23 with (go_at_call 20; (with_reducible refine (h20 _).mono ?_); rintro X wy ⟨rfl, hb⟩; replace E := E.on hb; replace hPt := hPt.on hb; replace G1 := G1.on hb; replace G2 := G2.on hb; replace C := E.cells; simp [BC, CF] at C; clear hb)
            replace E := E.add _ 37 #[.int .i64 q0, .int .i64 q1, .int .i64 q2] rfl
            replace hPt := hPt.on (al1 wy (.cells #[.int .i64 q0, .int .i64 q1, .int .i64 q2] 37))
            replace G1 := G1.on (al1 wy (.cells #[.int .i64 q0, .int .i64 q1, .int .i64 q2] 37))
            replace G2 := G2.on (al1 wy (.cells #[.int .i64 q0, .int .i64 q1, .int .i64 q2] 37))
            replace E : Env w (wy.alloc (.cells #[.int .i64 q0, .int .i64 q1, .int .i64 q2] 37)) [⟨wy.heap.size, 37, #[.int .i64 q0, .int .i64 q1, .int .i64 q2]⟩, ⟨wz.heap.size, 37, #[.int .i64 c0, .int .i64 c1, .int .i64 c2]⟩, ⟨gP, 37, #[.int .i64 p0, .int .i64 p1, .int .i64 p2]⟩, ⟨wb.heap.size, 37, #[.int .i64 d0, .int .i64 d1, .int .i64 d2]⟩, ⟨wa.heap.size, 39, #[.int .i64 x0, .int .i64 x1, .int .i64 x2, .int .i64 y0, .int .i64 y1, .int .i64 y2]⟩, ⟨w.heap.size + 2, 39, #[.int .i64 a, .int .i64 b, .int .i64 c, .int .i64 d, .int .i64 e, .int .i64 f]⟩, ⟨w.heap.size + 1, 37, #[.int .i64 a0, .int .i64 a1, .int .i64 a2]⟩, ⟨w.heap.size, 23, #[.int .i64 x, .int .i64 y]⟩] := E
            obtain ⟨ws3, hws⟩ : ∃ ws, wy.alloc (.cells #[.int .i64 q0, .int .i64 q1, .int .i64 q2] 37) = ws := ⟨_, rfl⟩
            rw [hws] at E hPt G1 G2
            simp only [hws]
            clear hws
            obtain ⟨f0, f1, f2⟩ := hPt 0 (by rw [hLl.out]; decide)
            rw [hL0.out] at f0 f1 f2
            simp only [Nat.zero_mul, Nat.zero_add] at f0 f1 f2
            clear hPt
            refine wp_region_plan 16 [(0, true), (1, true), (2, false), (3, true), (4, true), (5, true), (6, true), (7, true), (8, true), (9, true), (10, true), (11, true), (13, true), (12, false), (14, true), (15, true)] (fun W' => Env w W' [⟨wy.heap.size, 37, #[.int .i64 q0, .int .i64 q1, .int .i64 q2]⟩, ⟨wz.heap.size, 37, #[.int .i64 c0, .int .i64 c1, .int .i64 c2]⟩, ⟨gP, 37, #[.int .i64 p0, .int .i64 p1, .int .i64 p2]⟩, ⟨wb.heap.size, 37, #[.int .i64 d0, .int .i64 d1, .int .i64 d2]⟩, ⟨wa.heap.size, 39, #[.int .i64 x0, .int .i64 x1, .int .i64 x2, .int .i64 y0, .int .i64 y1, .int .i64 y2]⟩, ⟨w.heap.size + 2, 39, #[.int .i64 a, .int .i64 b, .int .i64 c, .int .i64 d, .int .i64 e, .int .i64 f]⟩, ⟨w.heap.size + 1, 37, #[.int .i64 a0, .int .i64 a1, .int .i64 a2]⟩, ⟨w.heap.size, 23, #[.int .i64 x, .int .i64 y]⟩] ∧ W'.cell? ⟨wy.heap.size, 0, none⟩ = some (.int .i64 q0) ∧ W'.cell? ⟨wy.heap.size, 1, none⟩ = some (.int .i64 q1) ∧ W'.cell? ⟨wy.heap.size, 2, none⟩ = some (.int .i64 q2) ∧ W'.cell? ⟨w.heap.size + 1, 0, none⟩ = some (.int .i64 a0) ∧ W'.cell? ⟨w.heap.size + 1, 1, none⟩ = some (.int .i64 a1) ∧ W'.cell? ⟨w.heap.size + 1, 2, none⟩ = some (.int .i64 a2) ∧ W'.cell? ⟨gl, 0, none⟩ = some (.int .i64 o0) ∧ W'.cell? ⟨gl, 1, none⟩ = some (.int .i64 o1) ∧ W'.cell? ⟨gl, 2, none⟩ = some (.int .i64 o2)) (by kernel_rfl) (by kernel_rfl) (fun _ _ d _ _ h => by cases d <;> exact h) ⟨(s_x23 E.drw).1, (s_x23 E.drw).2.1, (s_x23 E.drw).2.2.1, (s_x23 E.drw).2.2.2.1, (s_x23 E.drw).2.2.2.2.1, (s_x23 E.drw).2.2.2.2.2.1, (s_x23 E.drw).2.2.2.2.2.2, f0, f1, f2⟩ ?_
            simp only [List.filterMap_cons, List.filterMap_nil, List.getElem?_cons_zero, List.getElem?_cons_succ, Option.map_some, List.drop_succ_cons, List.drop_zero]
            replace E := E.drw
            replace G1 := G1.drew_
            replace G2 := G2.drew_
            replace f0 := cell_later (below_dr (Below.refl ws3.heap.size ws3)) f0
            replace f1 := cell_later (below_dr (Below.refl ws3.heap.size ws3)) f1
            replace f2 := cell_later (below_dr (Below.refl ws3.heap.size ws3)) f2
            iterate 2 (first | (refine wpPlan_still (v := ?_) (Or.inl ⟨by rfl, ?_⟩) ?_; rotate_left; (focus (intro W hW; (try dsimp only at hW); go_split_ands; go_simp; try with_reducible rfl)); try simp only [Act.put, List.setIfInBounds_toArray, List.set_cons_zero, List.set_cons_succ]) | (refine wpPlan_still (Or.inr ⟨by rfl, rfl⟩) ?_; try simp only [Act.put, List.setIfInBounds_toArray, List.set_cons_zero, List.set_cons_succ]))
            refine wpPlan_only (fun K hK => ?_)
            try go_simp
            (go_at_call 34; (with_reducible refine (hq _ G1 G2).mono ?_); rintro X wq ⟨rfl, hb⟩)
            replace E := E.on hb
            replace f0 := cell_later hb f0
            replace f1 := cell_later hb f1
            replace f2 := cell_later hb f2
            clear hb
            refine hK.out _ _ ⟨(s_x23 E).1, (s_x23 E).2.1, (s_x23 E).2.2.1, (s_x23 E).2.2.2.1, (s_x23 E).2.2.2.2.1, (s_x23 E).2.2.2.2.2.1, (s_x23 E).2.2.2.2.2.2, f0, f1, f2⟩ ?_
            clear hK K
            try simp only [Act.put, List.setIfInBounds_toArray, List.set_cons_zero, List.set_cons_succ]
            iterate 10 (first | (refine wpPlan_still (v := ?_) (Or.inl ⟨by rfl, ?_⟩) ?_; rotate_left; (focus (intro W hW; (try dsimp only at hW); go_split_ands; go_simp; try with_reducible rfl)); try simp only [Act.put, List.setIfInBounds_toArray, List.set_cons_zero, List.set_cons_succ]) | (refine wpPlan_still (Or.inr ⟨by rfl, rfl⟩) ?_; try simp only [Act.put, List.setIfInBounds_toArray, List.set_cons_zero, List.set_cons_succ]))
            refine wpPlan_only (fun K hK => ?_)
            try go_simp
            (go_at_call 30; (with_reducible refine (hm _).mono ?_); rintro X wq ⟨rfl, hb⟩)
            replace E := E.on hb
            replace f0 := cell_later hb f0
            replace f1 := cell_later hb f1
            replace f2 := cell_later hb f2
            clear hb
            refine hK.out _ _ ⟨(s_x23 E).1, (s_x23 E).2.1, (s_x23 E).2.2.1, (s_x23 E).2.2.2.1, (s_x23 E).2.2.2.2.1, (s_x23 E).2.2.2.2.2.1, (s_x23 E).2.2.2.2.2.2, f0, f1, f2⟩ ?_
            clear hK K
            try simp only [Act.put, List.setIfInBounds_toArray, List.set_cons_zero, List.set_cons_succ]
            iterate 2 (first | (refine wpPlan_still (v := ?_) (Or.inl ⟨by rfl, ?_⟩) ?_; rotate_left; (focus (intro W hW; (try dsimp only at hW); go_split_ands; go_simp; try with_reducible rfl)); try simp only [Act.put, List.setIfInBounds_toArray, List.set_cons_zero, List.set_cons_succ]) | (refine wpPlan_still (Or.inr ⟨by rfl, rfl⟩) ?_; try simp only [Act.put, List.setIfInBounds_toArray, List.set_cons_zero, List.set_cons_succ]))
            refine wpPlan_end ?_
            replace C := E.cells
            simp [BC, CF] at C
            go_wp2
            go_ret
            exact ⟨rfl, envb E⟩
end Go.Proofs.Ytmfclelnaceonaa
