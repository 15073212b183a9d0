/- FrameBack, FrameGroups, FrameTurns. -/
import Derived.Test.YtmfclelnaceonaaK
namespace Go.Proofs.Ytmfclelnaceonaa
open Go.ChangeShapes Go.WideShapes Go.ChangeAt Go.RowKit
set_option linter.unusedVariables false
set_option linter.unusedSimpArgs false

theorem vals_eq23 {a b : Tn} (h : a = b) (W : World) : (binOp .eql 23 a.val b.val).run Try.prog W = .ok (.bool true) W := by
  subst h; exact eq23_same _ _ W
theorem vals_ne23 {a b : Tn} (h : a = b) (W : World) : (binOp .neq 23 a.val b.val).run Try.prog W = .ok (.bool false) W := by
  subst h; exact ne23_same _ W
theorem vals_eq37 {a b : Pt} (h : a = b) (W : World) : (binOp .eql 37 a.val b.val).run Try.prog W = .ok (.bool true) W := by
  subst h; exact eq37_same _ W
theorem vals_ne37 {a b : Pt} (h : a = b) (W : World) : (binOp .neq 37 a.val b.val).run Try.prog W = .ok (.bool false) W := by
  subst h; exact ne37_same _ W
theorem sl_none (w : World) : Sl w none [] := ⟨fun _ => rfl, fun a h => (by cases h), Nat.zero_le _⟩
theorem near_img {t : Tn} {p : Pt} (ht : vT t = true) (hp : nearB p = true) : nearB (img t p) = true := bd_nearB (img_bd ht (nearB_bd hp))
set_option maxHeartbeats 8000000 in
set_option maxRecDepth 100000 in
theorem back_walk (t : Tn) (p : Pt) (w : World) : Calls Try.prog 7 #[t.val, p.val] w fun e w' => e = .returned (.bool true) ∧ Below w.heap.size w w' := by
  have hr := fun g W (h : Sl W (some ⟨g, 0, none⟩) [p]) => ready_28 t (some ⟨g, 0, none⟩) [p] 1 W h
  simp only [List.length_cons, List.length_nil, Nat.zero_add, List.all_cons, List.all_nil, Bool.and_true] at hr
  cases hc : vT t && nearB p
  · rw [hc] at hr
    clear hc
    obtain ⟨x, y⟩ := t
    obtain ⟨p, q, r⟩ := p
    unfold Tn.val Pt.val at *
    dsimp only at *
    have E := ((Env.nil w).add (w.heap.size) 23 #[.int .i64 x, .int .i64 y] rfl).add (w.heap.size + 1) 37 #[.int .i64 p, .int .i64 q, .int .i64 r] (by simp)
    have C := E.cells
    simp [BC, CF] at C
    go_enter Try.func7, Try.ntmps7
    go_wp2_with (first
      | (go_at_call 10; (with_reducible refine (awake_10 _).mono ?_); rintro X wq ⟨rfl, hb⟩; replace E := E.on hb; replace C := E.cells; simp [BC, CF] at C; clear hb)
      | (go_at_call 28; (with_reducible refine (hr _ _ ?_).mono ?_); (exact Sl.lit [⟨p, q, r⟩] (Has.new_ _ _ _) rfl (show 1 ≤ maxLen by decide)); rintro X wq ⟨rfl, hb⟩; replace E := (E.more _).on hb; replace C := E.cells; simp [BC, CF] at C; clear hb))
    go_ret
    exact ⟨rfl, envb E⟩
  · rw [hc] at hr
    simp only [Bool.and_eq_true] at hc
    obtain ⟨ht, hp⟩ := hc
    obtain ⟨k1, k2, k3, -⟩ := bk_facts t (mem_allT ht)
    have h1 := fun W => Back_ok t W ht
    have h2 := fun W => Back_ok (bk t) W k1
    have h3 := fun W => Apply_ok t p W ht hp
    have h4 := fun W => Apply_ok (bk t) (img t p) W k1 (near_img ht hp)
    have h5 := fun W => Then_ok t (bk t) W ht k1
    have e1 := vals_eq23 k2
    have e2 := vals_eq37 (bk_img ht p)
    have e3 := vals_eq23 k3
    clear k1 k2 k3 ht hp
    generalize img (bk t) (img t p) = P2 at *
    generalize img t p = P1 at *
    generalize bk (bk t) = B2 at *
    generalize aft t (bk t) = A1 at *
    generalize bk t = B1 at *
    obtain ⟨x, y⟩ := t
    obtain ⟨p, q, r⟩ := p
    obtain ⟨b0, b1⟩ := B1
    obtain ⟨c0, c1⟩ := B2
    obtain ⟨d0, d1⟩ := A1
    obtain ⟨q0, q1, q2⟩ := P1
    obtain ⟨s0, s1, s2⟩ := P2
    unfold Tn.val Pt.val at *
    dsimp only at *
    have E := ((Env.nil w).add (w.heap.size) 23 #[.int .i64 x, .int .i64 y] rfl).add (w.heap.size + 1) 37 #[.int .i64 p, .int .i64 q, .int .i64 r] (by simp)
    have C := E.cells
    simp [BC, CF] at C
    go_enter Try.func7, Try.ntmps7
    go_upto_region 5 with (first
      | (go_at_call 10; (with_reducible refine (awake_10 _).mono ?_); rintro X wq ⟨rfl, hb⟩; replace E := E.on hb; replace C := E.cells; simp [BC, CF] at C; clear hb)
      | (go_at_call 28; (with_reducible refine (hr _ _ ?_).mono ?_); (exact Sl.lit [⟨p, q, r⟩] (Has.new_ _ _ _) rfl (show 1 ≤ maxLen by decide)); rintro X wq ⟨rfl, hb⟩; replace E := (E.more _).on hb; replace C := E.cells; simp [BC, CF] at C; clear hb))
    go_upto_region 6 with (go_at_call 17; (with_reducible refine (h1 _).mono ?_); rintro X wa ⟨rfl, hb⟩; replace E := E.on hb; replace C := E.cells; simp [BC, CF] at C; clear hb)
    replace E := E.add _ 23 #[.int .i64 b0, .int .i64 b1] rfl
    replace C := E.cells
    simp [BC, CF] at C
    go_upto_region 7 with (go_at_call 17; (with_reducible refine (h2 _).mono ?_); rintro X wb ⟨rfl, hb⟩; replace E := E.on hb; replace C := E.cells; simp [BC, CF] at C; clear hb)
    replace E := E.add _ 23 #[.int .i64 c0, .int .i64 c1] rfl
    replace C := E.cells
    simp [BC, CF] at C
    go_upto_region 8 with (go_at_call 20; (with_reducible refine (h3 _).mono ?_); rintro X wc ⟨rfl, hb⟩; replace E := E.on hb; replace C := E.cells; simp [BC, CF] at C; clear hb)
    replace E := E.add _ 37 #[.int .i64 q0, .int .i64 q1, .int .i64 q2] rfl
    replace C := E.cells
    simp [BC, CF] at C
    go_upto_region 9 with (go_at_call 20; (with_reducible refine (h4 _).mono ?_); rintro X wd ⟨rfl, hb⟩; replace E := E.on hb; replace C := E.cells; simp [BC, CF] at C; clear hb)
    replace E := E.add _ 37 #[.int .i64 s0, .int .i64 s1, .int .i64 s2] rfl
    replace C := E.cells
    simp [BC, CF] at C
    go_upto_region 10 with (go_at_call 16; (with_reducible refine (h5 _).mono ?_); rintro X we ⟨rfl, hb⟩; replace E := E.on hb; replace C := E.cells; simp [BC, CF] at C; clear hb)
    replace E := E.add _ 23 #[.int .i64 d0, .int .i64 d1] rfl
    replace C := E.cells
    simp [BC, CF] at C
    go_wp2
    go_ret
    exact ⟨rfl, envb E⟩
set_option maxHeartbeats 8000000 in
set_option maxRecDepth 100000 in
theorem groups_walk (a b c : Tn) (p : Pt) (w : World) : Calls Try.prog 8 #[a.val, b.val, c.val, p.val] w fun e w' => e = .returned (.bool true) ∧ Below w.heap.size w w' := by
  have hr := fun g W (h : Sl W (some ⟨g, 0, none⟩) [p]) => ready_28 a (some ⟨g, 0, none⟩) [p] 1 W h
  have hb := fun W => ready_28 b none [] 0 W (sl_none W)
  have hc := fun W => ready_28 c none [] 0 W (sl_none W)
  simp only [List.length_cons, List.length_nil, Nat.zero_add, List.all_cons, List.all_nil, Bool.and_true] at hr hb hc
  cases ha : vT a && nearB p
  · rw [ha] at hr
    clear ha hb hc
    obtain ⟨a0, a1⟩ := a
    obtain ⟨b0, b1⟩ := b
    obtain ⟨c0, c1⟩ := c
    obtain ⟨p, q, r⟩ := p
    unfold Tn.val Pt.val at *
    dsimp only at *
    have E := ((((Env.nil w).add (w.heap.size) 23 #[.int .i64 a0, .int .i64 a1] rfl).add (w.heap.size + 1) 23 #[.int .i64 b0, .int .i64 b1] (by simp)).add (w.heap.size + 2) 23 #[.int .i64 c0, .int .i64 c1] (by simp)).add (w.heap.size + 3) 37 #[.int .i64 p, .int .i64 q, .int .i64 r] (by simp)
    have C := E.cells
    simp [BC, CF] at C
    go_enter Try.func8, Try.ntmps8
    go_wp2_with (first
      | (go_at_call 10; (with_reducible refine (awake_10 _).mono ?_); rintro X wq ⟨rfl, hb⟩; replace E := E.on hb; replace C := E.cells; simp [BC, CF] at C; clear hb)
      | (go_at_call 28; (with_reducible refine (hr _ _ ?_).mono ?_); (exact Sl.lit [⟨p, q, r⟩] (Has.new_ _ _ _) rfl (show 1 ≤ maxLen by decide)); rintro X wq ⟨rfl, hb⟩; replace E := (E.more _).on hb; replace C := E.cells; simp [BC, CF] at C; clear hb))
    go_ret
    exact ⟨rfl, envb E⟩
  · rw [ha] at hr
    cases vb : vT b
    · rw [vb] at hb
      clear ha hc vb
      obtain ⟨a0, a1⟩ := a
      obtain ⟨b0, b1⟩ := b
      obtain ⟨c0, c1⟩ := c
      obtain ⟨p, q, r⟩ := p
      unfold Tn.val Pt.val at *
      dsimp only at *
      have E := ((((Env.nil w).add (w.heap.size) 23 #[.int .i64 a0, .int .i64 a1] rfl).add (w.heap.size + 1) 23 #[.int .i64 b0, .int .i64 b1] (by simp)).add (w.heap.size + 2) 23 #[.int .i64 c0, .int .i64 c1] (by simp)).add (w.heap.size + 3) 37 #[.int .i64 p, .int .i64 q, .int .i64 r] (by simp)
      have C := E.cells
      simp [BC, CF] at C
      go_enter Try.func8, Try.ntmps8
      go_wp2_with (first
        | (go_at_call 10; (with_reducible refine (awake_10 _).mono ?_); rintro X wq ⟨rfl, hb⟩; replace E := E.on hb; replace C := E.cells; simp [BC, CF] at C; clear hb)
        | (go_at_call 28; (with_reducible refine (hr _ _ ?_).mono ?_); (exact Sl.lit [⟨p, q, r⟩] (Has.new_ _ _ _) rfl (show 1 ≤ maxLen by decide)); rintro X wq ⟨rfl, hb⟩; replace E := (E.more _).on hb; replace C := E.cells; simp [BC, CF] at C; clear hb)
        | (go_at_call 28; (with_reducible refine (hb _).mono ?_); rintro X wq ⟨rfl, hb⟩; replace E := E.on hb; replace C := E.cells; simp [BC, CF] at C; clear hb))
      go_ret
      exact ⟨rfl, envb E⟩
    · rw [vb] at hb
      cases vc : vT c
      · rw [vc] at hc
        clear ha vb vc
        obtain ⟨a0, a1⟩ := a
        obtain ⟨b0, b1⟩ := b
        obtain ⟨c0, c1⟩ := c
        obtain ⟨p, q, r⟩ := p
        unfold Tn.val Pt.val at *
        dsimp only at *
        have E := ((((Env.nil w).add (w.heap.size) 23 #[.int .i64 a0, .int .i64 a1] rfl).add (w.heap.size + 1) 23 #[.int .i64 b0, .int .i64 b1] (by simp)).add (w.heap.size + 2) 23 #[.int .i64 c0, .int .i64 c1] (by simp)).add (w.heap.size + 3) 37 #[.int .i64 p, .int .i64 q, .int .i64 r] (by simp)
        have C := E.cells
        simp [BC, CF] at C
        go_enter Try.func8, Try.ntmps8
        go_wp2_with (first
          | (go_at_call 10; (with_reducible refine (awake_10 _).mono ?_); rintro X wq ⟨rfl, hb⟩; replace E := E.on hb; replace C := E.cells; simp [BC, CF] at C; clear hb)
          | (go_at_call 28; (with_reducible refine (hr _ _ ?_).mono ?_); (exact Sl.lit [⟨p, q, r⟩] (Has.new_ _ _ _) rfl (show 1 ≤ maxLen by decide)); rintro X wq ⟨rfl, hb⟩; replace E := (E.more _).on hb; replace C := E.cells; simp [BC, CF] at C; clear hb)
          | (go_at_call 28; (with_reducible refine (hb _).mono ?_); rintro X wq ⟨rfl, hb⟩; replace E := E.on hb; replace C := E.cells; simp [BC, CF] at C; clear hb)
          | (go_at_call 28; (with_reducible refine (hc _).mono ?_); rintro X wq ⟨rfl, hb⟩; replace E := E.on hb; replace C := E.cells; simp [BC, CF] at C; clear hb))
        go_ret
        exact ⟨rfl, envb E⟩
      · rw [vc] at hc
        simp only [Bool.and_eq_true] at ha
        obtain ⟨va, hp⟩ := ha
        have h1 := fun W => Then_ok a b W va vb
        have h2 := fun W => Then_ok b c W vb vc
        have h3 := fun W => Then_ok (aft a b) c W (vT_aft va vb) vc
        have h4 := fun W => Then_ok a (aft b c) W va (vT_aft vb vc)
        have e1 := vals_ne23 (grp va vb vc)
        have hv := fun W => valid_11 (aft (aft a b) c) W
        rw [vT_aft (vT_aft va vb) vc] at hv
        have h5 := fun W => Apply_ok a p W va hp
        have h6 := fun W => Apply_ok b (img a p) W vb (near_img va hp)
        have h7 := fun W => Apply_ok (aft a b) p W (vT_aft va vb) hp
        have e2 := vals_eq37 (act va vb p).symm
        clear va vb vc hp
        generalize aft (aft a b) c = X1 at *
        generalize aft a (aft b c) = X2 at *
        generalize img (aft a b) p = P3 at *
        generalize img b (img a p) = P2 at *
        generalize img a p = P1 at *
        generalize aft a b = AB at *
        generalize aft b c = CD at *
        obtain ⟨x0, x1⟩ := X1
        obtain ⟨y0, y1⟩ := X2
        obtain ⟨d0, d1⟩ := AB
        obtain ⟨f0, f1⟩ := CD
        obtain ⟨q0, q1, q2⟩ := P1
        obtain ⟨s0, s1, s2⟩ := P2
        obtain ⟨t0, t1, t2⟩ := P3
        obtain ⟨a0, a1⟩ := a
        obtain ⟨b0, b1⟩ := b
        obtain ⟨c0, c1⟩ := c
        obtain ⟨p, q, r⟩ := p
        unfold Tn.val Pt.val at *
        dsimp only at *
        have E := ((((Env.nil w).add (w.heap.size) 23 #[.int .i64 a0, .int .i64 a1] rfl).add (w.heap.size + 1) 23 #[.int .i64 b0, .int .i64 b1] (by simp)).add (w.heap.size + 2) 23 #[.int .i64 c0, .int .i64 c1] (by simp)).add (w.heap.size + 3) 37 #[.int .i64 p, .int .i64 q, .int .i64 r] (by simp)
        have C := E.cells
        simp [BC, CF] at C
        go_enter Try.func8, Try.ntmps8
        go_upto_region 5 with (first
          | (go_at_call 10; (with_reducible refine (awake_10 _).mono ?_); rintro X wq ⟨rfl, hb⟩; replace E := E.on hb; replace C := E.cells; simp [BC, CF] at C; clear hb)
          | (go_at_call 28; (with_reducible refine (hr _ _ ?_).mono ?_); (exact Sl.lit [⟨p, q, r⟩] (Has.new_ _ _ _) rfl (show 1 ≤ maxLen by decide)); rintro X wq ⟨rfl, hb⟩; replace E := (E.more _).on hb; replace C := E.cells; simp [BC, CF] at C; clear hb)
          | (go_at_call 28; (with_reducible refine (hb _).mono ?_); rintro X wq ⟨rfl, hb⟩; replace E := E.on hb; replace C := E.cells; simp [BC, CF] at C; clear hb)
          | (go_at_call 28; (with_reducible refine (hc _).mono ?_); rintro X wq ⟨rfl, hb⟩; replace E := E.on hb; replace C := E.cells; simp [BC, CF] at C; clear hb))
        go_upto_region 6 with (go_at_call 16; (with_reducible refine (h1 _).mono ?_); rintro X wa ⟨rfl, hb⟩; replace E := E.on hb; replace C := E.cells; simp [BC, CF] at C; clear hb)
        replace E := E.add _ 23 #[.int .i64 d0, .int .i64 d1] rfl
        replace C := E.cells
        simp [BC, CF] at C
        go_upto_region 7 with (go_at_call 16; (with_reducible refine (h2 _).mono ?_); rintro X wb ⟨rfl, hb⟩; replace E := E.on hb; replace C := E.cells; simp [BC, CF] at C; clear hb)
        replace E := E.add _ 23 #[.int .i64 f0, .int .i64 f1] rfl
        replace C := E.cells
        simp [BC, CF] at C
        go_upto_region 8 with (go_at_call 16; (with_reducible refine (h3 _).mono ?_); rintro X wc ⟨rfl, hb⟩; replace E := E.on hb; replace C := E.cells; simp [BC, CF] at C; clear hb)
        replace E := E.add _ 23 #[.int .i64 x0, .int .i64 x1] rfl
        replace C := E.cells
        simp [BC, CF] at C
        go_upto_region 9 with (go_at_call 16; (with_reducible refine (h4 _).mono ?_); rintro X wd ⟨rfl, hb⟩; replace E := E.on hb; replace C := E.cells; simp [BC, CF] at C; clear hb)
        replace E := E.add _ 23 #[.int .i64 y0, .int .i64 y1] rfl
        replace C := E.cells
        simp [BC, CF] at C
        go_upto_region 11 with (go_at_call 11; (with_reducible refine (hv _).mono ?_); rintro X wq ⟨rfl, hb⟩; replace E := E.on hb; replace C := E.cells; simp [BC, CF] at C; clear hb)
        go_upto_region 12 with (go_at_call 20; (with_reducible refine (h5 _).mono ?_); rintro X we ⟨rfl, hb⟩; replace E := E.on hb; replace C := E.cells; simp [BC, CF] at C; clear hb)
        replace E := E.add _ 37 #[.int .i64 q0, .int .i64 q1, .int .i64 q2] rfl
        replace C := E.cells
        simp [BC, CF] at C
        go_upto_region 15 with (go_at_call 20; (with_reducible refine (h6 _).mono ?_); rintro X wq ⟨rfl, hb⟩; replace E := E.on hb; replace C := E.cells; simp [BC, CF] at C; clear hb)
        replace E := E.three (.int .i64 s0) (.int .i64 s1) (.int .i64 s2) 0 rfl
        replace E : Env w _ [⟨we.heap.size, 37, #[.int .i64 s0, .int .i64 s1, .int .i64 s2]⟩, ⟨wd.heap.size, 23, #[.int .i64 y0, .int .i64 y1]⟩, ⟨wc.heap.size, 23, #[.int .i64 x0, .int .i64 x1]⟩, ⟨wb.heap.size, 23, #[.int .i64 f0, .int .i64 f1]⟩, ⟨wa.heap.size, 23, #[.int .i64 d0, .int .i64 d1]⟩, ⟨w.heap.size + 3, 37, #[.int .i64 p, .int .i64 q, .int .i64 r]⟩, ⟨w.heap.size + 2, 23, #[.int .i64 c0, .int .i64 c1]⟩, ⟨w.heap.size + 1, 23, #[.int .i64 b0, .int .i64 b1]⟩, ⟨w.heap.size, 23, #[.int .i64 a0, .int .i64 a1]⟩] := E
        replace C := E.cells
        simp [BC, CF, numB] at C
        go_upto_region 16 with (go_at_call 20; (with_reducible refine (h7 _).mono ?_); rintro X wf ⟨rfl, hb⟩; replace E := E.on hb; replace C := E.cells; simp [BC, CF] at C; clear hb)
        replace E := E.add _ 37 #[.int .i64 t0, .int .i64 t1, .int .i64 t2] rfl
        replace C := E.cells
        simp [BC, CF] at C
        go_wp2
        go_ret
        exact ⟨rfl, envb E⟩
end Go.Proofs.Ytmfclelnaceonaa
