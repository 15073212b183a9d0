/- Boxes of the reference; FrameImages. -/
import Derived.Test.YtmfclelnaceonaaN
namespace Go.Proofs.Ytmfclelnaceonaa
open Go.ChangeShapes Go.WideShapes Go.ChangeAt Go.RowKit
set_option linter.unusedVariables false
set_option linter.unusedSimpArgs false

set_option maxHeartbeats 8000000 in
set_option maxRecDepth 100000 in
theorem rBox_arg1 (t : Tn) (at_ : Pt) (bx : Bx) (w : World) (ht : vT t = false) : Calls Try.prog 22 #[t.val, at_.val, bx.val] w fun e w' => e = .returned (.tuple #[.agg #[.int .i64 0, .int .i64 0, .int .i64 0, .int .i64 0, .int .i64 0, .int .i64 0], .int .i64 1]) ∧ Below w.heap.size w w' := by
  have h1 := fun W => valid_12 t W
  rw [ht] at h1
  clear ht
  obtain ⟨x, y⟩ := t
  obtain ⟨p, q, r⟩ := at_
  obtain ⟨⟨a, b, c⟩, d, e, f⟩ := bx
  unfold Tn.val Pt.val Bx.val at *
  try unfold Pt.val at *
  dsimp only at *
  have E := ((((Env.nil w).add (w.heap.size) 23 #[.int .i64 x, .int .i64 y] rfl).add (w.heap.size + 1) 37 #[.int .i64 p, .int .i64 q, .int .i64 r] (by simp)).add (w.heap.size + 2) 39 #[.int .i64 a, .int .i64 b, .int .i64 c, .int .i64 d, .int .i64 e, .int .i64 f] (by simp)).add (w.heap.size + 3) 39 #[.int .i64 0, .int .i64 0, .int .i64 0, .int .i64 0, .int .i64 0, .int .i64 0] (by simp)
  have C := E.cells
  simp [BC, CF] at C
  go_enter Try.func22, Try.ntmps22
  go_wp2_with (first
    | (go_at_call 12; (with_reducible refine (h1 _).mono ?_); rintro X wq ⟨rfl, hb⟩; replace E := E.on hb; replace C := E.cells; simp [BC, CF] at C; clear hb))
  exact bodyPost_ret (v := .tuple #[.agg #[.int .i64 0, .int .i64 0, .int .i64 0, .int .i64 0, .int .i64 0, .int .i64 0], .int .i64 1]) (by simp [results, Try.results22, go_sem, *]) rfl ⟨rfl, E.sixb _ _ _ _ _ _ 0 rfl⟩
set_option maxHeartbeats 8000000 in
set_option maxRecDepth 100000 in
theorem rBox_arg2 (t : Tn) (at_ : Pt) (bx : Bx) (w : World) (ht : vT t = true) (hb : leB bx.lo bx.hi = false) : Calls Try.prog 22 #[t.val, at_.val, bx.val] w fun e w' => e = .returned (.tuple #[.agg #[.int .i64 0, .int .i64 0, .int .i64 0, .int .i64 0, .int .i64 0, .int .i64 0], .int .i64 1]) ∧ Below w.heap.size w w' := by
  have h1 := fun W => valid_12 t W
  rw [ht] at h1
  clear ht
  simp only [leB, Bool.and_eq_true, Bool.and_eq_false_iff, decide_eq_true_eq, decide_eq_false_iff_not] at hb
  obtain ⟨x, y⟩ := t
  obtain ⟨p, q, r⟩ := at_
  obtain ⟨⟨a, b, c⟩, d, e, f⟩ := bx
  unfold Tn.val Pt.val Bx.val at *
  try unfold Pt.val at *
  dsimp only at *
  by_cases x1 : a ≤ d
  · by_cases x2 : b ≤ e
    · have x3 : ¬ c ≤ f := by omega
      have q1 : decide (a > d) = false := by simp; omega
      have r1 : decide (d < a) = false := by simp; omega
      have q2 : decide (b > e) = false := by simp; omega
      have r2 : decide (e < b) = false := by simp; omega
      have q3 : decide (c > f) = true := by simp; omega
      have r3 : decide (f < c) = true := by simp; omega
      clear hb x1 x2 x3
      have E := ((((Env.nil w).add (w.heap.size) 23 #[.int .i64 x, .int .i64 y] rfl).add (w.heap.size + 1) 37 #[.int .i64 p, .int .i64 q, .int .i64 r] (by simp)).add (w.heap.size + 2) 39 #[.int .i64 a, .int .i64 b, .int .i64 c, .int .i64 d, .int .i64 e, .int .i64 f] (by simp)).add (w.heap.size + 3) 39 #[.int .i64 0, .int .i64 0, .int .i64 0, .int .i64 0, .int .i64 0, .int .i64 0] (by simp)
      have C := E.cells
      simp [BC, CF] at C
      go_enter Try.func22, Try.ntmps22
      go_wp2_with (first
        | (go_at_call 12; (with_reducible refine (h1 _).mono ?_); rintro X wq ⟨rfl, hb⟩; replace E := E.on hb; replace C := E.cells; simp [BC, CF] at C; clear hb))
      exact bodyPost_ret (v := .tuple #[.agg #[.int .i64 0, .int .i64 0, .int .i64 0, .int .i64 0, .int .i64 0, .int .i64 0], .int .i64 1]) (by simp [results, Try.results22, go_sem, *]) rfl ⟨rfl, E.sixb _ _ _ _ _ _ 0 rfl⟩
    · have q1 : decide (a > d) = false := by simp; omega
      have r1 : decide (d < a) = false := by simp; omega
      have q2 : decide (b > e) = true := by simp; omega
      have r2 : decide (e < b) = true := by simp; omega
      clear hb x1 x2
      have E := ((((Env.nil w).add (w.heap.size) 23 #[.int .i64 x, .int .i64 y] rfl).add (w.heap.size + 1) 37 #[.int .i64 p, .int .i64 q, .int .i64 r] (by simp)).add (w.heap.size + 2) 39 #[.int .i64 a, .int .i64 b, .int .i64 c, .int .i64 d, .int .i64 e, .int .i64 f] (by simp)).add (w.heap.size + 3) 39 #[.int .i64 0, .int .i64 0, .int .i64 0, .int .i64 0, .int .i64 0, .int .i64 0] (by simp)
      have C := E.cells
      simp [BC, CF] at C
      go_enter Try.func22, Try.ntmps22
      go_wp2_with (first
        | (go_at_call 12; (with_reducible refine (h1 _).mono ?_); rintro X wq ⟨rfl, hb⟩; replace E := E.on hb; replace C := E.cells; simp [BC, CF] at C; clear hb))
      exact bodyPost_ret (v := .tuple #[.agg #[.int .i64 0, .int .i64 0, .int .i64 0, .int .i64 0, .int .i64 0, .int .i64 0], .int .i64 1]) (by simp [results, Try.results22, go_sem, *]) rfl ⟨rfl, E.sixb _ _ _ _ _ _ 0 rfl⟩
  · have q1 : decide (a > d) = true := by simp; omega
    have r1 : decide (d < a) = true := by simp; omega
    clear hb x1
    have E := ((((Env.nil w).add (w.heap.size) 23 #[.int .i64 x, .int .i64 y] rfl).add (w.heap.size + 1) 37 #[.int .i64 p, .int .i64 q, .int .i64 r] (by simp)).add (w.heap.size + 2) 39 #[.int .i64 a, .int .i64 b, .int .i64 c, .int .i64 d, .int .i64 e, .int .i64 f] (by simp)).add (w.heap.size + 3) 39 #[.int .i64 0, .int .i64 0, .int .i64 0, .int .i64 0, .int .i64 0, .int .i64 0] (by simp)
    have C := E.cells
    simp [BC, CF] at C
    go_enter Try.func22, Try.ntmps22
    go_wp2_with (first
      | (go_at_call 12; (with_reducible refine (h1 _).mono ?_); rintro X wq ⟨rfl, hb⟩; replace E := E.on hb; replace C := E.cells; simp [BC, CF] at C; clear hb))
    exact bodyPost_ret (v := .tuple #[.agg #[.int .i64 0, .int .i64 0, .int .i64 0, .int .i64 0, .int .i64 0, .int .i64 0], .int .i64 1]) (by simp [results, Try.results22, go_sem, *]) rfl ⟨rfl, E.sixb _ _ _ _ _ _ 0 rfl⟩
set_option maxHeartbeats 8000000 in
set_option maxRecDepth 100000 in
theorem rBox_far (t : Tn) (at_ : Pt) (bx : Bx) (w : World) (ht : vT t = true) (hb : leB bx.lo bx.hi = true) (hn : (nearB at_ && nearB bx.lo && nearB bx.hi) = false) : Calls Try.prog 22 #[t.val, at_.val, bx.val] w fun e w' => e = .returned (.tuple #[.agg #[.int .i64 0, .int .i64 0, .int .i64 0, .int .i64 0, .int .i64 0, .int .i64 0], .int .i64 2]) ∧ Below w.heap.size w w' := by
  have f1 := fun W => near_23 at_ W
  have f2 := fun W => near_23 bx.lo W
  have f3 := fun W => near_23 bx.hi W
  have h1 := fun W => valid_12 t W
  rw [ht] at h1
  clear ht
  simp only [leB, Bool.and_eq_true, Bool.and_eq_false_iff, decide_eq_true_eq, decide_eq_false_iff_not] at hb
  cases k1 : nearB at_
  · rw [k1] at f1
    clear f2 f3 hn k1
    obtain ⟨x, y⟩ := t
    obtain ⟨p, q, r⟩ := at_
    obtain ⟨⟨a, b, c⟩, d, e, f⟩ := bx
    unfold Tn.val Pt.val Bx.val at *
    try unfold Pt.val at *
    dsimp only at *
    have q1 : decide (a > d) = false := by simp; omega
    have r1 : decide (d < a) = false := by simp; omega
    have q2 : decide (b > e) = false := by simp; omega
    have r2 : decide (e < b) = false := by simp; omega
    have q3 : decide (c > f) = false := by simp; omega
    have r3 : decide (f < c) = false := by simp; omega
    clear hb
    have E := ((((Env.nil w).add (w.heap.size) 23 #[.int .i64 x, .int .i64 y] rfl).add (w.heap.size + 1) 37 #[.int .i64 p, .int .i64 q, .int .i64 r] (by simp)).add (w.heap.size + 2) 39 #[.int .i64 a, .int .i64 b, .int .i64 c, .int .i64 d, .int .i64 e, .int .i64 f] (by simp)).add (w.heap.size + 3) 39 #[.int .i64 0, .int .i64 0, .int .i64 0, .int .i64 0, .int .i64 0, .int .i64 0] (by simp)
    have C := E.cells
    simp [BC, CF] at C
    go_enter Try.func22, Try.ntmps22
    go_wp2_with (first
      | (go_at_call 12; (with_reducible refine (h1 _).mono ?_); rintro X wq ⟨rfl, hb⟩; replace E := E.on hb; replace C := E.cells; simp [BC, CF] at C; clear hb)
      | (go_at_call 23; (with_reducible refine (f1 _).mono ?_); rintro X wq ⟨rfl, hb⟩; replace E := E.on hb; replace C := E.cells; simp [BC, CF] at C; clear hb))
    exact bodyPost_ret (v := .tuple #[.agg #[.int .i64 0, .int .i64 0, .int .i64 0, .int .i64 0, .int .i64 0, .int .i64 0], .int .i64 2]) (by simp [results, Try.results22, go_sem, *]) rfl ⟨rfl, E.sixb _ _ _ _ _ _ 0 rfl⟩
  · rw [k1] at f1
    cases k2 : nearB bx.lo
    · rw [k2] at f2
      clear f3 hn k1 k2
      obtain ⟨x, y⟩ := t
      obtain ⟨p, q, r⟩ := at_
      obtain ⟨⟨a, b, c⟩, d, e, f⟩ := bx
      unfold Tn.val Pt.val Bx.val at *
      try unfold Pt.val at *
      dsimp only at *
      have q1 : decide (a > d) = false := by simp; omega
      have r1 : decide (d < a) = false := by simp; omega
      have q2 : decide (b > e) = false := by simp; omega
      have r2 : decide (e < b) = false := by simp; omega
      have q3 : decide (c > f) = false := by simp; omega
      have r3 : decide (f < c) = false := by simp; omega
      clear hb
      have E := ((((Env.nil w).add (w.heap.size) 23 #[.int .i64 x, .int .i64 y] rfl).add (w.heap.size + 1) 37 #[.int .i64 p, .int .i64 q, .int .i64 r] (by simp)).add (w.heap.size + 2) 39 #[.int .i64 a, .int .i64 b, .int .i64 c, .int .i64 d, .int .i64 e, .int .i64 f] (by simp)).add (w.heap.size + 3) 39 #[.int .i64 0, .int .i64 0, .int .i64 0, .int .i64 0, .int .i64 0, .int .i64 0] (by simp)
      have C := E.cells
      simp [BC, CF] at C
      go_enter Try.func22, Try.ntmps22
      go_wp2_with (first
        | (go_at_call 12; (with_reducible refine (h1 _).mono ?_); rintro X wq ⟨rfl, hb⟩; replace E := E.on hb; replace C := E.cells; simp [BC, CF] at C; clear hb)
        | (go_at_call 23; (with_reducible refine (f1 _).mono ?_); rintro X wq ⟨rfl, hb⟩; replace E := E.on hb; replace C := E.cells; simp [BC, CF] at C; clear hb)
        | (go_at_call 23; (with_reducible refine (f2 _).mono ?_); rintro X wq ⟨rfl, hb⟩; replace E := E.on hb; replace C := E.cells; simp [BC, CF] at C; clear hb))
      exact bodyPost_ret (v := .tuple #[.agg #[.int .i64 0, .int .i64 0, .int .i64 0, .int .i64 0, .int .i64 0, .int .i64 0], .int .i64 2]) (by simp [results, Try.results22, go_sem, *]) rfl ⟨rfl, E.sixb _ _ _ _ _ _ 0 rfl⟩
    · rw [k2] at f2
      have k3 : nearB bx.hi = false := by cases e : nearB bx.hi <;> simp_all
      rw [k3] at f3
      clear hn k1 k2 k3
      obtain ⟨x, y⟩ := t
      obtain ⟨p, q, r⟩ := at_
      obtain ⟨⟨a, b, c⟩, d, e, f⟩ := bx
      unfold Tn.val Pt.val Bx.val at *
      try unfold Pt.val at *
      dsimp only at *
      have q1 : decide (a > d) = false := by simp; omega
      have r1 : decide (d < a) = false := by simp; omega
      have q2 : decide (b > e) = false := by simp; omega
      have r2 : decide (e < b) = false := by simp; omega
      have q3 : decide (c > f) = false := by simp; omega
      have r3 : decide (f < c) = false := by simp; omega
      clear hb
      have E := ((((Env.nil w).add (w.heap.size) 23 #[.int .i64 x, .int .i64 y] rfl).add (w.heap.size + 1) 37 #[.int .i64 p, .int .i64 q, .int .i64 r] (by simp)).add (w.heap.size + 2) 39 #[.int .i64 a, .int .i64 b, .int .i64 c, .int .i64 d, .int .i64 e, .int .i64 f] (by simp)).add (w.heap.size + 3) 39 #[.int .i64 0, .int .i64 0, .int .i64 0, .int .i64 0, .int .i64 0, .int .i64 0] (by simp)
      have C := E.cells
      simp [BC, CF] at C
      go_enter Try.func22, Try.ntmps22
      go_wp2_with (first
        | (go_at_call 12; (with_reducible refine (h1 _).mono ?_); rintro X wq ⟨rfl, hb⟩; replace E := E.on hb; replace C := E.cells; simp [BC, CF] at C; clear hb)
        | (go_at_call 23; (with_reducible refine (f1 _).mono ?_); rintro X wq ⟨rfl, hb⟩; replace E := E.on hb; replace C := E.cells; simp [BC, CF] at C; clear hb)
        | (go_at_call 23; (with_reducible refine (f2 _).mono ?_); rintro X wq ⟨rfl, hb⟩; replace E := E.on hb; replace C := E.cells; simp [BC, CF] at C; clear hb)
        | (go_at_call 23; (with_reducible refine (f3 _).mono ?_); rintro X wq ⟨rfl, hb⟩; replace E := E.on hb; replace C := E.cells; simp [BC, CF] at C; clear hb))
      exact bodyPost_ret (v := .tuple #[.agg #[.int .i64 0, .int .i64 0, .int .i64 0, .int .i64 0, .int .i64 0, .int .i64 0], .int .i64 2]) (by simp [results, Try.results22, go_sem, *]) rfl ⟨rfl, E.sixb _ _ _ _ _ _ 0 rfl⟩
theorem s_rb {w0 w : World} {g0 g1 g2 g3 : Nat} {a0_0 a0_1 a0_2 a0_3 a0_4 a0_5 a1_0 a1_1 a1_2 a1_3 a1_4 a1_5 a2_0 a2_1 a2_2 a3_0 a3_1 : Value} (E : Env w0 w (⟨g0, 39, #[a0_0, a0_1, a0_2, a0_3, a0_4, a0_5]⟩ :: ⟨g1, 39, #[a1_0, a1_1, a1_2, a1_3, a1_4, a1_5]⟩ :: ⟨g2, 37, #[a2_0, a2_1, a2_2]⟩ :: ⟨g3, 23, #[a3_0, a3_1]⟩ :: [])) : Env w0 w (⟨g0, 39, #[a0_0, a0_1, a0_2, a0_3, a0_4, a0_5]⟩ :: ⟨g1, 39, #[a1_0, a1_1, a1_2, a1_3, a1_4, a1_5]⟩ :: ⟨g2, 37, #[a2_0, a2_1, a2_2]⟩ :: ⟨g3, 23, #[a3_0, a3_1]⟩ :: []) ∧ w.cell? ⟨g1, 0, none⟩ = some a1_0 ∧ w.cell? ⟨g1, 1, none⟩ = some a1_1 ∧ w.cell? ⟨g1, 2, none⟩ = some a1_2 ∧ w.cell? ⟨g1, 3, none⟩ = some a1_3 ∧ w.cell? ⟨g1, 4, none⟩ = some a1_4 ∧ w.cell? ⟨g1, 5, none⟩ = some a1_5 ∧ w.cell? ⟨g2, 0, none⟩ = some a2_0 ∧ w.cell? ⟨g2, 1, none⟩ = some a2_1 ∧ w.cell? ⟨g2, 2, none⟩ = some a2_2 ∧ w.cell? ⟨g3, 0, none⟩ = some a3_0 ∧ w.cell? ⟨g3, 1, none⟩ = some a3_1 := by
  have C := E.cells
  simp [BC, CF] at C
  exact ⟨E, C.2.1.2.1.1, C.2.1.2.2.1.1, C.2.1.2.2.2.1.1, C.2.1.2.2.2.2.1.1, C.2.1.2.2.2.2.2.1.1, C.2.1.2.2.2.2.2.2.1, C.2.2.1.2.1.1, C.2.2.1.2.2.1.1, C.2.2.1.2.2.2.1, C.2.2.2.2.1.1, C.2.2.2.2.2.1⟩
set_option maxHeartbeats 8000000 in
set_option maxRecDepth 100000 in
theorem rBox_ok (t : Tn) (at_ : Pt) (bx : Bx) (w : World) (ht : vT t = true) (hb : leB bx.lo bx.hi = true) (hn : (nearB at_ && nearB bx.lo && nearB bx.hi) = true) : Calls Try.prog 22 #[t.val, at_.val, bx.val] w fun e w' => e = .returned (.tuple #[(bxv t at_ bx).val, .int .i64 0]) ∧ Below w.heap.size w w' := by
  have f1 := fun W => near_23 at_ W
  have f2 := fun W => near_23 bx.lo W
  have f3 := fun W => near_23 bx.hi W
  simp only [Bool.and_eq_true] at hn
  obtain ⟨⟨k1, k2⟩, k3⟩ := hn
  rw [k1] at f1
  rw [k2] at f2
  rw [k3] at f3
  have g1 := fun W => image_24 t bx.lo W ht (bd_mono (nearB_bd k2) (by decide))
  have g2 := fun W => image_24 t bx.hi W ht (bd_mono (nearB_bd k3) (by decide))
  have b1 := img_bd ht (nearB_bd k2)
  have b2 := img_bd ht (nearB_bd k3)
  have b3 := nearB_bd k1
  have o1 := bd_ok (ad_bd b1 b3) (by decide)
  have o2 := bd_ok (ad_bd b2 b3) (by decide)
  have g3 : ∀ W, Calls Try.prog 49 #[(img t bx.lo).val, at_.val] W fun e w' => e = .returned (ad (img t bx.lo) at_).val ∧ Below W.heap.size W w' := fun W => plus_49 _ _ _ _ _ _ o1.1 o1.2.1 o1.2.2 W
  have g4 : ∀ W, Calls Try.prog 49 #[(img t bx.hi).val, at_.val] W fun e w' => e = .returned (ad (img t bx.hi) at_).val ∧ Below W.heap.size W w' := fun W => plus_49 _ _ _ _ _ _ o2.1 o2.2.1 o2.2.2 W
  have g5 : ∀ W, Calls Try.prog 48 #[(ad (img t bx.lo) at_).val, (ad (img t bx.hi) at_).val] W fun e w' => e = .returned (bxv t at_ bx).val ∧ Below W.heap.size W w' := fun W => by
    have h := order_48 (ad (img t bx.lo) at_).x (ad (img t bx.lo) at_).y (ad (img t bx.lo) at_).z (ad (img t bx.hi) at_).x (ad (img t bx.hi) at_).y (ad (img t bx.hi) at_).z W
    rw [← bxv_ref]
    exact h
  clear b1 b2 b3 o1 o2 k1 k2 k3
  have h1 := fun W => valid_12 t W
  rw [ht] at h1
  clear ht
  simp only [leB, Bool.and_eq_true, Bool.and_eq_false_iff, decide_eq_true_eq, decide_eq_false_iff_not] at hb
  generalize bxv t at_ bx = RB at *
  generalize ad (img t bx.lo) at_ = P1 at *
  generalize ad (img t bx.hi) at_ = P2 at *
  generalize img t bx.lo = U at *
  generalize img t bx.hi = V at *
  obtain ⟨m0, m1, m2⟩ := P1
  obtain ⟨h0, h1_, h2_⟩ := P2
  obtain ⟨u0, u1, u2⟩ := U
  obtain ⟨v0, v1, v2⟩ := V
  obtain ⟨⟨x0, x1, x2⟩, y0, y1, y2⟩ := RB
  obtain ⟨x, y⟩ := t
  obtain ⟨p, q, r⟩ := at_
  obtain ⟨⟨a, b, c⟩, d, e, f⟩ := bx
  unfold Tn.val Pt.val Bx.val at *
  try unfold Pt.val at *
  dsimp only at *
  have q1 : decide (a > d) = false := by simp; omega
  have r1 : decide (d < a) = false := by simp; omega
  have q2 : decide (b > e) = false := by simp; omega
  have r2 : decide (e < b) = false := by simp; omega
  have q3 : decide (c > f) = false := by simp; omega
  have r3 : decide (f < c) = false := by simp; omega
  clear hb
  have E := ((((Env.nil w).add (w.heap.size) 23 #[.int .i64 x, .int .i64 y] rfl).add (w.heap.size + 1) 37 #[.int .i64 p, .int .i64 q, .int .i64 r] (by simp)).add (w.heap.size + 2) 39 #[.int .i64 a, .int .i64 b, .int .i64 c, .int .i64 d, .int .i64 e, .int .i64 f] (by simp)).add (w.heap.size + 3) 39 #[.int .i64 0, .int .i64 0, .int .i64 0, .int .i64 0, .int .i64 0, .int .i64 0] (by simp)
  have C := E.cells
  simp [BC, CF] at C
  go_enter Try.func22, Try.ntmps22
  go_upto_region 5 with (first | (go_at_call 12; (with_reducible refine (h1 _).mono ?_); rintro X wq ⟨rfl, hb⟩; replace E := E.on hb; replace C := E.cells; simp [BC, CF] at C; clear hb) | (go_at_call 23; (with_reducible refine (f1 _).mono ?_); rintro X wq ⟨rfl, hb⟩; replace E := E.on hb; replace C := E.cells; simp [BC, CF] at C; clear hb) | (go_at_call 23; (with_reducible refine (f2 _).mono ?_); rintro X wq ⟨rfl, hb⟩; replace E := E.on hb; replace C := E.cells; simp [BC, CF] at C; clear hb) | (go_at_call 23; (with_reducible refine (f3 _).mono ?_); rintro X wq ⟨rfl, hb⟩; replace E := E.on hb; replace C := E.cells; simp [BC, CF] at C; clear hb))
  refine wp_region_plan 13 [(0, true), (1, true), (2, true), (4, true), (6, true), (7, true), (8, true), (10, true), (3, false), (5, false), (9, false), (11, false), (12, false)] (fun W' => Env w W' [⟨w.heap.size + 3, 39, #[.int .i64 0, .int .i64 0, .int .i64 0, .int .i64 0, .int .i64 0, .int .i64 0]⟩, ⟨w.heap.size + 2, 39, #[.int .i64 a, .int .i64 b, .int .i64 c, .int .i64 d, .int .i64 e, .int .i64 f]⟩, ⟨w.heap.size + 1, 37, #[.int .i64 p, .int .i64 q, .int .i64 r]⟩, ⟨w.heap.size, 23, #[.int .i64 x, .int .i64 y]⟩] ∧ W'.cell? ⟨w.heap.size + 2, 0, none⟩ = some (.int .i64 a) ∧ W'.cell? ⟨w.heap.size + 2, 1, none⟩ = some (.int .i64 b) ∧ W'.cell? ⟨w.heap.size + 2, 2, none⟩ = some (.int .i64 c) ∧ W'.cell? ⟨w.heap.size + 2, 3, none⟩ = some (.int .i64 d) ∧ W'.cell? ⟨w.heap.size + 2, 4, none⟩ = some (.int .i64 e) ∧ W'.cell? ⟨w.heap.size + 2, 5, none⟩ = some (.int .i64 f) ∧ W'.cell? ⟨w.heap.size + 1, 0, none⟩ = some (.int .i64 p) ∧ W'.cell? ⟨w.heap.size + 1, 1, none⟩ = some (.int .i64 q) ∧ W'.cell? ⟨w.heap.size + 1, 2, none⟩ = some (.int .i64 r) ∧ W'.cell? ⟨w.heap.size, 0, none⟩ = some (.int .i64 x) ∧ W'.cell? ⟨w.heap.size, 1, none⟩ = some (.int .i64 y)) (by kernel_rfl) (by kernel_rfl) (fun _ _ d _ _ h => by cases d <;> exact h) (s_rb E.drw) ?_
  simp only [List.filterMap_cons, List.filterMap_nil, List.getElem?_cons_zero, List.getElem?_cons_succ, Option.map_some, List.drop_succ_cons, List.drop_zero]
  replace E := E.drw
  iterate 8 (first | (refine wpPlan_still (v := ?_) (Or.inl ⟨by rfl, ?_⟩) ?_; rotate_left; (focus (intro W hW; (try dsimp only at hW); go_split_ands; go_simp; try with_reducible rfl)); try simp only [Act.put, List.setIfInBounds_toArray, List.set_cons_zero, List.set_cons_succ]) | (refine wpPlan_still (Or.inr ⟨by rfl, rfl⟩) ?_; try simp only [Act.put, List.setIfInBounds_toArray, List.set_cons_zero, List.set_cons_succ]))
  refine wpPlan_only (fun K hK => ?_)
  try go_simp
  (go_at_call 24; (with_reducible refine (g1 _).mono ?_); rintro X wq ⟨rfl, hb⟩)
  replace E := E.on hb
  clear hb
  refine hK.out _ _ (s_rb E) ?_
  clear hK K
  try simp only [Act.put, List.setIfInBounds_toArray, List.set_cons_zero, List.set_cons_succ]
  refine wpPlan_only (fun K hK => ?_)
  try go_simp
  (go_at_call 49; (with_reducible refine (g3 _).mono ?_); rintro X wq ⟨rfl, hb⟩)
  replace E := E.on hb
  clear hb
  refine hK.out _ _ (s_rb E) ?_
  clear hK K
  try simp only [Act.put, List.setIfInBounds_toArray, List.set_cons_zero, List.set_cons_succ]
  refine wpPlan_only (fun K hK => ?_)
  try go_simp
  (go_at_call 24; (with_reducible refine (g2 _).mono ?_); rintro X wq ⟨rfl, hb⟩)
  replace E := E.on hb
  clear hb
  refine hK.out _ _ (s_rb E) ?_
  clear hK K
  try simp only [Act.put, List.setIfInBounds_toArray, List.set_cons_zero, List.set_cons_succ]
  refine wpPlan_only (fun K hK => ?_)
  try go_simp
  (go_at_call 49; (with_reducible refine (g4 _).mono ?_); rintro X wq ⟨rfl, hb⟩)
  replace E := E.on hb
  clear hb
  refine hK.out _ _ (s_rb E) ?_
  clear hK K
  try simp only [Act.put, List.setIfInBounds_toArray, List.set_cons_zero, List.set_cons_succ]
  refine wpPlan_only (fun K hK => ?_)
  try go_simp
  (go_at_call 48; (with_reducible refine (g5 _).mono ?_); rintro X wq ⟨rfl, hb⟩)
  replace E := E.on hb
  clear hb
  refine hK.out _ _ (s_rb E) ?_
  clear hK K
  try simp only [Act.put, List.setIfInBounds_toArray, List.set_cons_zero, List.set_cons_succ]
  refine wpPlan_end ?_
  replace C := E.cells
  simp [BC, CF] at C
  go_wp2
  exact bodyPost_ret (v := .tuple #[.agg #[.int .i64 x0, .int .i64 x1, .int .i64 x2, .int .i64 y0, .int .i64 y1, .int .i64 y2], .int .i64 0]) (by simp [results, Try.results22, go_sem, *]) rfl ⟨rfl, E.sixb _ _ _ _ _ _ 0 rfl⟩
/-- Both boxes are the same, with the same code. -/
theorem box_same (t : Tn) (at_ : Pt) (bx : Bx) : ∃ (R : Bx) (c : Int), (∀ W, Calls Try.prog 21 #[t.val, at_.val, bx.val] W fun e w' => e = .returned (.tuple #[R.val, .int .i64 c]) ∧ Below W.heap.size W w') ∧
    ∀ W, Calls Try.prog 22 #[t.val, at_.val, bx.val] W fun e w' => e = .returned (.tuple #[R.val, .int .i64 c]) ∧ Below W.heap.size W w' := by
  cases ht : vT t
  · exact ⟨⟨⟨0, 0, 0⟩, 0, 0, 0⟩, 1, fun W => Box_arg1 t at_ bx W ht, fun W => rBox_arg1 t at_ bx W ht⟩
  · cases hb : leB bx.lo bx.hi
    · exact ⟨⟨⟨0, 0, 0⟩, 0, 0, 0⟩, 1, fun W => Box_arg2 t at_ bx W ht hb, fun W => rBox_arg2 t at_ bx W ht hb⟩
    · cases hn : nearB at_ && nearB bx.lo && nearB bx.hi
      · exact ⟨⟨⟨0, 0, 0⟩, 0, 0, 0⟩, 2, fun W => Box_far t at_ bx W ht hb hn, fun W => rBox_far t at_ bx W ht hb hn⟩
      · exact ⟨bxv t at_ bx, 0, fun W => Box_ok t at_ bx W ht hb hn, fun W => rBox_ok t at_ bx W ht hb hn⟩
theorem s_im9 {w0 w : World} {g0 g1 g2 g3 g4 g5 g6 : Nat} {a0_0 a0_1 a0_2 a0_3 a0_4 a0_5 a1_0 a1_1 a1_2 a1_3 a1_4 a1_5 a2_0 a2_1 a2_2 a3_0 a3_1 a3_2 a3_3 a3_4 a3_5 a4_0 a4_1 a4_2 a5_0 a5_1 a5_2 a6_0 a6_1 : Value} (E : Env w0 w (⟨g0, 39, #[a0_0, a0_1, a0_2, a0_3, a0_4, a0_5]⟩ :: ⟨g1, 39, #[a1_0, a1_1, a1_2, a1_3, a1_4, a1_5]⟩ :: ⟨g2, 37, #[a2_0, a2_1, a2_2]⟩ :: ⟨g3, 39, #[a3_0, a3_1, a3_2, a3_3, a3_4, a3_5]⟩ :: ⟨g4, 37, #[a4_0, a4_1, a4_2]⟩ :: ⟨g5, 37, #[a5_0, a5_1, a5_2]⟩ :: ⟨g6, 23, #[a6_0, a6_1]⟩ :: [])) : Env w0 w (⟨g0, 39, #[a0_0, a0_1, a0_2, a0_3, a0_4, a0_5]⟩ :: ⟨g1, 39, #[a1_0, a1_1, a1_2, a1_3, a1_4, a1_5]⟩ :: ⟨g2, 37, #[a2_0, a2_1, a2_2]⟩ :: ⟨g3, 39, #[a3_0, a3_1, a3_2, a3_3, a3_4, a3_5]⟩ :: ⟨g4, 37, #[a4_0, a4_1, a4_2]⟩ :: ⟨g5, 37, #[a5_0, a5_1, a5_2]⟩ :: ⟨g6, 23, #[a6_0, a6_1]⟩ :: []) ∧ w.cell? ⟨g2, 0, none⟩ = some a2_0 ∧ w.cell? ⟨g2, 1, none⟩ = some a2_1 ∧ w.cell? ⟨g2, 2, none⟩ = some a2_2 ∧ w.cell? ⟨g5, 0, none⟩ = some a5_0 ∧ w.cell? ⟨g5, 1, none⟩ = some a5_1 ∧ w.cell? ⟨g5, 2, none⟩ = some a5_2 ∧ w.cell? ⟨g6, 0, none⟩ = some a6_0 ∧ w.cell? ⟨g6, 1, none⟩ = some a6_1 := by
  have C := E.cells
  simp [BC, CF] at C
  exact ⟨E, C.2.2.1.2.1.1, C.2.2.1.2.2.1.1, C.2.2.1.2.2.2.1, C.2.2.2.2.2.1.2.1.1, C.2.2.2.2.2.1.2.2.1.1, C.2.2.2.2.2.1.2.2.2.1, C.2.2.2.2.2.2.2.1.1, C.2.2.2.2.2.2.2.2.1⟩
set_option maxHeartbeats 8000000 in
set_option maxRecDepth 100000 in
theorem images_walk (t : Tn) (p at_ : Pt) (bx : Bx) (w : World) : Calls Try.prog 4 #[t.val, p.val, at_.val, bx.val] w fun e w' => e = .returned (.bool true) ∧ Below w.heap.size w w' := by
  obtain ⟨R, c0, hB, hC⟩ := box_same t at_ bx
  have n1 := ne39_same R
  have hv := fun W => valid_12 t W
  have hn := fun W => near_23 p W
  have z0 := eq37_same ⟨0, 0, 0⟩
  have cc : (c0 != c0) = false := by simp
  have cc2 : decide (c0 = c0) = true := by simp
  obtain ⟨⟨x0, x1, x2⟩, y0, y1, y2⟩ := R
  cases ht : vT t
  · rw [ht] at hv
    have ha := fun W => Apply_arg t p W ht
    unfold pv at ha
    clear ht hn
    obtain ⟨x, y⟩ := t
    obtain ⟨p, q, r⟩ := p
    obtain ⟨a0, a1, a2⟩ := at_
    obtain ⟨⟨a, b, c⟩, d, e, f⟩ := bx
    unfold Tn.val Pt.val Bx.val at *
    try unfold Pt.val at *
    dsimp only at *
    have E := ((((Env.nil w).add (w.heap.size) 23 #[.int .i64 x, .int .i64 y] rfl).add (w.heap.size + 1) 37 #[.int .i64 p, .int .i64 q, .int .i64 r] (by simp)).add (w.heap.size + 2) 37 #[.int .i64 a0, .int .i64 a1, .int .i64 a2] (by simp)).add (w.heap.size + 3) 39 #[.int .i64 a, .int .i64 b, .int .i64 c, .int .i64 d, .int .i64 e, .int .i64 f] (by simp)
    have C := E.cells
    simp [BC, CF] at C
    go_enter Try.func4, Try.ntmps4
    go_upto_region 3 with (go_at_call 10; (with_reducible refine (awake_10 _).mono ?_); rintro X wq ⟨rfl, hb⟩; replace E := E.on hb; replace C := E.cells; simp [BC, CF] at C; clear hb)
    go_upto_region 4 with (go_at_call 20; (with_reducible refine (ha _).mono ?_); rintro X wa ⟨rfl, hb⟩; replace E := E.on hb; replace C := E.cells; simp [BC, CF] at C; clear hb)
    replace E := E.add _ 37 #[.int .i64 0, .int .i64 0, .int .i64 0] rfl
    replace C := E.cells
    simp [BC, CF] at C
    go_upto_region 5 with (go_at_call 21; (with_reducible refine (hB _).mono ?_); rintro X wb ⟨rfl, hb⟩; replace E := E.on hb; replace C := E.cells; simp [BC, CF] at C; clear hb)
    replace E := E.add _ 39 #[.int .i64 x0, .int .i64 x1, .int .i64 x2, .int .i64 y0, .int .i64 y1, .int .i64 y2] rfl
    replace C := E.cells
    simp [BC, CF] at C
    go_upto_region 6 with (go_at_call 22; (with_reducible refine (hC _).mono ?_); rintro X wd ⟨rfl, hb⟩; replace E := E.on hb; replace C := E.cells; simp [BC, CF] at C; clear hb)
    replace E := E.add _ 39 #[.int .i64 x0, .int .i64 x1, .int .i64 x2, .int .i64 y0, .int .i64 y1, .int .i64 y2] rfl
    replace C := E.cells
    simp [BC, CF] at C
    go_wp2_with (go_at_call 12; (with_reducible refine (hv _).mono ?_); rintro X wq ⟨rfl, hb⟩; replace E := E.on hb; replace C := E.cells; simp [BC, CF] at C; clear hb)
    go_ret
    exact ⟨rfl, envb E⟩
  · rw [ht] at hv
    cases hp : nearB p
    · rw [hp] at hn
      have ha := fun W => Apply_far t p W ht hp
      unfold pv at ha
      clear ht hp
      obtain ⟨x, y⟩ := t
      obtain ⟨p, q, r⟩ := p
      obtain ⟨a0, a1, a2⟩ := at_
      obtain ⟨⟨a, b, c⟩, d, e, f⟩ := bx
      unfold Tn.val Pt.val Bx.val at *
      try unfold Pt.val at *
      dsimp only at *
      have E := ((((Env.nil w).add (w.heap.size) 23 #[.int .i64 x, .int .i64 y] rfl).add (w.heap.size + 1) 37 #[.int .i64 p, .int .i64 q, .int .i64 r] (by simp)).add (w.heap.size + 2) 37 #[.int .i64 a0, .int .i64 a1, .int .i64 a2] (by simp)).add (w.heap.size + 3) 39 #[.int .i64 a, .int .i64 b, .int .i64 c, .int .i64 d, .int .i64 e, .int .i64 f] (by simp)
      have C := E.cells
      simp [BC, CF] at C
      go_enter Try.func4, Try.ntmps4
      go_upto_region 3 with (go_at_call 10; (with_reducible refine (awake_10 _).mono ?_); rintro X wq ⟨rfl, hb⟩; replace E := E.on hb; replace C := E.cells; simp [BC, CF] at C; clear hb)
      go_upto_region 4 with (go_at_call 20; (with_reducible refine (ha _).mono ?_); rintro X wa ⟨rfl, hb⟩; replace E := E.on hb; replace C := E.cells; simp [BC, CF] at C; clear hb)
      replace E := E.add _ 37 #[.int .i64 0, .int .i64 0, .int .i64 0] rfl
      replace C := E.cells
      simp [BC, CF] at C
      go_upto_region 5 with (go_at_call 21; (with_reducible refine (hB _).mono ?_); rintro X wb ⟨rfl, hb⟩; replace E := E.on hb; replace C := E.cells; simp [BC, CF] at C; clear hb)
      replace E := E.add _ 39 #[.int .i64 x0, .int .i64 x1, .int .i64 x2, .int .i64 y0, .int .i64 y1, .int .i64 y2] rfl
      replace C := E.cells
      simp [BC, CF] at C
      go_upto_region 6 with (go_at_call 22; (with_reducible refine (hC _).mono ?_); rintro X wd ⟨rfl, hb⟩; replace E := E.on hb; replace C := E.cells; simp [BC, CF] at C; clear hb)
      replace E := E.add _ 39 #[.int .i64 x0, .int .i64 x1, .int .i64 x2, .int .i64 y0, .int .i64 y1, .int .i64 y2] rfl
      replace C := E.cells
      simp [BC, CF] at C
      go_wp2_with (first | (go_at_call 12; (with_reducible refine (hv _).mono ?_); rintro X wq ⟨rfl, hb⟩; replace E := E.on hb; replace C := E.cells; simp [BC, CF] at C; clear hb) | (go_at_call 23; (with_reducible refine (hn _).mono ?_); rintro X wq ⟨rfl, hb⟩; replace E := E.on hb; replace C := E.cells; simp [BC, CF] at C; clear hb))
      go_ret
      exact ⟨rfl, envb E⟩
    · rw [hp] at hn
      have ha := fun W => Apply_ok t p W ht hp
      have h6 := fun W => image_24 t p W ht (bd_mono (nearB_bd hp) (by decide))
      have e5 := eq37_same (img t p)
      clear ht hp z0
      generalize img t p = U at *
      obtain ⟨u0, u1, u2⟩ := U
      obtain ⟨x, y⟩ := t
      obtain ⟨p, q, r⟩ := p
      obtain ⟨a0, a1, a2⟩ := at_
      obtain ⟨⟨a, b, c⟩, d, e, f⟩ := bx
      unfold Tn.val Pt.val Bx.val at *
      try unfold Pt.val at *
      dsimp only at *
      have E := ((((Env.nil w).add (w.heap.size) 23 #[.int .i64 x, .int .i64 y] rfl).add (w.heap.size + 1) 37 #[.int .i64 p, .int .i64 q, .int .i64 r] (by simp)).add (w.heap.size + 2) 37 #[.int .i64 a0, .int .i64 a1, .int .i64 a2] (by simp)).add (w.heap.size + 3) 39 #[.int .i64 a, .int .i64 b, .int .i64 c, .int .i64 d, .int .i64 e, .int .i64 f] (by simp)
      have C := E.cells
      simp [BC, CF] at C
      go_enter Try.func4, Try.ntmps4
      go_upto_region 3 with (go_at_call 10; (with_reducible refine (awake_10 _).mono ?_); rintro X wq ⟨rfl, hb⟩; replace E := E.on hb; replace C := E.cells; simp [BC, CF] at C; clear hb)
      go_upto_region 4 with (go_at_call 20; (with_reducible refine (ha _).mono ?_); rintro X wa ⟨rfl, hb⟩; replace E := E.on hb; replace C := E.cells; simp [BC, CF] at C; clear hb)
      replace E := E.add _ 37 #[.int .i64 u0, .int .i64 u1, .int .i64 u2] rfl
      replace C := E.cells
      simp [BC, CF] at C
      go_upto_region 5 with (go_at_call 21; (with_reducible refine (hB _).mono ?_); rintro X wb ⟨rfl, hb⟩; replace E := E.on hb; replace C := E.cells; simp [BC, CF] at C; clear hb)
      replace E := E.add _ 39 #[.int .i64 x0, .int .i64 x1, .int .i64 x2, .int .i64 y0, .int .i64 y1, .int .i64 y2] rfl
      replace C := E.cells
      simp [BC, CF] at C
      go_upto_region 6 with (go_at_call 22; (with_reducible refine (hC _).mono ?_); rintro X wd ⟨rfl, hb⟩; replace E := E.on hb; replace C := E.cells; simp [BC, CF] at C; clear hb)
      replace E := E.add _ 39 #[.int .i64 x0, .int .i64 x1, .int .i64 x2, .int .i64 y0, .int .i64 y1, .int .i64 y2] rfl
      replace C := E.cells
      simp [BC, CF] at C
      go_upto_region 12 with (first | (go_at_call 12; (with_reducible refine (hv _).mono ?_); rintro X wq ⟨rfl, hb⟩; replace E := E.on hb; replace C := E.cells; simp [BC, CF] at C; clear hb) | (go_at_call 23; (with_reducible refine (hn _).mono ?_); rintro X wq ⟨rfl, hb⟩; replace E := E.on hb; replace C := E.cells; simp [BC, CF] at C; clear hb))
      refine wp_region_plan 9 [(0, true), (1, true), (2, true), (3, true), (4, true), (5, true), (6, false), (7, true), (8, true)] (fun W' => Env w W' [⟨wd.heap.size, 39, #[.int .i64 x0, .int .i64 x1, .int .i64 x2, .int .i64 y0, .int .i64 y1, .int .i64 y2]⟩, ⟨wb.heap.size, 39, #[.int .i64 x0, .int .i64 x1, .int .i64 x2, .int .i64 y0, .int .i64 y1, .int .i64 y2]⟩, ⟨wa.heap.size, 37, #[.int .i64 u0, .int .i64 u1, .int .i64 u2]⟩, ⟨w.heap.size + 3, 39, #[.int .i64 a, .int .i64 b, .int .i64 c, .int .i64 d, .int .i64 e, .int .i64 f]⟩, ⟨w.heap.size + 2, 37, #[.int .i64 a0, .int .i64 a1, .int .i64 a2]⟩, ⟨w.heap.size + 1, 37, #[.int .i64 p, .int .i64 q, .int .i64 r]⟩, ⟨w.heap.size, 23, #[.int .i64 x, .int .i64 y]⟩] ∧ W'.cell? ⟨wa.heap.size, 0, none⟩ = some (.int .i64 u0) ∧ W'.cell? ⟨wa.heap.size, 1, none⟩ = some (.int .i64 u1) ∧ W'.cell? ⟨wa.heap.size, 2, none⟩ = some (.int .i64 u2) ∧ W'.cell? ⟨w.heap.size + 1, 0, none⟩ = some (.int .i64 p) ∧ W'.cell? ⟨w.heap.size + 1, 1, none⟩ = some (.int .i64 q) ∧ W'.cell? ⟨w.heap.size + 1, 2, none⟩ = some (.int .i64 r) ∧ W'.cell? ⟨w.heap.size, 0, none⟩ = some (.int .i64 x) ∧ W'.cell? ⟨w.heap.size, 1, none⟩ = some (.int .i64 y)) (by kernel_rfl) (by kernel_rfl) (fun _ _ d _ _ h => by cases d <;> exact h) (s_im9 E.drw) ?_
      simp only [List.filterMap_cons, List.filterMap_nil, List.getElem?_cons_zero, List.getElem?_cons_succ, Option.map_some, List.drop_succ_cons, List.drop_zero]
      replace E := E.drw
      iterate 6 (first | (refine wpPlan_still (v := ?_) (Or.inl ⟨by rfl, ?_⟩) ?_; rotate_left; (focus (intro W hW; (try dsimp only at hW); go_split_ands; go_simp; try with_reducible rfl)); try simp only [Act.put, List.setIfInBounds_toArray, List.set_cons_zero, List.set_cons_succ]) | (refine wpPlan_still (Or.inr ⟨by rfl, rfl⟩) ?_; try simp only [Act.put, List.setIfInBounds_toArray, List.set_cons_zero, List.set_cons_succ]))
      refine wpPlan_only (fun K hK => ?_)
      try go_simp
      (go_at_call 24; (with_reducible refine (h6 _).mono ?_); rintro X wq ⟨rfl, hb⟩)
      replace E := E.on hb
      clear hb
      refine hK.out _ _ (s_im9 E) ?_
      clear hK K
      try simp only [Act.put, List.setIfInBounds_toArray, List.set_cons_zero, List.set_cons_succ]
      iterate 2 (first | (refine wpPlan_still (v := ?_) (Or.inl ⟨by rfl, ?_⟩) ?_; rotate_left; (focus (intro W hW; (try dsimp only at hW); go_split_ands; go_simp; try with_reducible rfl)); try simp only [Act.put, List.setIfInBounds_toArray, List.set_cons_zero, List.set_cons_succ]) | (refine wpPlan_still (Or.inr ⟨by rfl, rfl⟩) ?_; try simp only [Act.put, List.setIfInBounds_toArray, List.set_cons_zero, List.set_cons_succ]))
      refine wpPlan_end ?_
      replace C := E.cells
      simp [BC, CF] at C
      go_wp2
      go_ret
      exact ⟨rfl, envb E⟩
end Go.Proofs.Ytmfclelnaceonaa
