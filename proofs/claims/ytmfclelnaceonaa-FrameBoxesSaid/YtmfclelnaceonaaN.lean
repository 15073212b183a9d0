/- Boxes: of the program, and of the reference. -/
import Derived.Test.YtmfclelnaceonaaL
import Derived.Test.YtmfclelnaceonaaOpn
namespace Go.Proofs.Ytmfclelnaceonaa
open Go.ChangeShapes Go.WideShapes Go.ChangeAt Go.RowKit
set_option linter.unusedVariables false
set_option linter.unusedSimpArgs false

def Bx.cs (b : Bx) : Array Value := #[.int .i64 b.lo.x, .int .i64 b.lo.y, .int .i64 b.lo.z, .int .i64 b.hi.x, .int .i64 b.hi.y, .int .i64 b.hi.z]
def leB (p q : Pt) : Bool := decide (p.x ≤ q.x) && decide (p.y ≤ q.y) && decide (p.z ≤ q.z)
theorem leB_lo (p q : Pt) : decide (lo p q = p) = leB p q := by
  rw [Bool.eq_iff_iff]
  obtain ⟨a, b, c⟩ := p
  obtain ⟨x, y, z⟩ := q
  simp only [lo, leB, Bool.and_eq_true, decide_eq_true_eq, Pt.mk.injEq]; omega
def bxv (t : Tn) (at_ : Pt) (b : Bx) : Bx := ⟨ad (lo (img t b.lo) (img t b.hi)) at_, ad (hi (img t b.lo) (img t b.hi)) at_⟩
theorem bxv_ref (t : Tn) (at_ : Pt) (b : Bx) : (⟨lo (ad (img t b.lo) at_) (ad (img t b.hi) at_), hi (ad (img t b.lo) at_) (ad (img t b.hi) at_)⟩ : Bx) = bxv t at_ b := by
  simp only [bxv, lo, hi, ad, Bx.mk.injEq, Pt.mk.injEq]; omega
theorem ne39_same (x : Bx) (W : World) : (binOp .neq 39 x.val x.val).run Try.prog W = .ok (.bool false) W := by
  unfold Bx.val
  rw [run_neq_struct, run_equalIn_agg (ht := by kernel_rfl) (hp := by kernel_rfl)]
  simp [go_sem, Program.fieldsOf, Try.underlying39, Try.underlying37]
theorem Env.sixb {w0 w : World} {l : List Fb} (u0 u1 u2 u3 u4 u5 : Value) (h : Env w0 w l) (k : Nat) (hb : Nat.blt k l.length = true) : Below w0.heap.size w0 ((((((w.setCell ⟨numB k l, 0, none⟩ u0).setCell ⟨numB k l, 1, none⟩ u1).setCell ⟨numB k l, 2, none⟩ u2).setCell ⟨numB k l, 3, none⟩ u3).setCell ⟨numB k l, 4, none⟩ u4).setCell ⟨numB k l, 5, none⟩ u5) :=
  (h.six (u0 := u0) (u1 := u1) (u2 := u2) (u3 := u3) (u4 := u4) (u5 := u5) k hb).1
theorem lo_bd {p q : Pt} {L : Int} (h : p.bd L) (k : q.bd L) : (lo p q).bd L ∧ (hi p q).bd L := by
  unfold Pt.bd lo hi at *; dsimp only; omega
set_option maxHeartbeats 8000000 in
set_option maxRecDepth 100000 in
theorem order_48 (a b c x y z : Int) (w : World) : Calls Try.prog 48 #[.agg #[.int .i64 a, .int .i64 b, .int .i64 c], .agg #[.int .i64 x, .int .i64 y, .int .i64 z]] w fun e w' => e = .returned (.agg #[.int .i64 (min a x), .int .i64 (min b y), .int .i64 (min c z), .int .i64 (max a x), .int .i64 (max b y), .int .i64 (max c z)]) ∧ Below w.heap.size w w' := by
  have E := (((Env.nil w).add w.heap.size 37 #[.int .i64 a, .int .i64 b, .int .i64 c] rfl).add (w.heap.size + 1) 37 #[.int .i64 x, .int .i64 y, .int .i64 z] (by simp)).add (w.heap.size + 2) 39 #[.int .i64 0, .int .i64 0, .int .i64 0, .int .i64 0, .int .i64 0, .int .i64 0] (by simp)
  go_enter Try.func48, Try.ntmps48
  go_wp2
  all_goals exact bodyPost_ret (v := .agg #[.int .i64 (min a x), .int .i64 (min b y), .int .i64 (min c z), .int .i64 (max a x), .int .i64 (max b y), .int .i64 (max c z)]) (by simp [results, Try.results48, go_sem] <;> omega) rfl ⟨rfl, al (al (al1 w _) _) _⟩
theorem s_bx {w0 w : World} {g0 g1 g2 g3 : Nat} {a0_0 a0_1 a0_2 a0_3 a0_4 a0_5 a1_0 a1_1 a1_2 a1_3 a1_4 a1_5 a2_0 a2_1 a2_2 a3_0 a3_1 : Value} (E : Env w0 w (⟨g0, 39, #[a0_0, a0_1, a0_2, a0_3, a0_4, a0_5]⟩ :: ⟨g1, 39, #[a1_0, a1_1, a1_2, a1_3, a1_4, a1_5]⟩ :: ⟨g2, 37, #[a2_0, a2_1, a2_2]⟩ :: ⟨g3, 23, #[a3_0, a3_1]⟩ :: [])) : Env w0 w (⟨g0, 39, #[a0_0, a0_1, a0_2, a0_3, a0_4, a0_5]⟩ :: ⟨g1, 39, #[a1_0, a1_1, a1_2, a1_3, a1_4, a1_5]⟩ :: ⟨g2, 37, #[a2_0, a2_1, a2_2]⟩ :: ⟨g3, 23, #[a3_0, a3_1]⟩ :: []) ∧ w.cell? ⟨g1, 0, none⟩ = some a1_0 ∧ w.cell? ⟨g1, 1, none⟩ = some a1_1 ∧ w.cell? ⟨g1, 2, none⟩ = some a1_2 ∧ w.cell? ⟨g1, 3, none⟩ = some a1_3 ∧ w.cell? ⟨g1, 4, none⟩ = some a1_4 ∧ w.cell? ⟨g1, 5, none⟩ = some a1_5 ∧ w.cell? ⟨g3, 0, none⟩ = some a3_0 ∧ w.cell? ⟨g3, 1, none⟩ = some a3_1 := by
  have C := E.cells
  simp [BC, CF] at C
  exact ⟨E, C.2.1.2.1.1, C.2.1.2.2.1.1, C.2.1.2.2.2.1.1, C.2.1.2.2.2.2.1.1, C.2.1.2.2.2.2.2.1.1, C.2.1.2.2.2.2.2.2.1, C.2.2.2.2.1.1, C.2.2.2.2.2.1⟩
set_option maxHeartbeats 8000000 in
set_option maxRecDepth 100000 in
theorem Box_arg1 (t : Tn) (at_ : Pt) (bx : Bx) (w : World) (ht : vT t = false) : Calls Try.prog 21 #[t.val, at_.val, bx.val] w fun e w' => e = .returned (.tuple #[.agg #[.int .i64 0, .int .i64 0, .int .i64 0, .int .i64 0, .int .i64 0, .int .i64 0], .int .i64 1]) ∧ Below w.heap.size w w' := by
  have h1 := fun W => valid_11 t W
  rw [ht] at h1
  clear ht
  obtain ⟨x, y⟩ := t
  obtain ⟨p, q, r⟩ := at_
  obtain ⟨⟨a, b, c⟩, d, e, f⟩ := bx
  unfold Tn.val Pt.val Bx.val at *
  try unfold Pt.val at *
  dsimp only at *
  have E := ((((Env.nil w).add (w.heap.size) 23 #[.int .i64 x, .int .i64 y] rfl).add (w.heap.size + 1) 37 #[.int .i64 p, .int .i64 q, .int .i64 r] (by simp)).add (w.heap.size + 2) 39 #[.int .i64 a, .int .i64 b, .int .i64 c, .int .i64 d, .int .i64 e, .int .i64 f] (by simp)).add (w.heap.size + 3) 39 #[.int .i64 0, .int .i64 0, .int .i64 0, .int .i64 0, .int .i64 0, .int .i64 0] (by simp)
  have C := E.cells
  simp [BC, CF] at C
  go_enter Try.func21, Try.ntmps21
  go_upto_region 1 with fail
  refine wp_region_plan 13 [(0, true), (1, false), (2, true), (3, true), (4, true), (5, true), (6, true), (7, true), (9, true), (10, true), (8, false), (11, true), (12, true)] (fun W' => Env w W' [⟨w.heap.size + 3, 39, #[.int .i64 0, .int .i64 0, .int .i64 0, .int .i64 0, .int .i64 0, .int .i64 0]⟩, ⟨w.heap.size + 2, 39, #[.int .i64 a, .int .i64 b, .int .i64 c, .int .i64 d, .int .i64 e, .int .i64 f]⟩, ⟨w.heap.size + 1, 37, #[.int .i64 p, .int .i64 q, .int .i64 r]⟩, ⟨w.heap.size, 23, #[.int .i64 x, .int .i64 y]⟩] ∧ W'.cell? ⟨w.heap.size + 2, 0, none⟩ = some (.int .i64 a) ∧ W'.cell? ⟨w.heap.size + 2, 1, none⟩ = some (.int .i64 b) ∧ W'.cell? ⟨w.heap.size + 2, 2, none⟩ = some (.int .i64 c) ∧ W'.cell? ⟨w.heap.size + 2, 3, none⟩ = some (.int .i64 d) ∧ W'.cell? ⟨w.heap.size + 2, 4, none⟩ = some (.int .i64 e) ∧ W'.cell? ⟨w.heap.size + 2, 5, none⟩ = some (.int .i64 f) ∧ W'.cell? ⟨w.heap.size, 0, none⟩ = some (.int .i64 x) ∧ W'.cell? ⟨w.heap.size, 1, none⟩ = some (.int .i64 y)) (by kernel_rfl) (by kernel_rfl) (fun _ _ d _ _ h => by cases d <;> exact h) (s_bx E.drw) ?_
  simp only [List.filterMap_cons, List.filterMap_nil, List.getElem?_cons_zero, List.getElem?_cons_succ, Option.map_some, List.drop_succ_cons, List.drop_zero]
  replace E := E.drw
  iterate 1 (first | (refine wpPlan_still (v := ?_) (Or.inl ⟨by rfl, ?_⟩) ?_; rotate_left; (focus (intro W hW; (try dsimp only at hW); go_split_ands; go_simp; try with_reducible rfl)); try simp only [Act.put, List.setIfInBounds_toArray, List.set_cons_zero, List.set_cons_succ]) | (refine wpPlan_still (Or.inr ⟨by rfl, rfl⟩) ?_; try simp only [Act.put, List.setIfInBounds_toArray, List.set_cons_zero, List.set_cons_succ]))
  refine wpPlan_only (fun K hK => ?_)
  try go_simp
  (go_at_call 11; (with_reducible refine (h1 _).mono ?_); rintro X wq ⟨rfl, hb⟩)
  replace E := E.on hb
  clear hb
  refine hK.out _ _ (s_bx E) ?_
  clear hK K
  try simp only [Act.put, List.setIfInBounds_toArray, List.set_cons_zero, List.set_cons_succ]
  iterate 8 (first | (refine wpPlan_still (v := ?_) (Or.inl ⟨by rfl, ?_⟩) ?_; rotate_left; (focus (intro W hW; (try dsimp only at hW); go_split_ands; go_simp; try with_reducible rfl)); try simp only [Act.put, List.setIfInBounds_toArray, List.set_cons_zero, List.set_cons_succ]) | (refine wpPlan_still (Or.inr ⟨by rfl, rfl⟩) ?_; try simp only [Act.put, List.setIfInBounds_toArray, List.set_cons_zero, List.set_cons_succ]))
  refine wpPlan_only (fun K hK => ?_)
  rw [if_neg (by exact Bool.false_ne_true)]
  refine hK.out _ _ (s_bx E) ?_
  clear hK K
  try simp only [Act.put, List.setIfInBounds_toArray, List.set_cons_zero, List.set_cons_succ]
  iterate 2 (first | (refine wpPlan_still (v := ?_) (Or.inl ⟨by rfl, ?_⟩) ?_; rotate_left; (focus (intro W hW; (try dsimp only at hW); go_split_ands; go_simp; try with_reducible rfl)); try simp only [Act.put, List.setIfInBounds_toArray, List.set_cons_zero, List.set_cons_succ]) | (refine wpPlan_still (Or.inr ⟨by rfl, rfl⟩) ?_; try simp only [Act.put, List.setIfInBounds_toArray, List.set_cons_zero, List.set_cons_succ]))
  refine wpPlan_end ?_
  replace C := E.cells
  simp [BC, CF] at C
  go_wp2
  exact bodyPost_ret (v := .tuple #[.agg #[.int .i64 0, .int .i64 0, .int .i64 0, .int .i64 0, .int .i64 0, .int .i64 0], .int .i64 1]) (by simp [results, Try.results21, go_sem, *]) rfl ⟨rfl, E.sixb _ _ _ _ _ _ 0 rfl⟩
set_option maxHeartbeats 8000000 in
set_option maxRecDepth 100000 in
theorem Box_arg2 (t : Tn) (at_ : Pt) (bx : Bx) (w : World) (ht : vT t = true) (hb : leB bx.lo bx.hi = false) : Calls Try.prog 21 #[t.val, at_.val, bx.val] w fun e w' => e = .returned (.tuple #[.agg #[.int .i64 0, .int .i64 0, .int .i64 0, .int .i64 0, .int .i64 0, .int .i64 0], .int .i64 1]) ∧ Below w.heap.size w w' := by
  have h1 := fun W => valid_11 t W
  rw [ht] at h1
  have h2 := fun W => mmin_45 bx.lo.x bx.lo.y bx.lo.z bx.hi.x bx.hi.y bx.hi.z W
  have n1 : ∀ W, (binOp .neq 37 (lo bx.lo bx.hi).val bx.lo.val).run Try.prog W = .ok (.bool true) W := fun W => (ne37 _ _ W).trans (by rw [leB_lo, hb]; rfl)
  replace h2 : ∀ W, Calls Try.prog 45 #[bx.lo.val, bx.hi.val] W fun e w' => e = .returned (lo bx.lo bx.hi).val ∧ Below W.heap.size W w' := h2
  clear ht hb
  obtain ⟨⟨l0, l1, l2⟩, hl⟩ : ∃ q, lo bx.lo bx.hi = q := ⟨_, rfl⟩
  rw [hl] at n1 h2
  clear hl
  obtain ⟨x, y⟩ := t
  obtain ⟨p, q, r⟩ := at_
  obtain ⟨⟨a, b, c⟩, d, e, f⟩ := bx
  unfold Tn.val Pt.val Bx.val at *
  try unfold Pt.val at *
  dsimp only at *
  have E := ((((Env.nil w).add (w.heap.size) 23 #[.int .i64 x, .int .i64 y] rfl).add (w.heap.size + 1) 37 #[.int .i64 p, .int .i64 q, .int .i64 r] (by simp)).add (w.heap.size + 2) 39 #[.int .i64 a, .int .i64 b, .int .i64 c, .int .i64 d, .int .i64 e, .int .i64 f] (by simp)).add (w.heap.size + 3) 39 #[.int .i64 0, .int .i64 0, .int .i64 0, .int .i64 0, .int .i64 0, .int .i64 0] (by simp)
  have C := E.cells
  simp [BC, CF] at C
  go_enter Try.func21, Try.ntmps21
  go_upto_region 1 with fail
  refine wp_region_plan 13 [(0, true), (1, false), (2, true), (3, true), (4, true), (5, true), (6, true), (7, true), (9, true), (10, true), (8, false), (11, true), (12, true)] (fun W' => Env w W' [⟨w.heap.size + 3, 39, #[.int .i64 0, .int .i64 0, .int .i64 0, .int .i64 0, .int .i64 0, .int .i64 0]⟩, ⟨w.heap.size + 2, 39, #[.int .i64 a, .int .i64 b, .int .i64 c, .int .i64 d, .int .i64 e, .int .i64 f]⟩, ⟨w.heap.size + 1, 37, #[.int .i64 p, .int .i64 q, .int .i64 r]⟩, ⟨w.heap.size, 23, #[.int .i64 x, .int .i64 y]⟩] ∧ W'.cell? ⟨w.heap.size + 2, 0, none⟩ = some (.int .i64 a) ∧ W'.cell? ⟨w.heap.size + 2, 1, none⟩ = some (.int .i64 b) ∧ W'.cell? ⟨w.heap.size + 2, 2, none⟩ = some (.int .i64 c) ∧ W'.cell? ⟨w.heap.size + 2, 3, none⟩ = some (.int .i64 d) ∧ W'.cell? ⟨w.heap.size + 2, 4, none⟩ = some (.int .i64 e) ∧ W'.cell? ⟨w.heap.size + 2, 5, none⟩ = some (.int .i64 f) ∧ W'.cell? ⟨w.heap.size, 0, none⟩ = some (.int .i64 x) ∧ W'.cell? ⟨w.heap.size, 1, none⟩ = some (.int .i64 y)) (by kernel_rfl) (by kernel_rfl) (fun _ _ d _ _ h => by cases d <;> exact h) (s_bx E.drw) ?_
  simp only [List.filterMap_cons, List.filterMap_nil, List.getElem?_cons_zero, List.getElem?_cons_succ, Option.map_some, List.drop_succ_cons, List.drop_zero]
  replace E := E.drw
  iterate 1 (first | (refine wpPlan_still (v := ?_) (Or.inl ⟨by rfl, ?_⟩) ?_; rotate_left; (focus (intro W hW; (try dsimp only at hW); go_split_ands; go_simp; try with_reducible rfl)); try simp only [Act.put, List.setIfInBounds_toArray, List.set_cons_zero, List.set_cons_succ]) | (refine wpPlan_still (Or.inr ⟨by rfl, rfl⟩) ?_; try simp only [Act.put, List.setIfInBounds_toArray, List.set_cons_zero, List.set_cons_succ]))
  refine wpPlan_only (fun K hK => ?_)
  try go_simp
  (go_at_call 11; (with_reducible refine (h1 _).mono ?_); rintro X wq ⟨rfl, hb⟩)
  replace E := E.on hb
  clear hb
  refine hK.out _ _ (s_bx E) ?_
  clear hK K
  try simp only [Act.put, List.setIfInBounds_toArray, List.set_cons_zero, List.set_cons_succ]
  iterate 8 (first | (refine wpPlan_still (v := ?_) (Or.inl ⟨by rfl, ?_⟩) ?_; rotate_left; (focus (intro W hW; (try dsimp only at hW); go_split_ands; go_simp; try with_reducible rfl)); try simp only [Act.put, List.setIfInBounds_toArray, List.set_cons_zero, List.set_cons_succ]) | (refine wpPlan_still (Or.inr ⟨by rfl, rfl⟩) ?_; try simp only [Act.put, List.setIfInBounds_toArray, List.set_cons_zero, List.set_cons_succ]))
  refine wpPlan_only (fun K hK => ?_)
  try go_simp
  (go_at_call 45; (with_reducible refine (h2 _).mono ?_); rintro X wq ⟨rfl, hb⟩)
  replace E := E.on hb
  clear hb
  refine hK.out _ _ (s_bx E) ?_
  clear hK K
  try simp only [Act.put, List.setIfInBounds_toArray, List.set_cons_zero, List.set_cons_succ]
  iterate 2 (first | (refine wpPlan_still (v := ?_) (Or.inl ⟨by rfl, ?_⟩) ?_; rotate_left; (focus (intro W hW; (try dsimp only at hW); go_split_ands; go_simp; try with_reducible rfl)); try simp only [Act.put, List.setIfInBounds_toArray, List.set_cons_zero, List.set_cons_succ]) | (refine wpPlan_still (Or.inr ⟨by rfl, rfl⟩) ?_; try simp only [Act.put, List.setIfInBounds_toArray, List.set_cons_zero, List.set_cons_succ]))
  refine wpPlan_end ?_
  replace C := E.cells
  simp [BC, CF] at C
  go_wp2
  exact bodyPost_ret (v := .tuple #[.agg #[.int .i64 0, .int .i64 0, .int .i64 0, .int .i64 0, .int .i64 0, .int .i64 0], .int .i64 1]) (by simp [results, Try.results21, go_sem, *]) rfl ⟨rfl, E.sixb _ _ _ _ _ _ 0 rfl⟩
set_option maxHeartbeats 8000000 in
set_option maxRecDepth 100000 in
theorem Box_far (t : Tn) (at_ : Pt) (bx : Bx) (w : World) (ht : vT t = true) (hb : leB bx.lo bx.hi = true) (hn : (nearB at_ && nearB bx.lo && nearB bx.hi) = false) : Calls Try.prog 21 #[t.val, at_.val, bx.val] w fun e w' => e = .returned (.tuple #[.agg #[.int .i64 0, .int .i64 0, .int .i64 0, .int .i64 0, .int .i64 0, .int .i64 0], .int .i64 2]) ∧ Below w.heap.size w w' := by
  have f1 := fun W => far_43 at_ W
  have f2 := fun W => far_43 bx.lo W
  have f3 := fun W => far_43 bx.hi W
  have h1 := fun W => valid_11 t W
  rw [ht] at h1
  have h2 := fun W => mmin_45 bx.lo.x bx.lo.y bx.lo.z bx.hi.x bx.hi.y bx.hi.z W
  have n1 : ∀ W, (binOp .neq 37 (lo bx.lo bx.hi).val bx.lo.val).run Try.prog W = .ok (.bool false) W := fun W => (ne37 _ _ W).trans (by rw [leB_lo, hb]; rfl)
  replace h2 : ∀ W, Calls Try.prog 45 #[bx.lo.val, bx.hi.val] W fun e w' => e = .returned (lo bx.lo bx.hi).val ∧ Below W.heap.size W w' := h2
  clear ht hb
  obtain ⟨⟨l0, l1, l2⟩, hl⟩ : ∃ q, lo bx.lo bx.hi = q := ⟨_, rfl⟩
  rw [hl] at n1 h2
  clear hl
  cases k1 : nearB at_
  · rw [k1] at f1
    clear f2 f3 hn k1
    obtain ⟨x, y⟩ := t
    obtain ⟨p, q, r⟩ := at_
    obtain ⟨⟨a, b, c⟩, d, e, f⟩ := bx
    unfold Tn.val Pt.val Bx.val at *
    try unfold Pt.val at *
    dsimp only at *
    have E := ((((Env.nil w).add (w.heap.size) 23 #[.int .i64 x, .int .i64 y] rfl).add (w.heap.size + 1) 37 #[.int .i64 p, .int .i64 q, .int .i64 r] (by simp)).add (w.heap.size + 2) 39 #[.int .i64 a, .int .i64 b, .int .i64 c, .int .i64 d, .int .i64 e, .int .i64 f] (by simp)).add (w.heap.size + 3) 39 #[.int .i64 0, .int .i64 0, .int .i64 0, .int .i64 0, .int .i64 0, .int .i64 0] (by simp)
    have C := E.cells
    simp [BC, CF] at C
    go_enter Try.func21, Try.ntmps21
    go_upto_region 1 with fail
    refine wp_region_plan 13 [(0, true), (1, false), (2, true), (3, true), (4, true), (5, true), (6, true), (7, true), (9, true), (10, true), (8, false), (11, true), (12, true)] (fun W' => Env w W' [⟨w.heap.size + 3, 39, #[.int .i64 0, .int .i64 0, .int .i64 0, .int .i64 0, .int .i64 0, .int .i64 0]⟩, ⟨w.heap.size + 2, 39, #[.int .i64 a, .int .i64 b, .int .i64 c, .int .i64 d, .int .i64 e, .int .i64 f]⟩, ⟨w.heap.size + 1, 37, #[.int .i64 p, .int .i64 q, .int .i64 r]⟩, ⟨w.heap.size, 23, #[.int .i64 x, .int .i64 y]⟩] ∧ W'.cell? ⟨w.heap.size + 2, 0, none⟩ = some (.int .i64 a) ∧ W'.cell? ⟨w.heap.size + 2, 1, none⟩ = some (.int .i64 b) ∧ W'.cell? ⟨w.heap.size + 2, 2, none⟩ = some (.int .i64 c) ∧ W'.cell? ⟨w.heap.size + 2, 3, none⟩ = some (.int .i64 d) ∧ W'.cell? ⟨w.heap.size + 2, 4, none⟩ = some (.int .i64 e) ∧ W'.cell? ⟨w.heap.size + 2, 5, none⟩ = some (.int .i64 f) ∧ W'.cell? ⟨w.heap.size, 0, none⟩ = some (.int .i64 x) ∧ W'.cell? ⟨w.heap.size, 1, none⟩ = some (.int .i64 y)) (by kernel_rfl) (by kernel_rfl) (fun _ _ d _ _ h => by cases d <;> exact h) (s_bx E.drw) ?_
    simp only [List.filterMap_cons, List.filterMap_nil, List.getElem?_cons_zero, List.getElem?_cons_succ, Option.map_some, List.drop_succ_cons, List.drop_zero]
    replace E := E.drw
    iterate 1 (first | (refine wpPlan_still (v := ?_) (Or.inl ⟨by rfl, ?_⟩) ?_; rotate_left; (focus (intro W hW; (try dsimp only at hW); go_split_ands; go_simp; try with_reducible rfl)); try simp only [Act.put, List.setIfInBounds_toArray, List.set_cons_zero, List.set_cons_succ]) | (refine wpPlan_still (Or.inr ⟨by rfl, rfl⟩) ?_; try simp only [Act.put, List.setIfInBounds_toArray, List.set_cons_zero, List.set_cons_succ]))
    refine wpPlan_only (fun K hK => ?_)
    try go_simp
    (go_at_call 11; (with_reducible refine (h1 _).mono ?_); rintro X wq ⟨rfl, hb⟩)
    replace E := E.on hb
    clear hb
    refine hK.out _ _ (s_bx E) ?_
    clear hK K
    try simp only [Act.put, List.setIfInBounds_toArray, List.set_cons_zero, List.set_cons_succ]
    iterate 8 (first | (refine wpPlan_still (v := ?_) (Or.inl ⟨by rfl, ?_⟩) ?_; rotate_left; (focus (intro W hW; (try dsimp only at hW); go_split_ands; go_simp; try with_reducible rfl)); try simp only [Act.put, List.setIfInBounds_toArray, List.set_cons_zero, List.set_cons_succ]) | (refine wpPlan_still (Or.inr ⟨by rfl, rfl⟩) ?_; try simp only [Act.put, List.setIfInBounds_toArray, List.set_cons_zero, List.set_cons_succ]))
    refine wpPlan_only (fun K hK => ?_)
    try go_simp
    (go_at_call 45; (with_reducible refine (h2 _).mono ?_); rintro X wq ⟨rfl, hb⟩)
    replace E := E.on hb
    clear hb
    refine hK.out _ _ (s_bx E) ?_
    clear hK K
    try simp only [Act.put, List.setIfInBounds_toArray, List.set_cons_zero, List.set_cons_succ]
    iterate 2 (first | (refine wpPlan_still (v := ?_) (Or.inl ⟨by rfl, ?_⟩) ?_; rotate_left; (focus (intro W hW; (try dsimp only at hW); go_split_ands; go_simp; try with_reducible rfl)); try simp only [Act.put, List.setIfInBounds_toArray, List.set_cons_zero, List.set_cons_succ]) | (refine wpPlan_still (Or.inr ⟨by rfl, rfl⟩) ?_; try simp only [Act.put, List.setIfInBounds_toArray, List.set_cons_zero, List.set_cons_succ]))
    refine wpPlan_end ?_
    replace C := E.cells
    simp [BC, CF] at C
    go_wp2_with (first
      | (go_at_call 43; (with_reducible refine (f1 _).mono ?_); rintro X wq ⟨rfl, hb⟩; replace E := E.on hb; replace C := E.cells; simp [BC, CF] at C; clear hb))
    exact bodyPost_ret (v := .tuple #[.agg #[.int .i64 0, .int .i64 0, .int .i64 0, .int .i64 0, .int .i64 0, .int .i64 0], .int .i64 2]) (by simp [results, Try.results21, go_sem, *]) rfl ⟨rfl, E.sixb _ _ _ _ _ _ 0 rfl⟩
  · rw [k1] at f1
    cases k2 : nearB bx.lo
    · rw [k2] at f2
      clear f3 hn k1 k2
      obtain ⟨x, y⟩ := t
      obtain ⟨p, q, r⟩ := at_
      obtain ⟨⟨a, b, c⟩, d, e, f⟩ := bx
      unfold Tn.val Pt.val Bx.val at *
      try unfold Pt.val at *
      dsimp only at *
      have E := ((((Env.nil w).add (w.heap.size) 23 #[.int .i64 x, .int .i64 y] rfl).add (w.heap.size + 1) 37 #[.int .i64 p, .int .i64 q, .int .i64 r] (by simp)).add (w.heap.size + 2) 39 #[.int .i64 a, .int .i64 b, .int .i64 c, .int .i64 d, .int .i64 e, .int .i64 f] (by simp)).add (w.heap.size + 3) 39 #[.int .i64 0, .int .i64 0, .int .i64 0, .int .i64 0, .int .i64 0, .int .i64 0] (by simp)
      have C := E.cells
      simp [BC, CF] at C
      go_enter Try.func21, Try.ntmps21
      go_upto_region 1 with fail
      refine wp_region_plan 13 [(0, true), (1, false), (2, true), (3, true), (4, true), (5, true), (6, true), (7, true), (9, true), (10, true), (8, false), (11, true), (12, true)] (fun W' => Env w W' [⟨w.heap.size + 3, 39, #[.int .i64 0, .int .i64 0, .int .i64 0, .int .i64 0, .int .i64 0, .int .i64 0]⟩, ⟨w.heap.size + 2, 39, #[.int .i64 a, .int .i64 b, .int .i64 c, .int .i64 d, .int .i64 e, .int .i64 f]⟩, ⟨w.heap.size + 1, 37, #[.int .i64 p, .int .i64 q, .int .i64 r]⟩, ⟨w.heap.size, 23, #[.int .i64 x, .int .i64 y]⟩] ∧ W'.cell? ⟨w.heap.size + 2, 0, none⟩ = some (.int .i64 a) ∧ W'.cell? ⟨w.heap.size + 2, 1, none⟩ = some (.int .i64 b) ∧ W'.cell? ⟨w.heap.size + 2, 2, none⟩ = some (.int .i64 c) ∧ W'.cell? ⟨w.heap.size + 2, 3, none⟩ = some (.int .i64 d) ∧ W'.cell? ⟨w.heap.size + 2, 4, none⟩ = some (.int .i64 e) ∧ W'.cell? ⟨w.heap.size + 2, 5, none⟩ = some (.int .i64 f) ∧ W'.cell? ⟨w.heap.size, 0, none⟩ = some (.int .i64 x) ∧ W'.cell? ⟨w.heap.size, 1, none⟩ = some (.int .i64 y)) (by kernel_rfl) (by kernel_rfl) (fun _ _ d _ _ h => by cases d <;> exact h) (s_bx E.drw) ?_
      simp only [List.filterMap_cons, List.filterMap_nil, List.getElem?_cons_zero, List.getElem?_cons_succ, Option.map_some, List.drop_succ_cons, List.drop_zero]
      replace E := E.drw
      iterate 1 (first | (refine wpPlan_still (v := ?_) (Or.inl ⟨by rfl, ?_⟩) ?_; rotate_left; (focus (intro W hW; (try dsimp only at hW); go_split_ands; go_simp; try with_reducible rfl)); try simp only [Act.put, List.setIfInBounds_toArray, List.set_cons_zero, List.set_cons_succ]) | (refine wpPlan_still (Or.inr ⟨by rfl, rfl⟩) ?_; try simp only [Act.put, List.setIfInBounds_toArray, List.set_cons_zero, List.set_cons_succ]))
      refine wpPlan_only (fun K hK => ?_)
      try go_simp
      (go_at_call 11; (with_reducible refine (h1 _).mono ?_); rintro X wq ⟨rfl, hb⟩)
      replace E := E.on hb
      clear hb
      refine hK.out _ _ (s_bx E) ?_
      clear hK K
      try simp only [Act.put, List.setIfInBounds_toArray, List.set_cons_zero, List.set_cons_succ]
      iterate 8 (first | (refine wpPlan_still (v := ?_) (Or.inl ⟨by rfl, ?_⟩) ?_; rotate_left; (focus (intro W hW; (try dsimp only at hW); go_split_ands; go_simp; try with_reducible rfl)); try simp only [Act.put, List.setIfInBounds_toArray, List.set_cons_zero, List.set_cons_succ]) | (refine wpPlan_still (Or.inr ⟨by rfl, rfl⟩) ?_; try simp only [Act.put, List.setIfInBounds_toArray, List.set_cons_zero, List.set_cons_succ]))
      refine wpPlan_only (fun K hK => ?_)
      try go_simp
      (go_at_call 45; (with_reducible refine (h2 _).mono ?_); rintro X wq ⟨rfl, hb⟩)
      replace E := E.on hb
      clear hb
      refine hK.out _ _ (s_bx E) ?_
      clear hK K
      try simp only [Act.put, List.setIfInBounds_toArray, List.set_cons_zero, List.set_cons_succ]
      iterate 2 (first | (refine wpPlan_still (v := ?_) (Or.inl ⟨by rfl, ?_⟩) ?_; rotate_left; (focus (intro W hW; (try dsimp only at hW); go_split_ands; go_simp; try with_reducible rfl)); try simp only [Act.put, List.setIfInBounds_toArray, List.set_cons_zero, List.set_cons_succ]) | (refine wpPlan_still (Or.inr ⟨by rfl, rfl⟩) ?_; try simp only [Act.put, List.setIfInBounds_toArray, List.set_cons_zero, List.set_cons_succ]))
      refine wpPlan_end ?_
      replace C := E.cells
      simp [BC, CF] at C
      go_wp2_with (first
        | (go_at_call 43; (with_reducible refine (f1 _).mono ?_); rintro X wq ⟨rfl, hb⟩; replace E := E.on hb; replace C := E.cells; simp [BC, CF] at C; clear hb)
        | (go_at_call 43; (with_reducible refine (f2 _).mono ?_); rintro X wq ⟨rfl, hb⟩; replace E := E.on hb; replace C := E.cells; simp [BC, CF] at C; clear hb))
      exact bodyPost_ret (v := .tuple #[.agg #[.int .i64 0, .int .i64 0, .int .i64 0, .int .i64 0, .int .i64 0, .int .i64 0], .int .i64 2]) (by simp [results, Try.results21, go_sem, *]) rfl ⟨rfl, E.sixb _ _ _ _ _ _ 0 rfl⟩
    · rw [k2] at f2
      have k3 : nearB bx.hi = false := by cases e : nearB bx.hi <;> simp_all
      rw [k3] at f3
      clear hn k1 k2 k3
      obtain ⟨x, y⟩ := t
      obtain ⟨p, q, r⟩ := at_
      obtain ⟨⟨a, b, c⟩, d, e, f⟩ := bx
      unfold Tn.val Pt.val Bx.val at *
      try unfold Pt.val at *
      dsimp only at *
      have E := ((((Env.nil w).add (w.heap.size) 23 #[.int .i64 x, .int .i64 y] rfl).add (w.heap.size + 1) 37 #[.int .i64 p, .int .i64 q, .int .i64 r] (by simp)).add (w.heap.size + 2) 39 #[.int .i64 a, .int .i64 b, .int .i64 c, .int .i64 d, .int .i64 e, .int .i64 f] (by simp)).add (w.heap.size + 3) 39 #[.int .i64 0, .int .i64 0, .int .i64 0, .int .i64 0, .int .i64 0, .int .i64 0] (by simp)
      have C := E.cells
      simp [BC, CF] at C
      go_enter Try.func21, Try.ntmps21
      go_upto_region 1 with fail
      refine wp_region_plan 13 [(0, true), (1, false), (2, true), (3, true), (4, true), (5, true), (6, true), (7, true), (9, true), (10, true), (8, false), (11, true), (12, true)] (fun W' => Env w W' [⟨w.heap.size + 3, 39, #[.int .i64 0, .int .i64 0, .int .i64 0, .int .i64 0, .int .i64 0, .int .i64 0]⟩, ⟨w.heap.size + 2, 39, #[.int .i64 a, .int .i64 b, .int .i64 c, .int .i64 d, .int .i64 e, .int .i64 f]⟩, ⟨w.heap.size + 1, 37, #[.int .i64 p, .int .i64 q, .int .i64 r]⟩, ⟨w.heap.size, 23, #[.int .i64 x, .int .i64 y]⟩] ∧ W'.cell? ⟨w.heap.size + 2, 0, none⟩ = some (.int .i64 a) ∧ W'.cell? ⟨w.heap.size + 2, 1, none⟩ = some (.int .i64 b) ∧ W'.cell? ⟨w.heap.size + 2, 2, none⟩ = some (.int .i64 c) ∧ W'.cell? ⟨w.heap.size + 2, 3, none⟩ = some (.int .i64 d) ∧ W'.cell? ⟨w.heap.size + 2, 4, none⟩ = some (.int .i64 e) ∧ W'.cell? ⟨w.heap.size + 2, 5, none⟩ = some (.int .i64 f) ∧ W'.cell? ⟨w.heap.size, 0, none⟩ = some (.int .i64 x) ∧ W'.cell? ⟨w.heap.size, 1, none⟩ = some (.int .i64 y)) (by kernel_rfl) (by kernel_rfl) (fun _ _ d _ _ h => by cases d <;> exact h) (s_bx E.drw) ?_
      simp only [List.filterMap_cons, List.filterMap_nil, List.getElem?_cons_zero, List.getElem?_cons_succ, Option.map_some, List.drop_succ_cons, List.drop_zero]
      replace E := E.drw
      iterate 1 (first | (refine wpPlan_still (v := ?_) (Or.inl ⟨by rfl, ?_⟩) ?_; rotate_left; (focus (intro W hW; (try dsimp only at hW); go_split_ands; go_simp; try with_reducible rfl)); try simp only [Act.put, List.setIfInBounds_toArray, List.set_cons_zero, List.set_cons_succ]) | (refine wpPlan_still (Or.inr ⟨by rfl, rfl⟩) ?_; try simp only [Act.put, List.setIfInBounds_toArray, List.set_cons_zero, List.set_cons_succ]))
      refine wpPlan_only (fun K hK => ?_)
      try go_simp
      (go_at_call 11; (with_reducible refine (h1 _).mono ?_); rintro X wq ⟨rfl, hb⟩)
      replace E := E.on hb
      clear hb
      refine hK.out _ _ (s_bx E) ?_
      clear hK K
      try simp only [Act.put, List.setIfInBounds_toArray, List.set_cons_zero, List.set_cons_succ]
      iterate 8 (first | (refine wpPlan_still (v := ?_) (Or.inl ⟨by rfl, ?_⟩) ?_; rotate_left; (focus (intro W hW; (try dsimp only at hW); go_split_ands; go_simp; try with_reducible rfl)); try simp only [Act.put, List.setIfInBounds_toArray, List.set_cons_zero, List.set_cons_succ]) | (refine wpPlan_still (Or.inr ⟨by rfl, rfl⟩) ?_; try simp only [Act.put, List.setIfInBounds_toArray, List.set_cons_zero, List.set_cons_succ]))
      refine wpPlan_only (fun K hK => ?_)
      try go_simp
      (go_at_call 45; (with_reducible refine (h2 _).mono ?_); rintro X wq ⟨rfl, hb⟩)
      replace E := E.on hb
      clear hb
      refine hK.out _ _ (s_bx E) ?_
      clear hK K
      try simp only [Act.put, List.setIfInBounds_toArray, List.set_cons_zero, List.set_cons_succ]
      iterate 2 (first | (refine wpPlan_still (v := ?_) (Or.inl ⟨by rfl, ?_⟩) ?_; rotate_left; (focus (intro W hW; (try dsimp only at hW); go_split_ands; go_simp; try with_reducible rfl)); try simp only [Act.put, List.setIfInBounds_toArray, List.set_cons_zero, List.set_cons_succ]) | (refine wpPlan_still (Or.inr ⟨by rfl, rfl⟩) ?_; try simp only [Act.put, List.setIfInBounds_toArray, List.set_cons_zero, List.set_cons_succ]))
      refine wpPlan_end ?_
      replace C := E.cells
      simp [BC, CF] at C
      go_wp2_with (first
        | (go_at_call 43; (with_reducible refine (f1 _).mono ?_); rintro X wq ⟨rfl, hb⟩; replace E := E.on hb; replace C := E.cells; simp [BC, CF] at C; clear hb)
        | (go_at_call 43; (with_reducible refine (f2 _).mono ?_); rintro X wq ⟨rfl, hb⟩; replace E := E.on hb; replace C := E.cells; simp [BC, CF] at C; clear hb)
        | (go_at_call 43; (with_reducible refine (f3 _).mono ?_); rintro X wq ⟨rfl, hb⟩; replace E := E.on hb; replace C := E.cells; simp [BC, CF] at C; clear hb))
      exact bodyPost_ret (v := .tuple #[.agg #[.int .i64 0, .int .i64 0, .int .i64 0, .int .i64 0, .int .i64 0, .int .i64 0], .int .i64 2]) (by simp [results, Try.results21, go_sem, *]) rfl ⟨rfl, E.sixb _ _ _ _ _ _ 0 rfl⟩
theorem s_b6 {w0 w : World} {g0 g1 g2 g3 g4 g5 : Nat} {a0_0 a0_1 a0_2 a1_0 a1_1 a1_2 a2_0 a2_1 a2_2 a2_3 a2_4 a2_5 a3_0 a3_1 a3_2 a3_3 a3_4 a3_5 a4_0 a4_1 a4_2 a5_0 a5_1 : Value} (E : Env w0 w (⟨g0, 37, #[a0_0, a0_1, a0_2]⟩ :: ⟨g1, 37, #[a1_0, a1_1, a1_2]⟩ :: ⟨g2, 39, #[a2_0, a2_1, a2_2, a2_3, a2_4, a2_5]⟩ :: ⟨g3, 39, #[a3_0, a3_1, a3_2, a3_3, a3_4, a3_5]⟩ :: ⟨g4, 37, #[a4_0, a4_1, a4_2]⟩ :: ⟨g5, 23, #[a5_0, a5_1]⟩ :: [])) : Env w0 w (⟨g0, 37, #[a0_0, a0_1, a0_2]⟩ :: ⟨g1, 37, #[a1_0, a1_1, a1_2]⟩ :: ⟨g2, 39, #[a2_0, a2_1, a2_2, a2_3, a2_4, a2_5]⟩ :: ⟨g3, 39, #[a3_0, a3_1, a3_2, a3_3, a3_4, a3_5]⟩ :: ⟨g4, 37, #[a4_0, a4_1, a4_2]⟩ :: ⟨g5, 23, #[a5_0, a5_1]⟩ :: []) ∧ w.cell? ⟨g0, 0, none⟩ = some a0_0 ∧ w.cell? ⟨g0, 1, none⟩ = some a0_1 ∧ w.cell? ⟨g0, 2, none⟩ = some a0_2 ∧ w.cell? ⟨g1, 0, none⟩ = some a1_0 ∧ w.cell? ⟨g1, 1, none⟩ = some a1_1 ∧ w.cell? ⟨g1, 2, none⟩ = some a1_2 ∧ w.cell? ⟨g4, 0, none⟩ = some a4_0 ∧ w.cell? ⟨g4, 1, none⟩ = some a4_1 ∧ w.cell? ⟨g4, 2, none⟩ = some a4_2 := by
  have C := E.cells
  simp [BC, CF] at C
  exact ⟨E, C.1.2.1.1, C.1.2.2.1.1, C.1.2.2.2.1, C.2.1.2.1.1, C.2.1.2.2.1.1, C.2.1.2.2.2.1, C.2.2.2.2.1.2.1.1, C.2.2.2.2.1.2.2.1.1, C.2.2.2.2.1.2.2.2.1⟩
set_option maxHeartbeats 8000000 in
set_option maxRecDepth 100000 in
theorem Box_ok (t : Tn) (at_ : Pt) (bx : Bx) (w : World) (ht : vT t = true) (hb : leB bx.lo bx.hi = true) (hn : (nearB at_ && nearB bx.lo && nearB bx.hi) = true) : Calls Try.prog 21 #[t.val, at_.val, bx.val] w fun e w' => e = .returned (.tuple #[(bxv t at_ bx).val, .int .i64 0]) ∧ Below w.heap.size w w' := by
  have f1 := fun W => far_43 at_ W
  have f2 := fun W => far_43 bx.lo W
  have f3 := fun W => far_43 bx.hi W
  simp only [Bool.and_eq_true] at hn
  obtain ⟨⟨k1, k2⟩, k3⟩ := hn
  rw [k1] at f1
  rw [k2] at f2
  rw [k3] at f3
  have g1 := fun W => image_44 t bx.lo W ht (bd_mono (nearB_bd k2) (by decide))
  have g2 := fun W => image_44 t bx.hi W ht (bd_mono (nearB_bd k3) (by decide))
  have b1 := img_bd ht (nearB_bd k2)
  have b2 := img_bd ht (nearB_bd k3)
  have b3 := nearB_bd k1
  have b4 := lo_bd b1 b2
  have g3 : ∀ W, Calls Try.prog 45 #[(img t bx.lo).val, (img t bx.hi).val] W fun e w' => e = .returned (lo (img t bx.lo) (img t bx.hi)).val ∧ Below W.heap.size W w' := fun W => mmin_45 _ _ _ _ _ _ W
  have g4 : ∀ W, Calls Try.prog 47 #[(img t bx.lo).val, (img t bx.hi).val] W fun e w' => e = .returned (hi (img t bx.lo) (img t bx.hi)).val ∧ Below W.heap.size W w' := fun W => mmax_47 _ _ _ _ _ _ W
  have g5 := fun g W (hS : Sl W (some ⟨g, 0, none⟩) [lo (img t bx.lo) (img t bx.hi), at_]) => sum_any (some ⟨g, 0, none⟩) _ 2 W hS (by
    simp only [List.mem_cons, List.not_mem_nil, or_false, forall_eq_or_imp, forall_eq]
    exact ⟨bd_mono b4.1 (by decide), bd_mono b3 (by decide)⟩) (show 2 ≤ 3 by decide)
  have g6 := fun g W (hS : Sl W (some ⟨g, 0, none⟩) [hi (img t bx.lo) (img t bx.hi), at_]) => sum_any (some ⟨g, 0, none⟩) _ 2 W hS (by
    simp only [List.mem_cons, List.not_mem_nil, or_false, forall_eq_or_imp, forall_eq]
    exact ⟨bd_mono b4.2 (by decide), bd_mono b3 (by decide)⟩) (show 2 ≤ 3 by decide)
  have sm2 : ∀ a b : Pt, sm [a, b] = ad a b := fun a b => by simp [sm, ad]
  simp only [sm2, List.length_cons, List.length_nil, Nat.zero_add, Nat.reduceAdd] at g5 g6
  have HR : Hid (bxv t at_ bx = ⟨ad (lo (img t bx.lo) (img t bx.hi)) at_, ad (hi (img t bx.lo) (img t bx.hi)) at_⟩) := Lib.hid rfl
  rw [HR.out]
  clear HR b1 b2 b3 b4 k1 k2 k3 sm2
  have h1 := fun W => valid_11 t W
  rw [ht] at h1
  have h2 := fun W => mmin_45 bx.lo.x bx.lo.y bx.lo.z bx.hi.x bx.hi.y bx.hi.z W
  have n1 : ∀ W, (binOp .neq 37 (lo bx.lo bx.hi).val bx.lo.val).run Try.prog W = .ok (.bool false) W := fun W => (ne37 _ _ W).trans (by rw [leB_lo, hb]; rfl)
  replace h2 : ∀ W, Calls Try.prog 45 #[bx.lo.val, bx.hi.val] W fun e w' => e = .returned (lo bx.lo bx.hi).val ∧ Below W.heap.size W w' := h2
  clear ht hb
  obtain ⟨⟨l0, l1, l2⟩, hl⟩ : ∃ q, lo bx.lo bx.hi = q := ⟨_, rfl⟩
  rw [hl] at n1 h2
  clear hl
  generalize lo (img t bx.lo) (img t bx.hi) = LO at *
  generalize hi (img t bx.lo) (img t bx.hi) = HI at *
  generalize img t bx.lo = U at *
  generalize img t bx.hi = V at *
  obtain ⟨m0, m1, m2⟩ := LO
  obtain ⟨h0, h1_, h2_⟩ := HI
  obtain ⟨u0, u1, u2⟩ := U
  obtain ⟨v0, v1, v2⟩ := V
  simp only [ad] at g5 g6 ⊢
  obtain ⟨x, y⟩ := t
  obtain ⟨p, q, r⟩ := at_
  obtain ⟨⟨a, b, c⟩, d, e, f⟩ := bx
  unfold Tn.val Pt.val Bx.val at *
  try unfold Pt.val at *
  dsimp only at *
  have E := ((((Env.nil w).add (w.heap.size) 23 #[.int .i64 x, .int .i64 y] rfl).add (w.heap.size + 1) 37 #[.int .i64 p, .int .i64 q, .int .i64 r] (by simp)).add (w.heap.size + 2) 39 #[.int .i64 a, .int .i64 b, .int .i64 c, .int .i64 d, .int .i64 e, .int .i64 f] (by simp)).add (w.heap.size + 3) 39 #[.int .i64 0, .int .i64 0, .int .i64 0, .int .i64 0, .int .i64 0, .int .i64 0] (by simp)
  have C := E.cells
  simp [BC, CF] at C
  go_enter Try.func21, Try.ntmps21
  go_upto_region 1 with fail
  refine wp_region_plan 13 [(0, true), (1, false), (2, true), (3, true), (4, true), (5, true), (6, true), (7, true), (9, true), (10, true), (8, false), (11, true), (12, true)] (fun W' => Env w W' [⟨w.heap.size + 3, 39, #[.int .i64 0, .int .i64 0, .int .i64 0, .int .i64 0, .int .i64 0, .int .i64 0]⟩, ⟨w.heap.size + 2, 39, #[.int .i64 a, .int .i64 b, .int .i64 c, .int .i64 d, .int .i64 e, .int .i64 f]⟩, ⟨w.heap.size + 1, 37, #[.int .i64 p, .int .i64 q, .int .i64 r]⟩, ⟨w.heap.size, 23, #[.int .i64 x, .int .i64 y]⟩] ∧ W'.cell? ⟨w.heap.size + 2, 0, none⟩ = some (.int .i64 a) ∧ W'.cell? ⟨w.heap.size + 2, 1, none⟩ = some (.int .i64 b) ∧ W'.cell? ⟨w.heap.size + 2, 2, none⟩ = some (.int .i64 c) ∧ W'.cell? ⟨w.heap.size + 2, 3, none⟩ = some (.int .i64 d) ∧ W'.cell? ⟨w.heap.size + 2, 4, none⟩ = some (.int .i64 e) ∧ W'.cell? ⟨w.heap.size + 2, 5, none⟩ = some (.int .i64 f) ∧ W'.cell? ⟨w.heap.size, 0, none⟩ = some (.int .i64 x) ∧ W'.cell? ⟨w.heap.size, 1, none⟩ = some (.int .i64 y)) (by kernel_rfl) (by kernel_rfl) (fun _ _ d _ _ h => by cases d <;> exact h) (s_bx E.drw) ?_
  simp only [List.filterMap_cons, List.filterMap_nil, List.getElem?_cons_zero, List.getElem?_cons_succ, Option.map_some, List.drop_succ_cons, List.drop_zero]
  replace E := E.drw
  iterate 1 (first | (refine wpPlan_still (v := ?_) (Or.inl ⟨by rfl, ?_⟩) ?_; rotate_left; (focus (intro W hW; (try dsimp only at hW); go_split_ands; go_simp; try with_reducible rfl)); try simp only [Act.put, List.setIfInBounds_toArray, List.set_cons_zero, List.set_cons_succ]) | (refine wpPlan_still (Or.inr ⟨by rfl, rfl⟩) ?_; try simp only [Act.put, List.setIfInBounds_toArray, List.set_cons_zero, List.set_cons_succ]))
  refine wpPlan_only (fun K hK => ?_)
  try go_simp
  (go_at_call 11; (with_reducible refine (h1 _).mono ?_); rintro X wq ⟨rfl, hb⟩)
  replace E := E.on hb
  clear hb
  refine hK.out _ _ (s_bx E) ?_
  clear hK K
  try simp only [Act.put, List.setIfInBounds_toArray, List.set_cons_zero, List.set_cons_succ]
  iterate 8 (first | (refine wpPlan_still (v := ?_) (Or.inl ⟨by rfl, ?_⟩) ?_; rotate_left; (focus (intro W hW; (try dsimp only at hW); go_split_ands; go_simp; try with_reducible rfl)); try simp only [Act.put, List.setIfInBounds_toArray, List.set_cons_zero, List.set_cons_succ]) | (refine wpPlan_still (Or.inr ⟨by rfl, rfl⟩) ?_; try simp only [Act.put, List.setIfInBounds_toArray, List.set_cons_zero, List.set_cons_succ]))
  refine wpPlan_only (fun K hK => ?_)
  try go_simp
  (go_at_call 45; (with_reducible refine (h2 _).mono ?_); rintro X wq ⟨rfl, hb⟩)
  replace E := E.on hb
  clear hb
  refine hK.out _ _ (s_bx E) ?_
  clear hK K
  try simp only [Act.put, List.setIfInBounds_toArray, List.set_cons_zero, List.set_cons_succ]
  iterate 2 (first | (refine wpPlan_still (v := ?_) (Or.inl ⟨by rfl, ?_⟩) ?_; rotate_left; (focus (intro W hW; (try dsimp only at hW); go_split_ands; go_simp; try with_reducible rfl)); try simp only [Act.put, List.setIfInBounds_toArray, List.set_cons_zero, List.set_cons_succ]) | (refine wpPlan_still (Or.inr ⟨by rfl, rfl⟩) ?_; try simp only [Act.put, List.setIfInBounds_toArray, List.set_cons_zero, List.set_cons_succ]))
  refine wpPlan_end ?_
  replace C := E.cells
  simp [BC, CF] at C
  go_upto_region 5 with (first | (go_at_call 43; (with_reducible refine (f1 _).mono ?_); rintro X wq ⟨rfl, hb⟩; replace E := E.on hb; replace C := E.cells; simp [BC, CF] at C; clear hb) | (go_at_call 43; (with_reducible refine (f2 _).mono ?_); rintro X wq ⟨rfl, hb⟩; replace E := E.on hb; replace C := E.cells; simp [BC, CF] at C; clear hb) | (go_at_call 43; (with_reducible refine (f3 _).mono ?_); rintro X wq ⟨rfl, hb⟩; replace E := E.on hb; replace C := E.cells; simp [BC, CF] at C; clear hb))
  refine wp_region_free 10 [(0, true), (1, true), (2, true), (4, true), (5, true), (6, true), (3, false), (7, false)] [8, 9] (fun _ => (37, #[.int .i64 0, .int .i64 0, .int .i64 0])) (w.heap.size + 4) (fun W' => Env w W' [⟨w.heap.size + 3, 39, #[.int .i64 0, .int .i64 0, .int .i64 0, .int .i64 0, .int .i64 0, .int .i64 0]⟩, ⟨w.heap.size + 2, 39, #[.int .i64 a, .int .i64 b, .int .i64 c, .int .i64 d, .int .i64 e, .int .i64 f]⟩, ⟨w.heap.size + 1, 37, #[.int .i64 p, .int .i64 q, .int .i64 r]⟩, ⟨w.heap.size, 23, #[.int .i64 x, .int .i64 y]⟩] ∧ W'.cell? ⟨w.heap.size + 2, 0, none⟩ = some (.int .i64 a) ∧ W'.cell? ⟨w.heap.size + 2, 1, none⟩ = some (.int .i64 b) ∧ W'.cell? ⟨w.heap.size + 2, 2, none⟩ = some (.int .i64 c) ∧ W'.cell? ⟨w.heap.size + 2, 3, none⟩ = some (.int .i64 d) ∧ W'.cell? ⟨w.heap.size + 2, 4, none⟩ = some (.int .i64 e) ∧ W'.cell? ⟨w.heap.size + 2, 5, none⟩ = some (.int .i64 f) ∧ W'.cell? ⟨w.heap.size, 0, none⟩ = some (.int .i64 x) ∧ W'.cell? ⟨w.heap.size, 1, none⟩ = some (.int .i64 y)) (by kernel_rfl) (by kernel_rfl) (fun _ _ d _ _ => by cases d <;> exact Iff.rfl) (by
      simp only [List.mem_cons, List.not_mem_nil, or_false, forall_eq_or_imp, forall_eq]
      refine ⟨?_, ?_⟩ <;> (intro o ho; cases ho; exact ⟨fun _ => rfl, fun a w => by first | rfl | (simp [go_sem]; done) | (go_simp; rfl)⟩)) (fun W1 W2 h hb => s_bx ((h.1).on hb)) (fun W h => h.1.lt 0 (by simp)) (s_bx E.drw) ?_
  simp only [List.filterMap_cons, List.filterMap_nil, List.getElem?_cons_zero, List.getElem?_cons_succ, Option.map_some, List.drop_succ_cons, List.drop_zero]
  iterate 6 (first | (refine wpFree_still (v := ?_) (Or.inl ⟨by rfl, ?_⟩) ?_; rotate_left; (focus (intro W hW; (try dsimp only at hW); go_split_ands; go_simp; try with_reducible rfl)); try simp only [Act.put, List.setIfInBounds_toArray, List.set_cons_zero, List.set_cons_succ]) | (refine wpFree_still (Or.inr ⟨by rfl, rfl⟩) ?_; try simp only [Act.put, List.setIfInBounds_toArray, List.set_cons_zero, List.set_cons_succ]))
  refine wpFree_only (fun W hS K hK => ?_)
  try go_simp
  (go_at_call 44; (with_reducible refine (g1 W).mono ?_); rintro X wq ⟨rfl, hb⟩)
  refine hK.out _ _ hb ?_
  clear hb hS hK K
  try simp only [Act.put, List.setIfInBounds_toArray, List.set_cons_zero, List.set_cons_succ]
  refine wpFree_only (fun W hS K hK => ?_)
  try go_simp
  (go_at_call 44; (with_reducible refine (g2 W).mono ?_); rintro X wq ⟨rfl, hb⟩)
  refine hK.out _ _ hb ?_
  clear hb hS hK K
  try simp only [Act.put, List.setIfInBounds_toArray, List.set_cons_zero, List.set_cons_succ]
  refine wpFree_end (fun G W hG hS hL => ?_)
  obtain ⟨gx, gy, eG1, eG2, hN1, hN2, hNe⟩ := hL.two hG (by decide)
  simp only [putA, eG1, eG2, List.getElem?_toArray, List.getElem?_cons_succ, List.getElem?_cons_zero]
  clear eG1 eG2 hL hG G
  try simp only [Act.put, List.setIfInBounds_toArray, List.set_cons_zero, List.set_cons_succ]
  replace E := hS.1.glue2 (B := w.heap.size + 4) (by omega) (by simp) hN1 hN2 hNe
  have hNe2 : gy ≠ gx := Ne.symm hNe
  clear hS hN1 hN2
  replace C := E.cells
  simp [BC, CF] at C
  go_upto_region 6 with fail
  replace E := (E.three (.int .i64 u0) (.int .i64 u1) (.int .i64 u2) 0 rfl).three (.int .i64 v0) (.int .i64 v1) (.int .i64 v2) 1 rfl
  replace E : Env w ((((((W.setCell ⟨gx, 0, none⟩ (.int .i64 u0)).setCell ⟨gx, 1, none⟩ (.int .i64 u1)).setCell ⟨gx, 2, none⟩ (.int .i64 u2)).setCell ⟨gy, 0, none⟩ (.int .i64 v0)).setCell ⟨gy, 1, none⟩ (.int .i64 v1)).setCell ⟨gy, 2, none⟩ (.int .i64 v2)) [⟨gx, 37, #[.int .i64 u0, .int .i64 u1, .int .i64 u2]⟩, ⟨gy, 37, #[.int .i64 v0, .int .i64 v1, .int .i64 v2]⟩, ⟨w.heap.size + 3, 39, #[.int .i64 0, .int .i64 0, .int .i64 0, .int .i64 0, .int .i64 0, .int .i64 0]⟩, ⟨w.heap.size + 2, 39, #[.int .i64 a, .int .i64 b, .int .i64 c, .int .i64 d, .int .i64 e, .int .i64 f]⟩, ⟨w.heap.size + 1, 37, #[.int .i64 p, .int .i64 q, .int .i64 r]⟩, ⟨w.heap.size, 23, #[.int .i64 x, .int .i64 y]⟩] := E
  generalize ((((((W.setCell ⟨gx, 0, none⟩ (.int .i64 u0)).setCell ⟨gx, 1, none⟩ (.int .i64 u1)).setCell ⟨gx, 2, none⟩ (.int .i64 u2)).setCell ⟨gy, 0, none⟩ (.int .i64 v0)).setCell ⟨gy, 1, none⟩ (.int .i64 v1)).setCell ⟨gy, 2, none⟩ (.int .i64 v2)) = w2 at *
  refine wp_region_plan 13 [(0, true), (1, true), (3, true), (6, true), (7, true), (9, true), (2, false), (4, false), (5, false), (8, false), (10, false), (11, false), (12, true)] (fun W' => Env w W' [⟨gx, 37, #[.int .i64 u0, .int .i64 u1, .int .i64 u2]⟩, ⟨gy, 37, #[.int .i64 v0, .int .i64 v1, .int .i64 v2]⟩, ⟨w.heap.size + 3, 39, #[.int .i64 0, .int .i64 0, .int .i64 0, .int .i64 0, .int .i64 0, .int .i64 0]⟩, ⟨w.heap.size + 2, 39, #[.int .i64 a, .int .i64 b, .int .i64 c, .int .i64 d, .int .i64 e, .int .i64 f]⟩, ⟨w.heap.size + 1, 37, #[.int .i64 p, .int .i64 q, .int .i64 r]⟩, ⟨w.heap.size, 23, #[.int .i64 x, .int .i64 y]⟩] ∧ W'.cell? ⟨gx, 0, none⟩ = some (.int .i64 u0) ∧ W'.cell? ⟨gx, 1, none⟩ = some (.int .i64 u1) ∧ W'.cell? ⟨gx, 2, none⟩ = some (.int .i64 u2) ∧ W'.cell? ⟨gy, 0, none⟩ = some (.int .i64 v0) ∧ W'.cell? ⟨gy, 1, none⟩ = some (.int .i64 v1) ∧ W'.cell? ⟨gy, 2, none⟩ = some (.int .i64 v2) ∧ W'.cell? ⟨w.heap.size + 1, 0, none⟩ = some (.int .i64 p) ∧ W'.cell? ⟨w.heap.size + 1, 1, none⟩ = some (.int .i64 q) ∧ W'.cell? ⟨w.heap.size + 1, 2, none⟩ = some (.int .i64 r)) (by kernel_rfl) (by kernel_rfl) (fun _ _ d _ _ h => by cases d <;> exact h) (s_b6 E.drw) ?_
  simp only [List.filterMap_cons, List.filterMap_nil, List.getElem?_cons_zero, List.getElem?_cons_succ, Option.map_some, List.drop_succ_cons, List.drop_zero]
  replace E := E.drw
  iterate 6 (first | (refine wpPlan_still (v := ?_) (Or.inl ⟨by rfl, ?_⟩) ?_; rotate_left; (focus (intro W hW; (try dsimp only at hW); go_split_ands; go_simp; try with_reducible rfl)); try simp only [Act.put, List.setIfInBounds_toArray, List.set_cons_zero, List.set_cons_succ]) | (refine wpPlan_still (Or.inr ⟨by rfl, rfl⟩) ?_; try simp only [Act.put, List.setIfInBounds_toArray, List.set_cons_zero, List.set_cons_succ]))
  refine wpPlan_only (fun K hK => ?_)
  try go_simp
  (go_at_call 45; (with_reducible refine (g3 _).mono ?_); rintro X wq ⟨rfl, hb⟩)
  replace E := E.on hb
  clear hb
  refine hK.out _ _ (s_b6 E) ?_
  clear hK K
  try simp only [Act.put, List.setIfInBounds_toArray, List.set_cons_zero, List.set_cons_succ]
  refine wpPlan_only (fun K hK => ?_)
  try go_simp
  have EB := E.add _ 37 #[.int .i64 m0, .int .i64 m1, .int .i64 m2, .int .i64 p, .int .i64 q, .int .i64 r] rfl
  have hS1 := Sl.lit [⟨m0, m1, m2⟩, ⟨p, q, r⟩] EB.2.2.1 rfl (show 2 ≤ maxLen by decide)
  replace E := E.more (.cells #[.int .i64 m0, .int .i64 m1, .int .i64 m2, .int .i64 p, .int .i64 q, .int .i64 r] 37)
  clear EB
  refine hK.out _ _ (s_b6 E) ?_
  clear hK K
  try simp only [Act.put, List.setIfInBounds_toArray, List.set_cons_zero, List.set_cons_succ]
  refine wpPlan_only (fun K hK => ?_)
  try go_simp
  (go_at_call 46; (with_reducible refine (g5 _ _ hS1).mono ?_); rintro X wq ⟨rfl, hb⟩)
  replace E := E.on hb
  clear hb hS1
  refine hK.out _ _ (s_b6 E) ?_
  clear hK K
  try simp only [Act.put, List.setIfInBounds_toArray, List.set_cons_zero, List.set_cons_succ]
  refine wpPlan_only (fun K hK => ?_)
  try go_simp
  (go_at_call 47; (with_reducible refine (g4 _).mono ?_); rintro X wq ⟨rfl, hb⟩)
  replace E := E.on hb
  clear hb
  refine hK.out _ _ (s_b6 E) ?_
  clear hK K
  try simp only [Act.put, List.setIfInBounds_toArray, List.set_cons_zero, List.set_cons_succ]
  refine wpPlan_only (fun K hK => ?_)
  try go_simp
  have EB := E.add _ 37 #[.int .i64 h0, .int .i64 h1_, .int .i64 h2_, .int .i64 p, .int .i64 q, .int .i64 r] rfl
  have hS2 := Sl.lit [⟨h0, h1_, h2_⟩, ⟨p, q, r⟩] EB.2.2.1 rfl (show 2 ≤ maxLen by decide)
  replace E := E.more (.cells #[.int .i64 h0, .int .i64 h1_, .int .i64 h2_, .int .i64 p, .int .i64 q, .int .i64 r] 37)
  clear EB
  refine hK.out _ _ (s_b6 E) ?_
  clear hK K
  try simp only [Act.put, List.setIfInBounds_toArray, List.set_cons_zero, List.set_cons_succ]
  refine wpPlan_only (fun K hK => ?_)
  try go_simp
  (go_at_call 46; (with_reducible refine (g6 _ _ hS2).mono ?_); rintro X wq ⟨rfl, hb⟩)
  replace E := E.on hb
  clear hb hS2
  refine hK.out _ _ (s_b6 E) ?_
  clear hK K
  try simp only [Act.put, List.setIfInBounds_toArray, List.set_cons_zero, List.set_cons_succ]
  iterate 1 (first | (refine wpPlan_still (v := ?_) (Or.inl ⟨by rfl, ?_⟩) ?_; rotate_left; (focus (intro W hW; (try dsimp only at hW); go_split_ands; go_simp; try with_reducible rfl)); try simp only [Act.put, List.setIfInBounds_toArray, List.set_cons_zero, List.set_cons_succ]) | (refine wpPlan_still (Or.inr ⟨by rfl, rfl⟩) ?_; try simp only [Act.put, List.setIfInBounds_toArray, List.set_cons_zero, List.set_cons_succ]))
  refine wpPlan_end ?_
  replace C := E.cells
  simp [BC, CF] at C
  go_wp2
  exact bodyPost_ret (v := .tuple #[.agg #[.int .i64 (m0 + p), .int .i64 (m1 + q), .int .i64 (m2 + r), .int .i64 (h0 + p), .int .i64 (h1_ + q), .int .i64 (h2_ + r)], .int .i64 0]) (by simp [results, Try.results21, go_sem, *]) rfl ⟨rfl, E.sixb _ _ _ _ _ _ 2 rfl⟩
end Go.Proofs.Ytmfclelnaceonaa
