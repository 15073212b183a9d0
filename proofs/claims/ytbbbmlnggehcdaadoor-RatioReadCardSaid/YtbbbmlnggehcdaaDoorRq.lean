/- The reference's Times, Over, Add, Sub and Cmp. -/
import Derived.Test.YtbbbmlnggehcdaaDoorRp
import Derived.Test.YtbbbmlnggehcdaaDoorRv
namespace Go.Proofs.YtbbbmlnggehcdaaDoor
open Go.ChangeShapes Go.WideShapes Go.ChangeAt Go.RowKit
set_option linter.unusedVariables false
set_option linter.unusedSimpArgs false

/-- What the last statement of the reference's sums and products keeps: the arguments, and the result's block. -/
def Trio (w0 w : World) (an ad bn bd : Int) : Prop := Two w0 w an ad bn bd ∧ ∃ c d : Value, Has w (w0.heap.size + 1 + 1) 23 #[c, d]
theorem Trio.next {w0 w w1 : World} {an ad bn bd : Int} (h : Trio w0 w an ad bn bd) (hb : Below w.heap.size w w1) : Trio w0 w1 an ad bn bd := by
  obtain ⟨h1, c, d, h2⟩ := h
  exact ⟨h1.next hb, c, d, h2.on hb⟩
theorem Trio.drew {w0 w : World} {an ad bn bd : Int} (h : Trio w0 w an ad bn bd) : Trio w0 w.drew an ad bn bd := h.next (Dr.below' ⟨1, rfl⟩)
theorem Trio.alloc {w0 w : World} {an ad bn bd : Int} (h : Trio w0 w an ad bn bd) (o : Obj) : Trio w0 (w.alloc o) an ad bn bd := h.next (al1 _ _)
theorem Trio.aldr {w0 w : World} {an ad bn bd : Int} (h : Trio w0 w an ad bn bd) (o : Obj) : Trio w0 (w.alloc o).drew an ad bn bd := (h.alloc o).drew
theorem Trio.set2 {w0 w : World} {an ad bn bd : Int} (h : Trio w0 w an ad bn bd) (x y : Value) : Trio w0 ((w.setCell ⟨w0.heap.size + 1 + 1, 0, none⟩ x).setCell ⟨w0.heap.size + 1 + 1, 1, none⟩ y) an ad bn bd := by
  obtain ⟨⟨h1, h2, h3, h4⟩, c, d, h5⟩ := h
  exact ⟨⟨(h1.apart_ (by simp; omega) _).apart_ (by simp; omega) _, (h2.apart_ (by simp) _).apart_ (by simp) _, (h3.setCell (by simp; omega) _).setCell (by simp; omega) _, by simp; omega⟩, x, y, (h5.put_ 0 x).put_ 1 y⟩
theorem Trio.four {w0 w : World} {an ad bn bd : Int} (h : Trio w0 w an ad bn bd) : w.cell? ⟨w0.heap.size, 0, none⟩ = some (.int .i64 an) ∧ w.cell? ⟨w0.heap.size, 1, none⟩ = some (.int .i64 ad) ∧ w.cell? ⟨w0.heap.size + 1, 0, none⟩ = some (.int .i64 bn) ∧ w.cell? ⟨w0.heap.size + 1, 1, none⟩ = some (.int .i64 bd) ∧ Trio w0 w an ad bn bd :=
  ⟨h.1.cells.1, h.1.cells.2.1, h.1.cells.2.2.1, h.1.cells.2.2.2, h⟩
theorem Trio.kept {w0 w : World} {an ad bn bd : Int} (h : Trio w0 w an ad bn bd) : ∃ c d : Value, w.cell? ⟨w0.heap.size + 1 + 1, 0, none⟩ = some c ∧ w.cell? ⟨w0.heap.size + 1 + 1, 1, none⟩ = some d ∧ w.frozen? ⟨w0.heap.size + 1 + 1, 0, none⟩ = false ∧ w.frozen? ⟨w0.heap.size + 1 + 1, 1, none⟩ = false := by
  obtain ⟨h1, c, d, h2⟩ := h
  exact ⟨c, d, h2.read 0, h2.read 1, h2.open_ 0, h2.open_ 1⟩
theorem trio_start (w : World) (an ad bn bd : Int) : Trio w (((w.alloc (.cells #[.int .i64 an, .int .i64 ad] 23)).alloc (.cells #[.int .i64 bn, .int .i64 bd] 23)).alloc (.cells #[.int .i64 0, .int .i64 0] 23)) an ad bn bd := by
  have h := three_start w an ad bn bd
  exact ⟨h.1, _, _, h.2⟩
theorem refSize_p (n s : Int) (w : World) (h1 : -1152921504606846976 ≤ n) (h2 : n ≤ 1152921504606846976) (e : ab n = s) : Calls Tryd.prog 44 #[.int .i64 n] w fun e w' => e = .returned (.int .u64 s) ∧ w = w' := by
  subst e; exact refSize_any n w (by omega) (by omega)

/-- The value of a product, as Made gives it. -/
theorem made_mk {x q : Int} {m : Bool} (hq : 0 < q) (hx : x = if m then -(ab x) else ab x) : fitQ m (divq (ab x) (gd (ab x) q)) (divq q (gd (ab x) q)) = mk x q := by
  have e : gd (ab x) q = gd x q := by have := gd_ab x q; rw [ab_pos (n := q) (by omega)] at this; exact this
  rw [e]; exact fit_mk hq hx

set_option maxHeartbeats 8000000 in
theorem times_core (an ad bn bd : Int) (w : World) (va : V an ad) (vb : V bn bd) {x q e0 : Int} (hM : ∀ W, Calls Tryd.prog 43 #[.agg #[.int .u64 (uH (pU (ab an) (ab bn))), .int .u64 (uL (pU (ab an) (ab bn)))], .bool (!decide (an < 0) == decide (bn < 0)), .agg #[.int .u64 (uH (pU (ab ad) (ab bd))), .int .u64 (uL (pU (ab ad) (ab bd)))]] W fun e w' => e = .returned (.tuple #[.agg #[.int .i64 x, .int .i64 q], .int .i64 e0]) ∧ Below W.heap.size W w') :
    Calls Tryd.prog 28 #[.agg #[.int .i64 an, .int .i64 ad], .agg #[.int .i64 bn, .int .i64 bd]] w fun e w' => e = .returned (.tuple #[.agg #[.int .i64 x, .int .i64 q], .int .i64 e0]) ∧ Below w.heap.size w w' := by
  obtain ⟨a1, a2, a3, a4, -⟩ := va
  obtain ⟨b1, b2, b3, b4, -⟩ := vb
  have s1 := fun W => refSize_p an _ W (by omega) (by omega) rfl
  have s2 := fun W => refSize_p ad _ W (by omega) (by omega) rfl
  have s3 := fun W => refSize_p bn _ W (by omega) (by omega) rfl
  have s4 := fun W => refSize_p bd _ W (by omega) (by omega) rfl
  have u1 : 0 ≤ ab an ∧ ab an ≤ 18446744073709551615 := by unfold ab; omega
  have u2 : 0 ≤ ab ad ∧ ab ad ≤ 18446744073709551615 := by unfold ab; omega
  have u3 : 0 ≤ ab bn ∧ ab bn ≤ 18446744073709551615 := by unfold ab; omega
  have u4 : 0 ≤ ab bd ∧ ab bd ≤ 18446744073709551615 := by unfold ab; omega
  have m1 := fun W => mulU_any (ab an) (ab bn) W (by assumption) (by assumption)
  have m2 := fun W => mulU_any (ab ad) (ab bd) W (by assumption) (by assumption)
  generalize uH (pU (ab an) (ab bn)) = h1 at *
  generalize uL (pU (ab an) (ab bn)) = l1 at *
  generalize uH (pU (ab ad) (ab bd)) = h2 at *
  generalize uL (pU (ab ad) (ab bd)) = l2 at *
  generalize ab an = z1 at *
  generalize ab ad = z2 at *
  generalize ab bn = z3 at *
  generalize ab bd = z4 at *
  go_enter Tryd.func28, Tryd.ntmps28
  go_wp2_with fail
  obtain ⟨W, hW⟩ : ∃ W, W = ((w.alloc (.cells #[.int .i64 an, .int .i64 ad] 23)).alloc (.cells #[.int .i64 bn, .int .i64 bd] 23)).alloc (.cells #[.int .i64 0, .int .i64 0] 23) := ⟨_, rfl⟩
  have E : Trio w W an ad bn bd := by rw [hW]; exact trio_start w an ad bn bd
  rw [← hW]
  clear hW
  go_region_held3 (fun w' => w'.cell? ⟨w.heap.size, 0, none⟩ = some (.int .i64 an) ∧ w'.cell? ⟨w.heap.size, 1, none⟩ = some (.int .i64 ad) ∧ w'.cell? ⟨w.heap.size + 1, 0, none⟩ = some (.int .i64 bn) ∧ w'.cell? ⟨w.heap.size + 1, 1, none⟩ = some (.int .i64 bd) ∧ Trio w w' an ad bn bd)
    (first | with_reducible exact Trio.four (Trio.set2 Q0 _ _) | with_reducible exact Trio.four E.drew | with_reducible exact Trio.four (Trio.next (by go_split_ands; assumption) hb) | with_reducible (go_split_ands; assumption) | go_keep)
    (first | (go_at_call 44; first | ((with_reducible refine (s1 _).mono ?_); rintro e w1 ⟨rfl, rfl⟩) | ((with_reducible refine (s2 _).mono ?_); rintro e w1 ⟨rfl, rfl⟩) | ((with_reducible refine (s3 _).mono ?_); rintro e w1 ⟨rfl, rfl⟩) | ((with_reducible refine (s4 _).mono ?_); rintro e w1 ⟨rfl, rfl⟩)) | (go_at_call 53; first | ((with_reducible refine (m1 _).mono ?_); rintro e w1 ⟨rfl, hb⟩) | ((with_reducible refine (m2 _).mono ?_); rintro e w1 ⟨rfl, hb⟩)) | (go_at_call 43; (with_reducible refine (hM _).mono ?_); rintro e w5 ⟨rfl, hb⟩; have Q0 : Trio w w5 an ad bn bd := (by with_reducible exact Trio.next (by go_split_ands; assumption) hb); obtain ⟨c, d, QQ⟩ := Trio.kept Q0))
  all_goals rename_i hH
  all_goals clear hH
  all_goals go_wp2
  all_goals refine bodyPost_ret (v := .tuple #[.agg #[.int .i64 x, .int .i64 q], .int .i64 e0]) (by simp [results, Tryd.results28, go_sem, QQ]) rfl ⟨rfl, ?_⟩
  all_goals exact (Q0.1.2.2.1.setCell (by simp; omega) _).setCell (by simp; omega) _

set_option maxHeartbeats 8000000 in
theorem over_core (an ad bn bd : Int) (w : World) (va : V an ad) (vb : V bn bd) {x q e0 : Int} (hM : ∀ W, Calls Tryd.prog 43 #[.agg #[.int .u64 (uH (pU (ab an) (ab bd))), .int .u64 (uL (pU (ab an) (ab bd)))], .bool (!decide (an < 0) == decide (bn < 0)), .agg #[.int .u64 (uH (pU (ab ad) (ab bn))), .int .u64 (uL (pU (ab ad) (ab bn)))]] W fun e w' => e = .returned (.tuple #[.agg #[.int .i64 x, .int .i64 q], .int .i64 e0]) ∧ Below W.heap.size W w') :
    Calls Tryd.prog 29 #[.agg #[.int .i64 an, .int .i64 ad], .agg #[.int .i64 bn, .int .i64 bd]] w fun e w' => e = .returned (.tuple #[.agg #[.int .i64 x, .int .i64 q], .int .i64 e0]) ∧ Below w.heap.size w w' := by
  obtain ⟨a1, a2, a3, a4, -⟩ := va
  obtain ⟨b1, b2, b3, b4, -⟩ := vb
  have s1 := fun W => refSize_p an _ W (by omega) (by omega) rfl
  have s2 := fun W => refSize_p ad _ W (by omega) (by omega) rfl
  have s3 := fun W => refSize_p bn _ W (by omega) (by omega) rfl
  have s4 := fun W => refSize_p bd _ W (by omega) (by omega) rfl
  have u1 : 0 ≤ ab an ∧ ab an ≤ 18446744073709551615 := by unfold ab; omega
  have u2 : 0 ≤ ab ad ∧ ab ad ≤ 18446744073709551615 := by unfold ab; omega
  have u3 : 0 ≤ ab bn ∧ ab bn ≤ 18446744073709551615 := by unfold ab; omega
  have u4 : 0 ≤ ab bd ∧ ab bd ≤ 18446744073709551615 := by unfold ab; omega
  have m1 := fun W => mulU_any (ab an) (ab bd) W (by assumption) (by assumption)
  have m2 := fun W => mulU_any (ab ad) (ab bn) W (by assumption) (by assumption)
  generalize uH (pU (ab an) (ab bd)) = h1 at *
  generalize uL (pU (ab an) (ab bd)) = l1 at *
  generalize uH (pU (ab ad) (ab bn)) = h2 at *
  generalize uL (pU (ab ad) (ab bn)) = l2 at *
  generalize ab an = z1 at *
  generalize ab ad = z2 at *
  generalize ab bn = z3 at *
  generalize ab bd = z4 at *
  go_enter Tryd.func29, Tryd.ntmps29
  go_wp2_with fail
  obtain ⟨W, hW⟩ : ∃ W, W = ((w.alloc (.cells #[.int .i64 an, .int .i64 ad] 23)).alloc (.cells #[.int .i64 bn, .int .i64 bd] 23)).alloc (.cells #[.int .i64 0, .int .i64 0] 23) := ⟨_, rfl⟩
  have E : Trio w W an ad bn bd := by rw [hW]; exact trio_start w an ad bn bd
  rw [← hW]
  clear hW
  go_region_held3 (fun w' => w'.cell? ⟨w.heap.size, 0, none⟩ = some (.int .i64 an) ∧ w'.cell? ⟨w.heap.size, 1, none⟩ = some (.int .i64 ad) ∧ w'.cell? ⟨w.heap.size + 1, 0, none⟩ = some (.int .i64 bn) ∧ w'.cell? ⟨w.heap.size + 1, 1, none⟩ = some (.int .i64 bd) ∧ Trio w w' an ad bn bd)
    (first | with_reducible exact Trio.four (Trio.set2 Q0 _ _) | with_reducible exact Trio.four E.drew | with_reducible exact Trio.four (Trio.next (by go_split_ands; assumption) hb) | with_reducible (go_split_ands; assumption) | go_keep)
    (first | (go_at_call 44; first | ((with_reducible refine (s1 _).mono ?_); rintro e w1 ⟨rfl, rfl⟩) | ((with_reducible refine (s2 _).mono ?_); rintro e w1 ⟨rfl, rfl⟩) | ((with_reducible refine (s3 _).mono ?_); rintro e w1 ⟨rfl, rfl⟩) | ((with_reducible refine (s4 _).mono ?_); rintro e w1 ⟨rfl, rfl⟩)) | (go_at_call 53; first | ((with_reducible refine (m1 _).mono ?_); rintro e w1 ⟨rfl, hb⟩) | ((with_reducible refine (m2 _).mono ?_); rintro e w1 ⟨rfl, hb⟩)) | (go_at_call 43; (with_reducible refine (hM _).mono ?_); rintro e w5 ⟨rfl, hb⟩; have Q0 : Trio w w5 an ad bn bd := (by with_reducible exact Trio.next (by go_split_ands; assumption) hb); obtain ⟨c, d, QQ⟩ := Trio.kept Q0))
  all_goals rename_i hH
  all_goals clear hH
  all_goals go_wp2
  all_goals refine bodyPost_ret (v := .tuple #[.agg #[.int .i64 x, .int .i64 q], .int .i64 e0]) (by simp [results, Tryd.results29, go_sem, QQ]) rfl ⟨rfl, ?_⟩
  all_goals exact (Q0.1.2.2.1.setCell (by simp; omega) _).setCell (by simp; omega) _

theorem made_none (h l : Int) (neg : Bool) (w : World) :
    Calls Tryd.prog 43 #[.agg #[.int .u64 h, .int .u64 l], .bool neg, .agg #[.int .u64 0, .int .u64 0]] w fun e w' => e = .returned (.tuple #[.agg #[.int .i64 0, .int .i64 0], .int .i64 16]) ∧ Below w.heap.size w w' := by
  go_enter Tryd.func43, Tryd.ntmps43
  go_wp2
  refine bodyPost_ret (v := .tuple #[.agg #[.int .i64 0, .int .i64 0], .int .i64 16]) (by simp [results, Tryd.results43, go_sem]) rfl ⟨rfl, al (al2 _ _ _) _⟩
theorem neg_form (a b : Bool) : (!a == b) = (a != b) := by cases a <;> cases b <;> rfl
theorem ab_mul (a b : Int) : ab (a * b) = ab a * ab b := by unfold ab; rw [Int.natAbs_mul, Int.natCast_mul]
theorem sgn_mul (a b : Int) : a * b = if (!decide (a < 0) == decide (b < 0)) = true then -(ab (a * b)) else ab (a * b) := by
  rw [ab_mul]
  by_cases h : a < 0 <;> by_cases h' : b < 0
  · rw [ab_neg (n := a) (by omega), ab_neg (n := b) (by omega)]; simp [h, h']; try grind
  · rw [ab_neg (n := a) (by omega), ab_pos (n := b) (by omega)]; simp [h, h']; try grind
  · rw [ab_pos (n := a) (by omega), ab_neg (n := b) (by omega)]; simp [h, h']; try grind
  · rw [ab_pos (n := a) (by omega), ab_pos (n := b) (by omega)]; simp [h, h']
theorem sm_mul {a b : Int} (h1 : ab a ≤ 1152921504606846976) (h2 : ab b ≤ 1152921504606846976) : 0 ≤ ab a * ab b ∧ ab a * ab b < 170141183460469231731687303715884105728 := by
  have := Int.mul_le_mul h1 h2 (ab_nn b) (by omega)
  exact ⟨Int.mul_nonneg (ab_nn a) (ab_nn b), by omega⟩
theorem V_ab {n d : Int} (v : V n d) : ab n ≤ 1152921504606846976 ∧ ab d = d ∧ d ≤ 1152921504606846976 ∧ 0 < d := by
  obtain ⟨d1, d2, n1, n2, -⟩ := v
  exact ⟨by unfold ab; omega, ab_pos (by omega), d2, by omega⟩

theorem rtimes_ok (an ad bn bd : Int) (w : World) (va : V an ad) (vb : V bn bd) {x q e0 : Int} (hr : mulQ an ad bn bd = (x, q, e0)) :
    Calls Tryd.prog 28 #[.agg #[.int .i64 an, .int .i64 ad], .agg #[.int .i64 bn, .int .i64 bd]] w fun e w' => e = .returned (.tuple #[.agg #[.int .i64 x, .int .i64 q], .int .i64 e0]) ∧ Below w.heap.size w w' := by
  refine times_core an ad bn bd w va vb fun W => ?_
  obtain ⟨p1, p2, p3, p4⟩ := V_ab va
  obtain ⟨q1, q2, q3, q4⟩ := V_ab vb
  have k := made_mk (x := an * bn) (q := ad * bd) (m := (!decide (an < 0) == decide (bn < 0))) (Int.mul_pos p4 q4) (sgn_mul an bn)
  have e1 : pU (ab an) (ab bn) = ab (an * bn) := by unfold pU; rw [ab_mul]
  have e2 : pU (ab ad) (ab bd) = ad * bd := by unfold pU; rw [p2, q2]
  rw [e1, e2]
  refine madeU_any _ _ _ W ?_ ?_ (k.trans hr)
  · rw [ab_mul]; exact sm_mul p1 q1
  · have := sm_mul (a := ad) (b := bd) (by omega) (by omega)
    rw [p2, q2] at this
    exact ⟨Int.mul_pos p4 q4, this.2⟩
theorem rover_ok (an ad bn bd : Int) (w : World) (va : V an ad) (vb : V bn bd) {x q e0 : Int} (hr : (if bn = 0 then (0, 0, 16) else divQ an ad bn bd) = (x, q, e0)) :
    Calls Tryd.prog 29 #[.agg #[.int .i64 an, .int .i64 ad], .agg #[.int .i64 bn, .int .i64 bd]] w fun e w' => e = .returned (.tuple #[.agg #[.int .i64 x, .int .i64 q], .int .i64 e0]) ∧ Below w.heap.size w w' := by
  refine over_core an ad bn bd w va vb fun W => ?_
  obtain ⟨p1, p2, p3, p4⟩ := V_ab va
  obtain ⟨q1, q2, q3, q4⟩ := V_ab vb
  have e1 : pU (ab an) (ab bd) = ab (an * bd) := by unfold pU; rw [ab_mul]
  have b1 := sm_mul (a := an) (b := bd) p1 (by omega)
  have b2 := sm_mul (a := ad) (b := bn) (by omega) q1
  by_cases z : bn = 0
  · subst z
    rw [if_pos rfl] at hr
    simp only [Prod.mk.injEq] at hr; obtain ⟨rfl, rfl, rfl⟩ := hr
    have e2 : pU (ab ad) (ab 0) = 0 := by unfold pU ab; simp
    rw [e2]
    exact made_none _ _ _ W
  · rw [if_neg z] at hr
    unfold divQ at hr
    have sg := sgn_mul an bd
    have dn : (decide (bd < 0)) = false := by simp; omega
    by_cases s : bn < 0
    · rw [if_pos s] at hr
      have ds : decide (bn < 0) = true := by simp [s]
      have k := made_mk (x := an * -bd) (q := ad * -bn) (m := (!decide (an < 0) == decide (bn < 0))) (Int.mul_pos p4 (by omega)) (by
        rw [Int.mul_neg, show ab (-(an * bd)) = ab (an * bd) by unfold ab; omega, sg, dn, ds]
        have := ab_nn (an * bd)
        cases decide (an < 0) <;> simp [ab] <;> omega)
      have e2 : pU (ab ad) (ab bn) = ad * -bn := by unfold pU; rw [p2, ab_neg (n := bn) (by omega)]
      have e3 : ab (an * -bd) = ab (an * bd) := by rw [Int.mul_neg]; unfold ab; omega
      rw [e3] at k
      rw [e1, e2]
      refine madeU_any _ _ _ W ?_ ?_ (k.trans hr)
      · rw [ab_mul]; exact b1
      · rw [p2, ab_neg (n := bn) (by omega)] at b2
        exact ⟨Int.mul_pos p4 (by omega), b2.2⟩
    · rw [if_neg s] at hr
      have ds : decide (bn < 0) = false := by simp; omega
      have k := made_mk (x := an * bd) (q := ad * bn) (m := (!decide (an < 0) == decide (bn < 0))) (Int.mul_pos p4 (by omega)) (by rw [ds, ← dn]; exact sg)
      have e2 : pU (ab ad) (ab bn) = ad * bn := by unfold pU; rw [p2, ab_pos (n := bn) (by omega)]
      rw [e1, e2]
      refine madeU_any _ _ _ W ?_ ?_ (k.trans hr)
      · rw [ab_mul]; exact b1
      · rw [p2, ab_pos (n := bn) (by omega)] at b2
        exact ⟨Int.mul_pos p4 (by omega), b2.2⟩
end Go.Proofs.YtbbbmlnggehcdaaDoor
