/- Lengths of laid legs (pure). -/
import Derived.Test.YtfkcogocaecodaaSt
import Derived.Deep.CutBlock
namespace Go.Proofs.Ytfkcogocaecodaa
open Go.ChangeShapes Go.WideShapes Go.ChangeAt Go.RowKit
set_option linter.unusedVariables false
set_option linter.unusedSimpArgs false

def dst (a b : Int) : Int := mx a b - mn a b
theorem dst_neg (a b : Int) : dst (-a) (-b) = dst a b := by unfold dst mx mn; split <;> split <;> split <;> split <;> omega
theorem dst_add (a b s : Int) : dst (a + s) (b + s) = dst a b := by unfold dst mx mn; split <;> split <;> split <;> split <;> omega
theorem dst_self (a : Int) : dst a a = 0 := by unfold dst mx mn; split <;> omega
theorem dst_up (a : Int) {n : Int} (h : 0 ≤ n) : dst a (a + n) = n := by unfold dst mx mn; split <;> split <;> omega
theorem dst_down (a : Int) {n : Int} (h : 0 ≤ n) : dst a (a - n) = n := by unfold dst mx mn; split <;> split <;> omega
/-- How far two points lie apart along the axes. -/
def far1 (p q : Pt) : Int := dst p.x q.x + dst p.y q.y + dst p.z q.z
theorem far1_adp (p q s : Pt) : far1 (adp p s) (adp q s) = far1 p q := by unfold far1 adp; simp only [dst_add]
theorem far1_ad (p q s : Pt) : far1 (Fm.ad p s) (Fm.ad q s) = far1 p q := by unfold far1 Fm.ad; simp only [dst_add]
set_option maxHeartbeats 4000000 in
theorem far1_img {t : Tn} (h : Fm.vT t = true) (p q : Pt) : far1 (Fm.img t p) (Fm.img t q) = far1 p q := by
  rcases Fm.vT_or h with (rfl|rfl|rfl|rfl|rfl|rfl|rfl|rfl)|(rfl|rfl|rfl|rfl|rfl|rfl|rfl|rfl)|rfl|rfl|rfl|rfl|rfl|rfl|rfl|rfl <;>
    (simp [far1, Fm.img, Fm.ad, Fm.sc, Fm.cr, Fm.U, dst_neg]; try omega)
theorem far1_mv (p : Pt) {c n : Int} (h : c = 88 ∨ c = 120 ∨ c = 89 ∨ c = 121 ∨ c = 90) (h0 : 0 ≤ n) : far1 p (mv p c n) = n := by
  rcases h with rfl | rfl | rfl | rfl | rfl <;> simp [far1, mv, dst_self, dst_up, dst_down, h0]
theorem way_mem {c : Int} (h : isC c = true) {j : Nat} (hj : j < nl c) : way c j = 88 ∨ way c j = 120 ∨ way c j = 89 ∨ way c j = 121 ∨ way c j = 90 := by
  unfold way
  unfold nl at hj
  rw [List.getD_eq_getElem?_getD, List.getElem?_eq_getElem hj]
  have hm := List.getElem_mem hj
  generalize (dirS c)[j] = u at *
  unfold dirS at hm
  simp only [Option.getD_some]
  (repeat' split at hm) <;> simp at hm <;> (first | (rcases hm with rfl | rfl | rfl | rfl | rfl | rfl <;> decide) | (rcases hm with rfl | rfl | rfl | rfl | rfl <;> decide) | (rcases hm with rfl | rfl | rfl | rfl <;> decide) | (rcases hm with rfl | rfl | rfl <;> decide) | (rcases hm with rfl | rfl <;> decide) | (subst hm; decide))
def lenB (b : Bx) : Int := b.d - b.a + b.e - b.b + b.f - b.c
theorem lenB_two (p q : Pt) : lenB (hullB (bxp p) (bxp q)) = far1 p q := by
  unfold lenB hullB bxp far1 dst
  dsimp only; omega
theorem len_leg {b : Bar} {r : Rn} (hb : barB b = true) (hf : fitsB b r = true) (k : Nat) {j : Nat} (hj : j < nl b.code) : lenB (lg (bpts b r k) j) = legF b j := by
  have hl := bpts_len b r k
  rw [lg_two (by omega), lenB_two]
  have e : ∀ i (h : i < nl b.code + 1), (bpts b r k)[i]'(by omega) = adp (Fm.ad (Fm.img r.tn (pt b i)) r.at_) (scp r.st k) := fun i h => by
    simp [bpts, mvd, fst, Fm.psL, pts]
  rw [e j (by omega), e (j + 1) (by omega), far1_adp, far1_ad, far1_img (fitsB_and hf).1]
  show far1 (pt b j) (mv (pt b j) (way b.code j) (legF b j)) = legF b j
  exact far1_mv _ (way_mem (barB_and hb).1 hj) (by have := leg_bd hb hj; omega)
theorem lens_legs {b : Bar} {r : Rn} (hb : barB b = true) (hf : fitsB b r = true) (k : Nat) : (lgsP (bpts b r k)).map lenB = legs b := by
  unfold lgsP legs
  rw [bpts_len, List.map_map]
  refine List.map_congr_left fun j hj => ?_
  exact len_leg hb hf k (List.mem_range.1 hj)
/-- Two boxes that have a point in common are no way apart. -/
def touch (x y : Bx) : Prop := gapS x.a x.d y.a y.d ≤ 0 ∧ gapS x.b x.e y.b y.e ≤ 0 ∧ gapS x.c x.f y.c y.f ≤ 0
theorem gap_le (p q r : Int) : gapS (mn p q) (mx p q) (mn q r) (mx q r) ≤ 0 := by
  unfold gapS mx mn
  (repeat' split) <;> omega
theorem lg_touch {P : List Pt} {j : Nat} (h : j + 2 < P.length) : touch (lg P j) (lg P (j + 1)) := by
  rw [lg_two (by omega), lg_two (by omega)]
  exact ⟨gap_le _ _ _, gap_le _ _ _, gap_le _ _ _⟩
theorem lg_ok {P : List Pt} (h : P.all (inB 1048576) = true) {b : Bx} (hb : b ∈ lgsP P) : b.ok = true := by
  have hbd := lgsP_bd h hb
  have hle : b.a ≤ b.d ∧ b.b ≤ b.e ∧ b.c ≤ b.f := by
    unfold lgsP at hb
    obtain ⟨k, hk, rfl⟩ := List.mem_map.1 hb
    have hk' := List.mem_range.1 hk
    rw [lg_two (by omega)]
    unfold hullB bxp mn mx
    dsimp only
    refine ⟨?_, ?_, ?_⟩ <;> (split <;> split <;> omega)
  unfold Bx.bd at hbd
  unfold Bx.ok vB sdV
  simp only [Bool.and_eq_true, decide_eq_true_eq]
  omega
theorem hullB_two (A x y : Bx) (h : hullB A x = A) : hullB A (hullB x y) = hullB A y := by
  obtain ⟨a, b, c, d, e, f⟩ := A
  obtain ⟨a1, b1, c1, d1, e1, f1⟩ := x
  obtain ⟨a2, b2, c2, d2, e2, f2⟩ := y
  unfold hullB at *
  simp only [Bx.mk.injEq] at *
  obtain ⟨h1, h2, h3, h4, h5, h6⟩ := h
  unfold mn mx at *
  refine ⟨?_, ?_, ?_, ?_, ?_, ?_⟩
  · revert h1; (repeat' split) <;> omega
  · revert h2; (repeat' split) <;> omega
  · revert h3; (repeat' split) <;> omega
  · revert h4; (repeat' split) <;> omega
  · revert h5; (repeat' split) <;> omega
  · revert h6; (repeat' split) <;> omega
theorem hullB_idem (A x : Bx) : hullB (hullB A x) x = hullB A x := by
  unfold hullB mn mx
  simp only [Bx.mk.injEq]
  refine ⟨?_, ?_, ?_, ?_, ?_, ?_⟩ <;> ((repeat' split) <;> omega)
theorem lgsP_cons (p q : Pt) (P : List Pt) : lgsP (p :: q :: P) = hullB (bxp p) (bxp q) :: lgsP (q :: P) := by
  unfold lgsP
  simp only [List.length_cons, Nat.add_sub_cancel]
  rw [List.range_succ_eq_map, List.map_cons, List.map_map]
  rfl
theorem hull_legs : ∀ (P : List Pt) (q : Pt) (A : Bx), hullB A (bxp q) = A → (lgsP (q :: P)).foldl hullB A = (P.map bxp).foldl hullB A
  | [], q, A, _ => by simp [lgsP]
  | r :: P, q, A, h => by
    rw [lgsP_cons, List.foldl_cons, hullB_two _ _ _ h, List.map_cons, List.foldl_cons]
    exact hull_legs P r _ (hullB_idem _ _)
theorem hullL_legs {P : List Pt} (h : 2 ≤ P.length) : hullL (lgsP P) = hullL (P.map bxp) := by
  obtain ⟨p, q, P, rfl⟩ : ∃ p q R, P = p :: q :: R := by
    match P, h with
    | p :: q :: R, _ => exact ⟨p, q, R, rfl⟩
  rw [lgsP_cons]
  unfold hullL
  simp only [List.map_cons, List.foldl_cons]
  exact hull_legs P q _ (hullB_idem _ _)
end Go.Proofs.Ytfkcogocaecodaa
