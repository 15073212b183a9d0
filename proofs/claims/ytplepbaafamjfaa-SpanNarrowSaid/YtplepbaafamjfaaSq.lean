/- Pure: spans of whole numbers: quotients rounded down and up, cut off beyond the limits; corners of products and quotients; whole roots. -/
import Derived.Test.YtplepbaafamjfaaBas
namespace Go.Proofs.Ytplepbaafamjfaa
set_option linter.unusedVariables false

/-- A span within the limits. -/
def SV (lo hi : Int) : Prop := lo ≤ hi ∧ -1152921504606846976 ≤ lo ∧ hi ≤ 1152921504606846976
instance (lo hi : Int) : Decidable (SV lo hi) := by unfold SV; infer_instance
def sB (lo hi : Int) : Bool := decide (SV lo hi)
theorem sB_t {lo hi : Int} : sB lo hi = true ↔ SV lo hi := by simp [sB]
theorem sB_f {lo hi : Int} : sB lo hi = false ↔ ¬ SV lo hi := by simp [sB]
def fitS (lo hi : Int) : Int × Int × Int := if sB lo hi then (lo, hi, 0) else (0, 0, 5)
def mn (a b : Int) : Int := if a ≤ b then a else b
def mx (a b : Int) : Int := if a ≤ b then b else a
def mn4 (a b c d : Int) : Int := mn (mn (mn a b) c) d
def mx4 (a b c d : Int) : Int := mx (mx (mx a b) c) d
theorem mn_le (a b : Int) : mn a b ≤ a ∧ mn a b ≤ b ∧ (mn a b = a ∨ mn a b = b) := by unfold mn; split <;> omega
theorem mx_ge (a b : Int) : a ≤ mx a b ∧ b ≤ mx a b ∧ (mx a b = a ∨ mx a b = b) := by unfold mx; split <;> omega
theorem mn4_le (a b c d : Int) : mn4 a b c d ≤ a ∧ mn4 a b c d ≤ b ∧ mn4 a b c d ≤ c ∧ mn4 a b c d ≤ d ∧ (mn4 a b c d = a ∨ mn4 a b c d = b ∨ mn4 a b c d = c ∨ mn4 a b c d = d) := by
  unfold mn4; have h1 := mn_le a b; have h2 := mn_le (mn a b) c; have h3 := mn_le (mn (mn a b) c) d; omega
theorem mx4_ge (a b c d : Int) : a ≤ mx4 a b c d ∧ b ≤ mx4 a b c d ∧ c ≤ mx4 a b c d ∧ d ≤ mx4 a b c d ∧ (mx4 a b c d = a ∨ mx4 a b c d = b ∨ mx4 a b c d = c ∨ mx4 a b c d = d) := by
  unfold mx4; have h1 := mx_ge a b; have h2 := mx_ge (mx a b) c; have h3 := mx_ge (mx (mx a b) c) d; omega

/-- The magnitude of n num / den, rounded down, its remainder, and whether it is negative. -/
def sQ (n num den : Int) : Int := ab n * ab num / ab den
def sR (n num den : Int) : Int := ab n * ab num % ab den
def sM (n num den : Int) : Bool := (decide (n < 0) != decide (num < 0)) != decide (den < 0)
def s0L (n num den : Int) : Int := if sQ n num den ≤ 1152921504606846976 then sQ n num den else 1152921504606846977
def s0H (n num den : Int) : Int := if sQ n num den ≤ 1152921504606846976 then (if 0 < sR n num den then sQ n num den + 1 else sQ n num den) else 1152921504606846977
def sLo (n num den : Int) : Int := if sM n num den then -s0H n num den else s0L n num den
def sHi (n num den : Int) : Int := if sM n num den then -s0L n num den else s0H n num den

/-- Quotients rounded down, and up, by a divisor of any sign. -/
def fl (p d : Int) : Int := if d < 0 then (-p) / (-d) else p / d
def ce (p d : Int) : Int := -(fl (-p) d)
def clip (x : Int) : Int := if x < -1152921504606846977 then -1152921504606846977 else if 1152921504606846977 < x then 1152921504606846977 else x
theorem clip_mono {x y : Int} (h : x ≤ y) : clip x ≤ clip y := by unfold clip; repeat' split <;> omega
theorem clip_id {x : Int} (h : -1152921504606846977 ≤ x) (h' : x ≤ 1152921504606846977) : clip x = x := by unfold clip; repeat' split <;> omega
theorem clip_b (x : Int) : -1152921504606846977 ≤ clip x ∧ clip x ≤ 1152921504606846977 := by unfold clip; repeat' split <;> omega
theorem clip_in {x : Int} (h : -1152921504606846976 ≤ clip x) (h' : clip x ≤ 1152921504606846976) : clip x = x := by unfold clip at *; repeat' split at * <;> omega

theorem fl_spec (p : Int) {d : Int} (hd : 0 < d) : fl p d * d ≤ p ∧ p < fl p d * d + d := by
  unfold fl; rw [if_neg (by omega)]
  have := Int.emod_nonneg p (show d ≠ 0 by omega)
  have := Int.emod_lt_of_pos p hd
  have := Int.mul_ediv_add_emod p d
  rw [Int.mul_comm] at this
  omega
theorem fl_neg (p d : Int) : fl (-p) (-d) = fl p d := by
  unfold fl
  by_cases h : d < 0
  · rw [if_neg (by omega), if_pos h]
  · by_cases h0 : d = 0
    · subst h0; simp
    · rw [if_pos (by omega), if_neg h]; simp
theorem ce_neg (p d : Int) : ce (-p) (-d) = ce p d := by
  unfold ce; rw [fl_neg]
theorem fl_negp (p d : Int) : fl (-p) d = -(ce p d) := by unfold ce; omega
theorem fl_mono {p q d : Int} (hd : 0 < d) (h : p ≤ q) : fl p d ≤ fl q d := by
  unfold fl; rw [if_neg (by omega), if_neg (by omega)]; exact Int.ediv_le_ediv hd h
theorem le_fl {k p d : Int} (hd : 0 < d) : k ≤ fl p d ↔ k * d ≤ p := by
  unfold fl; rw [if_neg (by omega)]; exact Int.le_ediv_iff_mul_le hd
theorem ce_le {k p d : Int} (hd : 0 < d) : ce p d ≤ k ↔ p ≤ k * d := by
  unfold ce
  have h := @le_fl (-k) (-p) d hd
  rw [Int.neg_mul] at h
  constructor
  · intro h'; have := h.1 (by omega); omega
  · intro h'; have := h.2 (by omega); omega
theorem fl_le_ce (p d : Int) (hd : d ≠ 0) : fl p d ≤ ce p d ∧ ce p d ≤ fl p d + 1 := by
  have key : ∀ p d : Int, 0 < d → fl p d ≤ ce p d ∧ ce p d ≤ fl p d + 1 := by
    intro p d hd
    have h1 := fl_spec p hd
    have h2 : ce p d ≤ fl p d + 1 := (ce_le hd).2 (by rw [Int.add_mul]; omega)
    have h3 : fl p d ≤ ce p d := by
      have h4 := (@ce_le (ce p d) p d hd).1 (Int.le_refl _)
      apply Int.le_of_lt_add_one
      have h5 : fl p d * d < (ce p d + 1) * d := by rw [Int.add_mul]; omega
      exact Int.lt_of_mul_lt_mul_right h5 (Int.le_of_lt hd)
    exact ⟨h3, h2⟩
  by_cases h : 0 < d
  · exact key p d h
  · have := key (-p) (-d) (by omega)
    rw [fl_neg, ce_neg] at this
    exact this

/-- What is reckoned are the quotients, cut off. -/
theorem s_mag {m : Bool} {P A D : Int} (hD : 0 < D) (hA : 0 ≤ A) (hP : P = if m then -A else A) :
    fl P D = (if m then -(if A % D = 0 then A / D else A / D + 1) else A / D) ∧ ce P D = (if m then -(A / D) else (if A % D = 0 then A / D else A / D + 1)) := by
  have e := Int.mul_ediv_add_emod A D
  have h0 := Int.emod_nonneg A (show D ≠ 0 by omega)
  have h1 := Int.emod_lt_of_pos A hD
  have k1 : (-A) / D = -(if A % D = 0 then A / D else A / D + 1) := by
    split
    · rename_i h
      rw [h] at e
      have : -A = D * (-(A / D)) := by rw [Int.mul_neg]; omega
      rw [this, Int.mul_ediv_cancel_left _ (by omega)]
    · rename_i h
      have : -A = (D - A % D) + D * (-(A / D) - 1) := by grind
      rw [this, Int.add_mul_ediv_left _ _ (by omega), Int.ediv_eq_zero_of_lt (by omega) (by omega)]
      omega
  have f1 : ∀ X, fl X D = X / D := fun X => by unfold fl; rw [if_neg (by omega)]
  unfold ce
  rw [f1, f1, hP]
  cases m
  · show A / D = A / D ∧ -((-A) / D) = (if A % D = 0 then A / D else A / D + 1)
    exact ⟨rfl, by rw [k1]; omega⟩
  · show (-A) / D = -(if A % D = 0 then A / D else A / D + 1) ∧ -((- -A) / D) = -(A / D)
    exact ⟨k1, by rw [Int.neg_neg]⟩
theorem sign_mul (n num : Int) : n * num = if (decide (n < 0) != decide (num < 0)) = true then -(ab n * ab num) else ab n * ab num := by
  by_cases h : n < 0 <;> by_cases h' : num < 0
  · rw [ab_neg (n := n) (by omega), ab_neg (n := num) (by omega)]; simp [h, h']; try grind
  · rw [ab_neg (n := n) (by omega), ab_pos (n := num) (by omega)]; simp [h, h']; try grind
  · rw [ab_pos (n := n) (by omega), ab_neg (n := num) (by omega)]; simp [h, h']; try grind
  · rw [ab_pos (n := n) (by omega), ab_pos (n := num) (by omega)]; simp [h, h']
theorem s_fl (n num den : Int) (hd : den ≠ 0) :
    fl (n * num) den = (if sM n num den then -(if sR n num den = 0 then sQ n num den else sQ n num den + 1) else sQ n num den) ∧
    ce (n * num) den = (if sM n num den then -(sQ n num den) else (if sR n num den = 0 then sQ n num den else sQ n num den + 1)) := by
  have hA : 0 ≤ ab n * ab num := Int.mul_nonneg (ab_nn _) (ab_nn _)
  have e := sign_mul n num
  unfold sM sQ sR
  generalize hm : (decide (n < 0) != decide (num < 0)) = m at *
  by_cases h : den < 0
  · rw [ab_neg (n := den) (Int.le_of_lt h)]
    rw [← fl_neg, ← ce_neg]
    have k := s_mag (m := !m) (P := -(n * num)) (A := ab n * ab num) (D := -den) (by omega) hA (by rw [e]; cases m <;> simp)
    rw [k.1, k.2]
    simp only [h, decide_true]
    cases m <;> simp
  · rw [ab_pos (n := den) (by omega)]
    have k := s_mag (m := m) (P := n * num) (A := ab n * ab num) (D := den) (by omega) hA e
    rw [k.1, k.2]
    simp only [h, decide_false]
    cases m <;> simp
theorem sQ_nn (n num den : Int) : 0 ≤ sQ n num den ∧ 0 ≤ sR n num den := by
  unfold sQ sR
  have := Int.mul_nonneg (ab_nn n) (ab_nn num)
  have := ab_nn den
  refine ⟨Int.ediv_nonneg (by omega) (by omega), ?_⟩
  by_cases h : ab den = 0
  · rw [h]; simp; omega
  · exact Int.emod_nonneg _ h
theorem s_clip (n num den : Int) (hd : den ≠ 0) : sLo n num den = clip (fl (n * num) den) ∧ sHi n num den = clip (ce (n * num) den) := by
  have h := s_fl n num den hd
  have q := sQ_nn n num den
  rw [h.1, h.2]
  unfold sLo sHi s0L s0H clip
  generalize sQ n num den = Q at *
  generalize sR n num den = R at *
  cases sM n num den <;> simp only [Bool.false_eq_true, if_false, if_true] <;> constructor <;> repeat' split <;> omega

def mulS (al ah bl bh : Int) : Int × Int × Int := fitS (mn4 (sLo al bl 1) (sLo al bh 1) (sLo ah bl 1) (sLo ah bh 1)) (mx4 (sHi al bl 1) (sHi al bh 1) (sHi ah bl 1) (sHi ah bh 1))
def divS (al ah bl bh : Int) : Int × Int × Int := fitS (mn4 (sLo al 1 bl) (sLo al 1 bh) (sLo ah 1 bl) (sLo ah 1 bh)) (mx4 (sHi al 1 bl) (sHi al 1 bh) (sHi ah 1 bl) (sHi ah 1 bh))
def timesS (al ah num den : Int) : Int × Int × Int := fitS (mn (sLo al num den) (sLo ah num den)) (mx (sHi al num den) (sHi ah num den))
def addS (al ah bl bh : Int) : Int × Int × Int := fitS (al + bl) (ah + bh)
def subS (al ah bl bh : Int) : Int × Int × Int := fitS (al - bh) (ah - bl)

theorem fl_one (p : Int) : fl p 1 = p := by unfold fl; simp
theorem ce_one (p : Int) : ce p 1 = p := by unfold ce; rw [fl_one]; omega
theorem p_clip (x y : Int) : sLo x y 1 = clip (x * y) ∧ sHi x y 1 = clip (x * y) := by
  have h := s_clip x y 1 (by omega)
  rw [fl_one, ce_one] at h; exact h
theorem fl_b {x y : Int} (h1 : -1152921504606846976 ≤ x) (h2 : x ≤ 1152921504606846976) (hy : y ≠ 0) : -1152921504606846976 ≤ fl x y ∧ fl x y ≤ 1152921504606846976 := by
  have key : ∀ x y : Int, 0 < y → -1152921504606846976 ≤ x → x ≤ 1152921504606846976 → -1152921504606846976 ≤ fl x y ∧ fl x y ≤ 1152921504606846976 := by
    intro x y hy h1 h2
    have k := fl_spec x hy
    refine ⟨(le_fl hy).2 (by omega), ?_⟩
    rcases Int.lt_or_le 1152921504606846976 (fl x y) with h | h
    · have := (@le_fl 1152921504606846977 x y hy).1 (by omega)
      omega
    · exact h
  rcases Int.lt_or_le 0 y with h | h
  · exact key x y h h1 h2
  · have := key (-x) (-y) (by omega) (by omega) (by omega)
    rw [fl_neg] at this; exact this
theorem ce_b {x y : Int} (h1 : -1152921504606846976 ≤ x) (h2 : x ≤ 1152921504606846976) (hy : y ≠ 0) : -1152921504606846976 ≤ ce x y ∧ ce x y ≤ 1152921504606846976 := by
  unfold ce; have := @fl_b (-x) y (by omega) (by omega) hy; omega
theorem d_fl {x y : Int} (h1 : -1152921504606846976 ≤ x) (h2 : x ≤ 1152921504606846976) (hy : y ≠ 0) : sLo x 1 y = fl x y ∧ sHi x 1 y = ce x y := by
  have h := s_clip x 1 y hy
  rw [Int.mul_one] at h
  have a := fl_b h1 h2 hy
  have b := ce_b h1 h2 hy
  rw [clip_id (by omega) (by omega), clip_id (by omega) (by omega)] at h
  exact h

theorem bt_mul {x1 x x2 : Int} (y : Int) (h1 : x1 ≤ x) (h2 : x ≤ x2) : (x1 * y ≤ x * y ∧ x * y ≤ x2 * y) ∨ (x2 * y ≤ x * y ∧ x * y ≤ x1 * y) := by
  rcases Int.le_total 0 y with h | h
  · exact .inl ⟨Int.mul_le_mul_of_nonneg_right h1 h, Int.mul_le_mul_of_nonneg_right h2 h⟩
  · exact .inr ⟨Int.mul_le_mul_of_nonpos_right h2 h, Int.mul_le_mul_of_nonpos_right h1 h⟩
theorem corner_mul {x1 x x2 y1 y y2 : Int} (h1 : x1 ≤ x) (h2 : x ≤ x2) (h3 : y1 ≤ y) (h4 : y ≤ y2) :
    mn4 (x1 * y1) (x1 * y2) (x2 * y1) (x2 * y2) ≤ x * y ∧ x * y ≤ mx4 (x1 * y1) (x1 * y2) (x2 * y1) (x2 * y2) := by
  have a := bt_mul y h1 h2
  have b := bt_mul x1 h3 h4
  have c := bt_mul x2 h3 h4
  rw [Int.mul_comm y1, Int.mul_comm y, Int.mul_comm y2] at b
  rw [Int.mul_comm y1, Int.mul_comm y, Int.mul_comm y2] at c
  have d := mn4_le (x1 * y1) (x1 * y2) (x2 * y1) (x2 * y2)
  have e := mx4_ge (x1 * y1) (x1 * y2) (x2 * y1) (x2 * y2)
  omega
theorem clip4 (a b c d : Int) : mn4 (clip a) (clip b) (clip c) (clip d) = clip (mn4 a b c d) ∧ mx4 (clip a) (clip b) (clip c) (clip d) = clip (mx4 a b c d) := by
  constructor
  · have h := mn4_le a b c d
    have k := mn4_le (clip a) (clip b) (clip c) (clip d)
    have ha := clip_mono h.1; have hb := clip_mono h.2.1; have hc := clip_mono h.2.2.1; have hd := clip_mono h.2.2.2.1
    rcases h.2.2.2.2 with e | e | e | e <;> rw [e] at ha hb hc hd ⊢ <;> omega
  · have h := mx4_ge a b c d
    have k := mx4_ge (clip a) (clip b) (clip c) (clip d)
    have ha := clip_mono h.1; have hb := clip_mono h.2.1; have hc := clip_mono h.2.2.1; have hd := clip_mono h.2.2.2.1
    rcases h.2.2.2.2 with e | e | e | e <;> rw [e] at ha hb hc hd ⊢ <;> omega
theorem mulS_eq (al ah bl bh : Int) : mulS al ah bl bh = fitS (clip (mn4 (al * bl) (al * bh) (ah * bl) (ah * bh))) (clip (mx4 (al * bl) (al * bh) (ah * bl) (ah * bh))) := by
  unfold mulS
  rw [(p_clip al bl).1, (p_clip al bh).1, (p_clip ah bl).1, (p_clip ah bh).1, (p_clip al bl).2, (p_clip al bh).2, (p_clip ah bl).2, (p_clip ah bh).2, (clip4 _ _ _ _).1, (clip4 _ _ _ _).2]
theorem fitS_ok {lo hi x y : Int} (h : fitS lo hi = (x, y, 0)) : SV lo hi ∧ x = lo ∧ y = hi := by
  unfold fitS at h; split at h
  · rename_i c; simp only [Prod.mk.injEq] at h; exact ⟨sB_t.1 c, h.1.symm, h.2.1.symm⟩
  · simp at h
theorem fitS_of {lo hi : Int} (h : SV lo hi) : fitS lo hi = (lo, hi, 0) := by unfold fitS; rw [if_pos (sB_t.2 h)]
theorem fitS_no {lo hi : Int} (h : ¬ SV lo hi) : fitS lo hi = (0, 0, 5) := by unfold fitS; rw [if_neg (by rw [sB_t]; exact h)]
theorem fitS_cases (lo hi : Int) : (SV lo hi ∧ fitS lo hi = (lo, hi, 0)) ∨ (¬ SV lo hi ∧ fitS lo hi = (0, 0, 5)) := by
  by_cases h : SV lo hi
  · exact .inl ⟨h, fitS_of h⟩
  · exact .inr ⟨h, fitS_no h⟩
/-- A product that fits is that of the corners. -/
theorem mulS_ok {al ah bl bh x y : Int} (h : mulS al ah bl bh = (x, y, 0)) : x = mn4 (al * bl) (al * bh) (ah * bl) (ah * bh) ∧ y = mx4 (al * bl) (al * bh) (ah * bl) (ah * bh) ∧ SV x y := by
  rw [mulS_eq] at h
  obtain ⟨v, rfl, rfl⟩ := fitS_ok h
  have m := mn4_le (al * bl) (al * bh) (ah * bl) (ah * bh)
  have k := mx4_ge (al * bl) (al * bh) (ah * bl) (ah * bh)
  have v' := v
  obtain ⟨v0, v1, v2⟩ := v
  have b1 := clip_b (mn4 (al * bl) (al * bh) (ah * bl) (ah * bh))
  rw [clip_in v1 (by omega), clip_in (by omega) v2] at v' ⊢
  exact ⟨rfl, rfl, v'⟩
theorem mulS_of {al ah bl bh : Int} (h : SV (mn4 (al * bl) (al * bh) (ah * bl) (ah * bh)) (mx4 (al * bl) (al * bh) (ah * bl) (ah * bh))) :
    mulS al ah bl bh = (mn4 (al * bl) (al * bh) (ah * bl) (ah * bh), mx4 (al * bl) (al * bh) (ah * bl) (ah * bh), 0) := by
  have h' := h
  obtain ⟨v0, v1, v2⟩ := h
  rw [mulS_eq, clip_id (by omega) (by omega), clip_id (by omega) (by omega)]
  exact fitS_of h'
theorem mulS_comm (al ah bl bh : Int) : mulS al ah bl bh = mulS bl bh al ah := by
  rw [mulS_eq, mulS_eq, Int.mul_comm bl al, Int.mul_comm bl ah, Int.mul_comm bh al, Int.mul_comm bh ah]
  have h1 := mn4_le (al * bl) (al * bh) (ah * bl) (ah * bh)
  have h2 := mn4_le (al * bl) (ah * bl) (al * bh) (ah * bh)
  have h3 := mx4_ge (al * bl) (al * bh) (ah * bl) (ah * bh)
  have h4 := mx4_ge (al * bl) (ah * bl) (al * bh) (ah * bh)
  rw [show mn4 (al * bl) (al * bh) (ah * bl) (ah * bh) = mn4 (al * bl) (ah * bl) (al * bh) (ah * bh) by omega, show mx4 (al * bl) (al * bh) (ah * bl) (ah * bh) = mx4 (al * bl) (ah * bl) (al * bh) (ah * bh) by omega]
theorem addS_comm (al ah bl bh : Int) : addS al ah bl bh = addS bl bh al ah := by unfold addS; rw [Int.add_comm al, Int.add_comm ah]
/-- A span inside of another one has its product inside of the other's. -/
theorem mulS_in {al ah bl bh cl ch dl dh x y : Int} (h : mulS al ah bl bh = (x, y, 0)) (c : cl ≤ ch) (d : dl ≤ dh) (c1 : al ≤ cl) (c2 : ch ≤ ah) (d1 : bl ≤ dl) (d2 : dh ≤ bh) :
    ∃ u v, mulS cl ch dl dh = (u, v, 0) ∧ x ≤ u ∧ v ≤ y := by
  obtain ⟨rfl, rfl, v0, v1, v2⟩ := mulS_ok h
  have k1 := @corner_mul al cl ah bl dl bh (by omega) (by omega) (by omega) (by omega)
  have k2 := @corner_mul al cl ah bl dh bh (by omega) (by omega) (by omega) (by omega)
  have k3 := @corner_mul al ch ah bl dl bh (by omega) (by omega) (by omega) (by omega)
  have k4 := @corner_mul al ch ah bl dh bh (by omega) (by omega) (by omega) (by omega)
  have m := mn4_le (cl * dl) (cl * dh) (ch * dl) (ch * dh)
  have k := mx4_ge (cl * dl) (cl * dh) (ch * dl) (ch * dh)
  exact ⟨_, _, mulS_of (by unfold SV; omega), by omega, by omega⟩

theorem fl_lo1 {x1 x y : Int} (hy : y ≠ 0) {x2 : Int} (h1 : x1 ≤ x) (h2 : x ≤ x2) : fl x1 y ≤ fl x y ∨ fl x2 y ≤ fl x y := by
  rcases Int.lt_or_le 0 y with h | h
  · exact .inl (fl_mono h h1)
  · have := @fl_mono (-x2) (-x) (-y) (by omega) (by omega)
    rw [fl_neg, fl_neg] at this; exact .inr this
theorem fl_anti {x d d' : Int} (hd : 0 < d) (h : d ≤ d') : (0 ≤ x → fl x d' ≤ fl x d) ∧ (x ≤ 0 → fl x d ≤ fl x d') := by
  constructor
  · intro hx
    have k : 0 ≤ fl x d' := (le_fl (by omega)).2 (by omega)
    have := fl_spec x (show 0 < d' by omega)
    exact (le_fl hd).2 (Int.le_trans (Int.mul_le_mul_of_nonneg_left h k) this.1)
  · intro hx
    have s := fl_spec x hd
    rcases Int.lt_or_le 0 (fl x d) with k | k
    · have := Int.mul_pos k hd; omega
    · exact (le_fl (by omega)).2 (Int.le_trans (Int.mul_le_mul_of_nonpos_left k h) s.1)
theorem fl_lo2 {x y1 y y2 : Int} (h1 : y1 ≤ y) (h2 : y ≤ y2) (hs : 0 < y1 ∨ y2 < 0) : fl x y1 ≤ fl x y ∨ fl x y2 ≤ fl x y := by
  have key : ∀ x y1 y y2 : Int, y1 ≤ y → y ≤ y2 → 0 < y1 → fl x y1 ≤ fl x y ∨ fl x y2 ≤ fl x y := by
    intro x y1 y y2 h1 h2 hs
    rcases Int.le_total 0 x with h | h
    · exact .inr ((fl_anti (by omega) h2).1 h)
    · exact .inl ((fl_anti hs h1).2 h)
  rcases hs with hs | hs
  · exact key x y1 y y2 h1 h2 hs
  · have := key (-x) (-y2) (-y) (-y1) (by omega) (by omega) (by omega)
    rw [fl_neg, fl_neg, fl_neg] at this; exact this.symm
theorem corner_fl {x1 x x2 y1 y y2 : Int} (h1 : x1 ≤ x) (h2 : x ≤ x2) (h3 : y1 ≤ y) (h4 : y ≤ y2) (hs : 0 < y1 ∨ y2 < 0) :
    mn4 (fl x1 y1) (fl x1 y2) (fl x2 y1) (fl x2 y2) ≤ fl x y := by
  have a := @fl_lo1 x1 x y (by omega) x2 h1 h2
  have b := @fl_lo2 x1 y1 y y2 h3 h4 hs
  have c := @fl_lo2 x2 y1 y y2 h3 h4 hs
  have d := mn4_le (fl x1 y1) (fl x1 y2) (fl x2 y1) (fl x2 y2)
  omega
theorem corner_ce {x1 x x2 y1 y y2 : Int} (h1 : x1 ≤ x) (h2 : x ≤ x2) (h3 : y1 ≤ y) (h4 : y ≤ y2) (hs : 0 < y1 ∨ y2 < 0) :
    ce x y ≤ mx4 (ce x1 y1) (ce x1 y2) (ce x2 y1) (ce x2 y2) := by
  have a := @fl_lo1 (-x2) (-x) y (by omega) (-x1) (by omega) (by omega)
  have b := @fl_lo2 (-x1) y1 y y2 h3 h4 hs
  have c := @fl_lo2 (-x2) y1 y y2 h3 h4 hs
  have d := mx4_ge (ce x1 y1) (ce x1 y2) (ce x2 y1) (ce x2 y2)
  unfold ce at *
  omega
theorem divS_ok {al ah bl bh : Int} (va : SV al ah) (vb : bl ≤ bh) (hs : 0 < bl ∨ bh < 0) :
    divS al ah bl bh = (mn4 (fl al bl) (fl al bh) (fl ah bl) (fl ah bh), mx4 (ce al bl) (ce al bh) (ce ah bl) (ce ah bh), 0) := by
  obtain ⟨v0, v1, v2⟩ := va
  have n1 : bl ≠ 0 := by omega
  have n2 : bh ≠ 0 := by omega
  unfold divS
  rw [(d_fl (y := bl) v1 (by omega) n1).1, (d_fl (y := bh) v1 (by omega) n2).1, (d_fl (y := bl) (x := ah) (by omega) v2 n1).1, (d_fl (y := bh) (x := ah) (by omega) v2 n2).1,
    (d_fl (y := bl) v1 (by omega) n1).2, (d_fl (y := bh) v1 (by omega) n2).2, (d_fl (y := bl) (x := ah) (by omega) v2 n1).2, (d_fl (y := bh) (x := ah) (by omega) v2 n2).2]
  have a1 := fl_b (y := bl) v1 (by omega) n1
  have a2 := fl_b (y := bh) v1 (by omega) n2
  have a3 := fl_b (y := bl) (x := ah) (by omega) v2 n1
  have a4 := fl_b (y := bh) (x := ah) (by omega) v2 n2
  have b1 := ce_b (y := bl) v1 (by omega) n1
  have b2 := ce_b (y := bh) v1 (by omega) n2
  have b3 := ce_b (y := bl) (x := ah) (by omega) v2 n1
  have b4 := ce_b (y := bh) (x := ah) (by omega) v2 n2
  have c1 := (fl_le_ce al bl n1).1
  have m := mn4_le (fl al bl) (fl al bh) (fl ah bl) (fl ah bh)
  have k := mx4_ge (ce al bl) (ce al bh) (ce ah bl) (ce ah bh)
  exact fitS_of (by unfold SV; omega)
theorem divS_in {al ah bl bh cl ch dl dh : Int} (va : SV al ah) (vb : bl ≤ bh) (hs : 0 < bl ∨ bh < 0) (c : cl ≤ ch) (d : dl ≤ dh) (c1 : al ≤ cl) (c2 : ch ≤ ah) (d1 : bl ≤ dl) (d2 : dh ≤ bh) :
    ∃ x y u v, divS al ah bl bh = (x, y, 0) ∧ divS cl ch dl dh = (u, v, 0) ∧ x ≤ u ∧ v ≤ y := by
  refine ⟨_, _, _, _, divS_ok va vb hs, divS_ok (by obtain ⟨_, _, _⟩ := va; unfold SV; omega) d (by omega), ?_, ?_⟩
  · have k1 := @corner_fl al cl ah bl dl bh (by omega) (by omega) (by omega) (by omega) hs
    have k2 := @corner_fl al cl ah bl dh bh (by omega) (by omega) (by omega) (by omega) hs
    have k3 := @corner_fl al ch ah bl dl bh (by omega) (by omega) (by omega) (by omega) hs
    have k4 := @corner_fl al ch ah bl dh bh (by omega) (by omega) (by omega) (by omega) hs
    have m := mn4_le (fl cl dl) (fl cl dh) (fl ch dl) (fl ch dh)
    omega
  · have k1 := @corner_ce al cl ah bl dl bh (by omega) (by omega) (by omega) (by omega) hs
    have k2 := @corner_ce al cl ah bl dh bh (by omega) (by omega) (by omega) (by omega) hs
    have k3 := @corner_ce al ch ah bl dl bh (by omega) (by omega) (by omega) (by omega) hs
    have k4 := @corner_ce al ch ah bl dh bh (by omega) (by omega) (by omega) (by omega) hs
    have m := mx4_ge (ce cl dl) (ce cl dh) (ce ch dl) (ce ch dh)
    omega

/-- The whole root. -/
def IsRoot (r n : Int) : Prop := 0 ≤ r ∧ r * r ≤ n ∧ n < (r + 1) * (r + 1)
theorem sq_le {a b : Int} (h : 0 ≤ a) (h' : a ≤ b) : a * a ≤ b * b := Int.mul_le_mul h' h' h (by omega)
theorem sq_lt {a b : Int} (hb : 0 ≤ b) (h : a * a < b * b) : a < b := by
  rcases Int.lt_or_le a b with k | k
  · exact k
  · have := sq_le hb k; omega
theorem root_unique {r s n : Int} (h : IsRoot r n) (h' : IsRoot s n) : r = s := by
  obtain ⟨a, b, c⟩ := h
  obtain ⟨a', b', c'⟩ := h'
  have := @sq_lt r (s + 1) (by omega) (by omega)
  have := @sq_lt s (r + 1) (by omega) (by omega)
  omega
theorem root_mono {r s n m : Int} (h : IsRoot r n) (h' : IsRoot s m) (hn : n ≤ m) : r ≤ s := by
  obtain ⟨a, b, c⟩ := h
  obtain ⟨a', b', c'⟩ := h'
  have := @sq_lt r (s + 1) (by omega) (by omega)
  omega
theorem root_b {r n : Int} (h : IsRoot r n) (hn : n ≤ 1152921504606846976) : r ≤ 1073741824 := by
  obtain ⟨a, b, c⟩ := h
  have := @sq_lt r 1073741825 (by omega) (by omega)
  omega
/-- One step of the search, bit by bit. -/
def RootAt (n root bit : Int) : Prop := 0 ≤ root ∧ root * root ≤ n ∧ n < (root + 2 * bit) * (root + 2 * bit)
theorem rootAt_yes {n root bit : Int} (h : RootAt n root (2 * bit)) (hb : 0 ≤ bit) (c : (root + 2 * bit) * (root + 2 * bit) ≤ n) : RootAt n (root + 2 * bit) bit := by
  obtain ⟨h1, h2, h3⟩ := h
  refine ⟨by omega, c, ?_⟩
  rw [show root + 2 * bit + 2 * bit = root + 2 * (2 * bit) by omega]; exact h3
theorem rootAt_no {n root bit : Int} (h : RootAt n root (2 * bit)) (c : ¬ (root + 2 * bit) * (root + 2 * bit) ≤ n) : RootAt n root bit := by
  obtain ⟨h1, h2, h3⟩ := h
  exact ⟨h1, h2, by omega⟩
end Go.Proofs.Ytplepbaafamjfaa
