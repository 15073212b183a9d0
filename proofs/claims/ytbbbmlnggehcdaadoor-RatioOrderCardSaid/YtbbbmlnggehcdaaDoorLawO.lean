/- RatioOrder returns true: the walks, put together. -/
import Derived.Test.YtbbbmlnggehcdaaDoorCom
import Derived.Test.YtbbbmlnggehcdaaDoorOr0
import Derived.Test.YtbbbmlnggehcdaaDoorOrno
import Derived.Test.YtbbbmlnggehcdaaDoorOrnn
import Derived.Test.YtbbbmlnggehcdaaDoorOrdo
import Derived.Test.YtbbbmlnggehcdaaDoorOrdn
namespace Go.Proofs.YtbbbmlnggehcdaaDoor
open Go.ChangeShapes Go.WideShapes Go.ChangeAt Go.RowKit Go.Shelf
set_option linter.unusedVariables false

theorem order_mul {an ad bn bd cn cd k : Int} (va : V an ad) (vb : V bn bd) (hk : cmpQ an ad bn bd = k) (h3 : (mulR an ad cn cd).2.2 = 0) (h4 : (mulR bn bd cn cd).2.2 = 0) :
    (cmpR (mulR an ad cn cd).1 (mulR an ad cn cd).2.1 (mulR bn bd cn cd).1 (mulR bn bd cn cd).2.1).2 = 0 ∧
    (0 < cn → (cmpR (mulR an ad cn cd).1 (mulR an ad cn cd).2.1 (mulR bn bd cn cd).1 (mulR bn bd cn cd).2.1).1 = k) ∧
    (cn < 0 → (cmpR (mulR an ad cn cd).1 (mulR an ad cn cd).2.1 (mulR bn bd cn cd).1 (mulR bn bd cn cd).2.1).1 = -k) ∧
    (cn = 0 → (cmpR (mulR an ad cn cd).1 (mulR an ad cn cd).2.1 (mulR bn bd cn cd).1 (mulR bn bd cn cd).2.1).1 = 0) := by
  rcases c_mul an ad cn cd with ⟨pn, pd, e, -, vc, vp, hp⟩ | ⟨e, he, h⟩
  · rcases c_mul bn bd cn cd with ⟨qn, qd, e', -, -, vq, hq⟩ | ⟨e', he', h'⟩
    · rw [e, e']
      obtain ⟨-, -, ho⟩ := mul_order va vb vc hp hq
      rw [sg_mul, ← cmp_sg, hk] at ho
      simp only [c_cmpR vp vq, ho]
      refine ⟨trivial, fun h => ?_, fun h => ?_, fun h => ?_⟩
      · unfold sg; rw [if_neg (by omega), if_pos h]; omega
      · unfold sg; rw [if_pos h]; omega
      · unfold sg; rw [if_neg (by omega), if_neg (by omega)]; omega
    · rw [h'] at h4; simp only at h4; simp [h4] at he'
  · rw [h] at h3; simp only at h3; simp [h3] at he
theorem sg_flags {d k : Int} (h : sg d = k) : decide (0 < d) = decide ((0 : Int) < k) ∧ decide (d < 0) = decide (k < (0 : Int)) := by
  subst h
  unfold sg
  constructor <;> (rw [Bool.eq_iff_iff]; simp only [decide_eq_true_eq]; repeat' split) <;> omega

theorem order_walk (an ad bn bd cn cd : Int) (w : World) (h1 : I64 an) (h2 : I64 ad) (h3 : I64 bn) (h4 : I64 bd) (h5 : I64 cn) (h6 : I64 cd) (ht : Tab w) :
    Calls Tryd.prog 8 #[.agg #[.int .i64 an, .int .i64 ad], .agg #[.int .i64 bn, .int .i64 bd], .agg #[.int .i64 cn, .int .i64 cd]] w (Yes w) := by
  by_cases ok : okB an ad bn bd = true
  · obtain ⟨va, vb⟩ := okB_t ok
    have r1 := c_cmpR va vb
    have i1 := c_mulI an ad cn cd
    have i2 := c_mulI bn bd cn cd
    obtain ⟨k, hk⟩ : ∃ k, cmpQ an ad bn bd = k := ⟨_, rfl⟩
    rw [hk] at r1
    by_cases k0 : k = 0
    · subst k0
      obtain ⟨rfl, rfl⟩ := cmp_zero va vb hk
      have s : addQ an ad (-an) ad = (0, 1, 0) := by
        unfold addQ; exact mk_of (VV va vb) ⟨by omega, by omega, by omega, by omega, rfl⟩ (by grind)
      have r3 : subR an ad an ad = (0, 1, 0) := by rw [c_subR va vb]; exact s
      have hm : (mulR an ad cn cd).2.2 = 0 → (cmpR (mulR an ad cn cd).1 (mulR an ad cn cd).2.1 (mulR an ad cn cd).1 (mulR an ad cn cd).2.1).2 = 0 ∧ (cmpR (mulR an ad cn cd).1 (mulR an ad cn cd).2.1 (mulR an ad cn cd).1 (mulR an ad cn cd).2.1).1 = 0 := fun h => by
        rcases c_mul an ad cn cd with ⟨pn, pd, e, -, vc, vp, hp⟩ | ⟨e, he, h'⟩
        · rw [e]; simp only [c_cmpR vp vp, cmp_self, and_self]
        · rw [h'] at h; simp only at h; simp [h] at he
      rcases c_add an ad cn cd with ⟨xn, xd, e, -, vc, vx, hx⟩ | ⟨e, he, h⟩
      · exact or_0o an ad cn cd w h1.1 h1.2 h2.1 h2.2 h5.1 h5.2 h6.1 h6.2 ht r1 0 1 (by omega) (by omega) r3 rfl rfl xn xd (V_b vx).1 (V_b vx).2 e (by rw [c_cmpR vx vx, cmp_self]) _ _ _ _ _ i1.1 i1.2 rfl rfl hm
      · exact or_0g an ad cn cd w h1.1 h1.2 h2.1 h2.2 h5.1 h5.2 h6.1 h6.2 ht r1 0 1 (by omega) (by omega) r3 rfl rfl e he h _ _ _ _ _ i1.1 i1.2 rfl rfl hm
    · have kb := cmp_bd an ad bn bd
      rw [hk] at kb
      have k1 : k = 1 ∨ k = -1 := by omega
      have r2 : cmpR bn bd an ad = (-k, 0) := by rw [c_cmpR vb va, cmp_back, hk]
      have hm := fun a b => order_mul (cn := cn) (cd := cd) va vb hk a b
      have ne : an = bn → ¬ ad = bd := fun a b => k0 (by rw [← hk, a, b, cmp_self])
      by_cases hn : an = bn
      · have hd := ne hn
        subst hn
        rcases c_mk (x := an * bd + -an * ad) (VV va vb) with ⟨dn, dd, hs, vd⟩ | hs
        · obtain ⟨-, sd⟩ := sub_sign va vb hs
          obtain ⟨g1, g2⟩ := sg_flags (sd.trans hk)
          have r3 : subR an ad an bd = (dn, dd, 0) := by rw [c_subR va vb]; exact hs
          rcases c_add an ad cn cd with ⟨xn, xd, e, -, vc, vx, hx⟩ | ⟨e, he, h⟩
          · rcases c_add an bd cn cd with ⟨ym, ye, e', -, -, vy, hy⟩ | ⟨e', he', h'⟩
            · obtain ⟨-, -, o⟩ := add_order va vb vc hx hy
              exact or_doo an ad bd cn cd w h1.1 h1.2 h2.1 h2.2 h4.1 h4.2 h5.1 h5.2 h6.1 h6.2 ht k k1 r1 r2 hd dn dd (V_b vd).1 (V_b vd).2 r3 g1 g2 xn xd ym ye (V_b vx).1 (V_b vx).2 (V_b vy).1 (V_b vy).2 e e' (by rw [c_cmpR vx vy, o, hk]) _ _ _ _ _ _ _ _ i1.1 i1.2 i2.1 i2.2 rfl rfl rfl hm
            · exact or_doh an ad bd cn cd w h1.1 h1.2 h2.1 h2.2 h4.1 h4.2 h5.1 h5.2 h6.1 h6.2 ht k k1 r1 r2 hd dn dd (V_b vd).1 (V_b vd).2 r3 g1 g2 e' xn xd (V_b vx).1 (V_b vx).2 he' e h' _ _ _ _ _ _ _ _ i1.1 i1.2 i2.1 i2.2 rfl rfl rfl hm
          · exact or_dog an ad bd cn cd w h1.1 h1.2 h2.1 h2.2 h4.1 h4.2 h5.1 h5.2 h6.1 h6.2 ht k k1 r1 r2 hd dn dd (V_b vd).1 (V_b vd).2 r3 g1 g2 e _ _ _ (c_addI an bd cn cd).1 (c_addI an bd cn cd).2 he h rfl _ _ _ _ _ _ _ _ i1.1 i1.2 i2.1 i2.2 rfl rfl rfl hm
        · have r3 : subR an ad an bd = (0, 0, 5) := by rw [c_subR va vb]; exact hs
          rcases c_add an ad cn cd with ⟨xn, xd, e, -, vc, vx, hx⟩ | ⟨e, he, h⟩
          · rcases c_add an bd cn cd with ⟨ym, ye, e', -, -, vy, hy⟩ | ⟨e', he', h'⟩
            · obtain ⟨-, -, o⟩ := add_order va vb vc hx hy
              exact or_dno an ad bd cn cd w h1.1 h1.2 h2.1 h2.2 h4.1 h4.2 h5.1 h5.2 h6.1 h6.2 ht k k1 r1 r2 hd 5 rfl r3 xn xd ym ye (V_b vx).1 (V_b vx).2 (V_b vy).1 (V_b vy).2 e e' (by rw [c_cmpR vx vy, o, hk]) _ _ _ _ _ _ _ _ i1.1 i1.2 i2.1 i2.2 rfl rfl rfl hm
            · exact or_dnh an ad bd cn cd w h1.1 h1.2 h2.1 h2.2 h4.1 h4.2 h5.1 h5.2 h6.1 h6.2 ht k k1 r1 r2 hd 5 rfl r3 e' xn xd (V_b vx).1 (V_b vx).2 he' e h' _ _ _ _ _ _ _ _ i1.1 i1.2 i2.1 i2.2 rfl rfl rfl hm
          · exact or_dng an ad bd cn cd w h1.1 h1.2 h2.1 h2.2 h4.1 h4.2 h5.1 h5.2 h6.1 h6.2 ht k k1 r1 r2 hd 5 rfl r3 e _ _ _ (c_addI an bd cn cd).1 (c_addI an bd cn cd).2 he h rfl _ _ _ _ _ _ _ _ i1.1 i1.2 i2.1 i2.2 rfl rfl rfl hm
      · rcases c_mk (x := an * bd + -bn * ad) (VV va vb) with ⟨dn, dd, hs, vd⟩ | hs
        · obtain ⟨-, sd⟩ := sub_sign va vb hs
          obtain ⟨g1, g2⟩ := sg_flags (sd.trans hk)
          have r3 : subR an ad bn bd = (dn, dd, 0) := by rw [c_subR va vb]; exact hs
          rcases c_add an ad cn cd with ⟨xn, xd, e, -, vc, vx, hx⟩ | ⟨e, he, h⟩
          · rcases c_add bn bd cn cd with ⟨ym, ye, e', -, -, vy, hy⟩ | ⟨e', he', h'⟩
            · obtain ⟨-, -, o⟩ := add_order va vb vc hx hy
              exact or_noo an ad bn bd cn cd w h1.1 h1.2 h2.1 h2.2 h3.1 h3.2 h4.1 h4.2 h5.1 h5.2 h6.1 h6.2 ht k k1 r1 r2 hn dn dd (V_b vd).1 (V_b vd).2 r3 g1 g2 xn xd ym ye (V_b vx).1 (V_b vx).2 (V_b vy).1 (V_b vy).2 e e' (by rw [c_cmpR vx vy, o, hk]) _ _ _ _ _ _ _ _ i1.1 i1.2 i2.1 i2.2 rfl rfl rfl hm
            · exact or_noh an ad bn bd cn cd w h1.1 h1.2 h2.1 h2.2 h3.1 h3.2 h4.1 h4.2 h5.1 h5.2 h6.1 h6.2 ht k k1 r1 r2 hn dn dd (V_b vd).1 (V_b vd).2 r3 g1 g2 e' xn xd (V_b vx).1 (V_b vx).2 he' e h' _ _ _ _ _ _ _ _ i1.1 i1.2 i2.1 i2.2 rfl rfl rfl hm
          · exact or_nog an ad bn bd cn cd w h1.1 h1.2 h2.1 h2.2 h3.1 h3.2 h4.1 h4.2 h5.1 h5.2 h6.1 h6.2 ht k k1 r1 r2 hn dn dd (V_b vd).1 (V_b vd).2 r3 g1 g2 e _ _ _ (c_addI bn bd cn cd).1 (c_addI bn bd cn cd).2 he h rfl _ _ _ _ _ _ _ _ i1.1 i1.2 i2.1 i2.2 rfl rfl rfl hm
        · have r3 : subR an ad bn bd = (0, 0, 5) := by rw [c_subR va vb]; exact hs
          rcases c_add an ad cn cd with ⟨xn, xd, e, -, vc, vx, hx⟩ | ⟨e, he, h⟩
          · rcases c_add bn bd cn cd with ⟨ym, ye, e', -, -, vy, hy⟩ | ⟨e', he', h'⟩
            · obtain ⟨-, -, o⟩ := add_order va vb vc hx hy
              exact or_nno an ad bn bd cn cd w h1.1 h1.2 h2.1 h2.2 h3.1 h3.2 h4.1 h4.2 h5.1 h5.2 h6.1 h6.2 ht k k1 r1 r2 hn 5 rfl r3 xn xd ym ye (V_b vx).1 (V_b vx).2 (V_b vy).1 (V_b vy).2 e e' (by rw [c_cmpR vx vy, o, hk]) _ _ _ _ _ _ _ _ i1.1 i1.2 i2.1 i2.2 rfl rfl rfl hm
            · exact or_nnh an ad bn bd cn cd w h1.1 h1.2 h2.1 h2.2 h3.1 h3.2 h4.1 h4.2 h5.1 h5.2 h6.1 h6.2 ht k k1 r1 r2 hn 5 rfl r3 e' xn xd (V_b vx).1 (V_b vx).2 he' e h' _ _ _ _ _ _ _ _ i1.1 i1.2 i2.1 i2.2 rfl rfl rfl hm
          · exact or_nng an ad bn bd cn cd w h1.1 h1.2 h2.1 h2.2 h3.1 h3.2 h4.1 h4.2 h5.1 h5.2 h6.1 h6.2 ht k k1 r1 r2 hn 5 rfl r3 e _ _ _ (c_addI bn bd cn cd).1 (c_addI bn bd cn cd).2 he h rfl _ _ _ _ _ _ _ _ i1.1 i1.2 i2.1 i2.2 rfl rfl rfl hm
  · have r1 : cmpR an ad bn bd = (0, 1) := by unfold cmpR; rw [if_neg ok]
    have r2 : cmpR bn bd an ad = (0, 1) := by unfold cmpR; rw [if_neg (by unfold okB at *; rw [Bool.and_comm]; exact ok)]
    exact or_bad an ad bn bd cn cd w h1.1 h1.2 h2.1 h2.2 h3.1 h3.2 h4.1 h4.2 h5.1 h5.2 h6.1 h6.2 ht r1 r2
end Go.Proofs.YtbbbmlnggehcdaaDoor
