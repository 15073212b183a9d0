/- RatioLaws returns true: the walks, put together. -/
import Derived.Test.YtbbbmlnggehcdaaDoorCom
import Derived.Test.YtbbbmlnggehcdaaDoorLaA
import Derived.Test.YtbbbmlnggehcdaaDoorLaB
import Derived.Test.YtbbbmlnggehcdaaDoorLaC
import Derived.Test.YtbbbmlnggehcdaaDoorLaD
import Derived.Test.YtbbbmlnggehcdaaDoorLaE
namespace Go.Proofs.YtbbbmlnggehcdaaDoor
open Go.ChangeShapes Go.WideShapes Go.ChangeAt Go.RowKit Go.Shelf
set_option linter.unusedVariables false

theorem laws_walk (an ad bn bd cn cd : Int) (w : World) (h1 : I64 an) (h2 : I64 ad) (h3 : I64 bn) (h4 : I64 bd) (h5 : I64 cn) (h6 : I64 cd) (ht : Tab w) :
    Calls Tryd.prog 7 #[.agg #[.int .i64 an, .int .i64 ad], .agg #[.int .i64 bn, .int .i64 bd], .agg #[.int .i64 cn, .int .i64 cd]] w (Yes w) := by
  have z0 : I64 0 := by unfold I64; omega
  rcases c_add an ad bn bd with ⟨n1, d1, RAB, va, vb, v1, hab⟩ | ⟨e1, he1, RAB⟩
  · rcases c_add bn bd cn cd with ⟨n2, d2, RBC, -, vc, v2, hbc⟩ | ⟨f1, hf1, RBC⟩
    · rcases c_mul an ad bn bd with ⟨pn, pd, RP, vpa, vpb, vp, hp⟩ | ⟨e2, he2, RP⟩
      · rcases c_mul bn bd cn cd with ⟨qn, qd, RQ, -, vqc, vq, hq⟩ | ⟨f2, hf2, RQ⟩
        · rcases c_mul an ad cn cd with ⟨rn, rd, RR, -, vrc, vr, hrr⟩ | ⟨g2, hg2, RR⟩
          · obtain ⟨-, -, ea⟩ := add_assoc' va vb vc hab hbc
            obtain ⟨-, -, em⟩ := mul_assoc' vpa vpb vqc hp hq
            obtain ⟨-, -, -, ed⟩ := distr vpa vpb vrc hp hrr hbc
            exact la_oo_oo_o an ad bn bd cn cd w h1.1 h1.2 h2.1 h2.2 h3.1 h3.2 h4.1 h4.2 h5.1 h5.2 h6.1 h6.2 ht n1 d1 n2 d2 pn pd qn qd rn rd (addR pn pd rn rd).1 (addR pn pd rn rd).2.1 (addR pn pd rn rd).2.2 0 0 0 0 0 (V_b v1).1 (V_b v1).2 (V_b v2).1 (V_b v2).2 (V_b vp).1 (V_b vp).2 (V_b vq).1 (V_b vq).2 (V_b vr).1 (V_b vr).2 RAB RBC RP RQ RR rfl (addR n1 d1 cn cd).1 (addR n1 d1 cn cd).2.1 (addR n1 d1 cn cd).2.2 rfl (by rw [c_addR va v2, ← ea, ← c_addR v1 vc]) (mulR pn pd cn cd).1 (mulR pn pd cn cd).2.1 (mulR pn pd cn cd).2.2 rfl (by rw [c_mulR vpa vq, ← em, ← c_mulR vp vqc]) (by rw [c_mulR vpa v2, ed, ← c_addR vp vr])
          · obtain ⟨-, -, ea⟩ := add_assoc' va vb vc hab hbc
            obtain ⟨-, -, em⟩ := mul_assoc' vpa vpb vqc hp hq
            exact la_oo_oo_x an ad bn bd cn cd w h1.1 h1.2 h2.1 h2.2 h3.1 h3.2 h4.1 h4.2 h5.1 h5.2 h6.1 h6.2 ht n1 d1 n2 d2 pn pd qn qd 0 0 (addR pn pd 0 0).1 (addR pn pd 0 0).2.1 (addR pn pd 0 0).2.2 0 0 0 0 g2 (V_b v1).1 (V_b v1).2 (V_b v2).1 (V_b v2).2 (V_b vp).1 (V_b vp).2 (V_b vq).1 (V_b vq).2 z0 z0 RAB RBC RP RQ RR rfl hg2 (addR n1 d1 cn cd).1 (addR n1 d1 cn cd).2.1 (addR n1 d1 cn cd).2.2 rfl (by rw [c_addR va v2, ← ea, ← c_addR v1 vc]) (mulR pn pd cn cd).1 (mulR pn pd cn cd).2.1 (mulR pn pd cn cd).2.2 rfl (by rw [c_mulR vpa vq, ← em, ← c_mulR vp vqc])
        · rcases c_mul an ad cn cd with ⟨rn, rd, RR, -, vrc, vr, hrr⟩ | ⟨g2, hg2, RR⟩
          · obtain ⟨-, -, ea⟩ := add_assoc' va vb vc hab hbc
            obtain ⟨-, -, -, ed⟩ := distr vpa vpb vrc hp hrr hbc
            exact la_oo_ox_o an ad bn bd cn cd w h1.1 h1.2 h2.1 h2.2 h3.1 h3.2 h4.1 h4.2 h5.1 h5.2 h6.1 h6.2 ht n1 d1 n2 d2 pn pd 0 0 rn rd (addR pn pd rn rd).1 (addR pn pd rn rd).2.1 (addR pn pd rn rd).2.2 0 0 0 f2 0 (V_b v1).1 (V_b v1).2 (V_b v2).1 (V_b v2).2 (V_b vp).1 (V_b vp).2 z0 z0 (V_b vr).1 (V_b vr).2 RAB RBC RP RQ RR rfl hf2 (addR n1 d1 cn cd).1 (addR n1 d1 cn cd).2.1 (addR n1 d1 cn cd).2.2 rfl (by rw [c_addR va v2, ← ea, ← c_addR v1 vc]) (by rw [c_mulR vpa v2, ed, ← c_addR vp vr])
          · obtain ⟨-, -, ea⟩ := add_assoc' va vb vc hab hbc
            exact la_oo_ox_x an ad bn bd cn cd w h1.1 h1.2 h2.1 h2.2 h3.1 h3.2 h4.1 h4.2 h5.1 h5.2 h6.1 h6.2 ht n1 d1 n2 d2 pn pd 0 0 0 0 (addR pn pd 0 0).1 (addR pn pd 0 0).2.1 (addR pn pd 0 0).2.2 0 0 0 f2 g2 (V_b v1).1 (V_b v1).2 (V_b v2).1 (V_b v2).2 (V_b vp).1 (V_b vp).2 z0 z0 z0 z0 RAB RBC RP RQ RR rfl hf2 hg2 (addR n1 d1 cn cd).1 (addR n1 d1 cn cd).2.1 (addR n1 d1 cn cd).2.2 rfl (by rw [c_addR va v2, ← ea, ← c_addR v1 vc])
      · obtain ⟨-, -, ea⟩ := add_assoc' va vb vc hab hbc
        exact la_oo_x an ad bn bd cn cd w h1.1 h1.2 h2.1 h2.2 h3.1 h3.2 h4.1 h4.2 h5.1 h5.2 h6.1 h6.2 ht n1 d1 n2 d2 0 0 (mulR bn bd cn cd).1 (mulR bn bd cn cd).2.1 (mulR an ad cn cd).1 (mulR an ad cn cd).2.1 (addR 0 0 (mulR an ad cn cd).1 (mulR an ad cn cd).2.1).1 (addR 0 0 (mulR an ad cn cd).1 (mulR an ad cn cd).2.1).2.1 (addR 0 0 (mulR an ad cn cd).1 (mulR an ad cn cd).2.1).2.2 0 0 e2 (mulR bn bd cn cd).2.2 (mulR an ad cn cd).2.2 (V_b v1).1 (V_b v1).2 (V_b v2).1 (V_b v2).2 z0 z0 (c_mulI _ _ _ _).1 (c_mulI _ _ _ _).2 (c_mulI _ _ _ _).1 (c_mulI _ _ _ _).2 RAB RBC RP rfl rfl rfl he2 (addR n1 d1 cn cd).1 (addR n1 d1 cn cd).2.1 (addR n1 d1 cn cd).2.2 rfl (by rw [c_addR va v2, ← ea, ← c_addR v1 vc])
    · rcases c_mul an ad bn bd with ⟨pn, pd, RP, vpa, vpb, vp, hp⟩ | ⟨e2, he2, RP⟩
      · rcases c_mul bn bd cn cd with ⟨qn, qd, RQ, -, vqc, vq, hq⟩ | ⟨f2, hf2, RQ⟩
        · obtain ⟨-, -, em⟩ := mul_assoc' vpa vpb vqc hp hq
          exact la_ox_oo an ad bn bd cn cd w h1.1 h1.2 h2.1 h2.2 h3.1 h3.2 h4.1 h4.2 h5.1 h5.2 h6.1 h6.2 ht n1 d1 0 0 pn pd qn qd (mulR an ad cn cd).1 (mulR an ad cn cd).2.1 (addR pn pd (mulR an ad cn cd).1 (mulR an ad cn cd).2.1).1 (addR pn pd (mulR an ad cn cd).1 (mulR an ad cn cd).2.1).2.1 (addR pn pd (mulR an ad cn cd).1 (mulR an ad cn cd).2.1).2.2 0 f1 0 0 (mulR an ad cn cd).2.2 (V_b v1).1 (V_b v1).2 z0 z0 (V_b vp).1 (V_b vp).2 (V_b vq).1 (V_b vq).2 (c_mulI _ _ _ _).1 (c_mulI _ _ _ _).2 RAB RBC RP RQ rfl rfl hf1 (mulR pn pd cn cd).1 (mulR pn pd cn cd).2.1 (mulR pn pd cn cd).2.2 rfl (by rw [c_mulR vpa vq, ← em, ← c_mulR vp vqc])
        · exact la_ox_ox an ad bn bd cn cd w h1.1 h1.2 h2.1 h2.2 h3.1 h3.2 h4.1 h4.2 h5.1 h5.2 h6.1 h6.2 ht n1 d1 0 0 pn pd 0 0 (mulR an ad cn cd).1 (mulR an ad cn cd).2.1 (addR pn pd (mulR an ad cn cd).1 (mulR an ad cn cd).2.1).1 (addR pn pd (mulR an ad cn cd).1 (mulR an ad cn cd).2.1).2.1 (addR pn pd (mulR an ad cn cd).1 (mulR an ad cn cd).2.1).2.2 0 f1 0 f2 (mulR an ad cn cd).2.2 (V_b v1).1 (V_b v1).2 z0 z0 (V_b vp).1 (V_b vp).2 z0 z0 (c_mulI _ _ _ _).1 (c_mulI _ _ _ _).2 RAB RBC RP RQ rfl rfl hf1 hf2
      · exact la_ox_x an ad bn bd cn cd w h1.1 h1.2 h2.1 h2.2 h3.1 h3.2 h4.1 h4.2 h5.1 h5.2 h6.1 h6.2 ht n1 d1 0 0 0 0 (mulR bn bd cn cd).1 (mulR bn bd cn cd).2.1 (mulR an ad cn cd).1 (mulR an ad cn cd).2.1 (addR 0 0 (mulR an ad cn cd).1 (mulR an ad cn cd).2.1).1 (addR 0 0 (mulR an ad cn cd).1 (mulR an ad cn cd).2.1).2.1 (addR 0 0 (mulR an ad cn cd).1 (mulR an ad cn cd).2.1).2.2 0 f1 e2 (mulR bn bd cn cd).2.2 (mulR an ad cn cd).2.2 (V_b v1).1 (V_b v1).2 z0 z0 z0 z0 (c_mulI _ _ _ _).1 (c_mulI _ _ _ _).2 (c_mulI _ _ _ _).1 (c_mulI _ _ _ _).2 RAB RBC RP rfl rfl rfl hf1 he2
  · rcases c_add bn bd cn cd with ⟨n2, d2, RBC, vb, vc, v2, hbc⟩ | ⟨f1, hf1, RBC⟩
    · rcases c_mul an ad bn bd with ⟨pn, pd, RP, vpa, vpb, vp, hp⟩ | ⟨e2, he2, RP⟩
      · rcases c_mul bn bd cn cd with ⟨qn, qd, RQ, -, vqc, vq, hq⟩ | ⟨f2, hf2, RQ⟩
        · rcases c_mul an ad cn cd with ⟨rn, rd, RR, -, vrc, vr, hrr⟩ | ⟨g2, hg2, RR⟩
          · obtain ⟨-, -, em⟩ := mul_assoc' vpa vpb vqc hp hq
            obtain ⟨-, -, -, ed⟩ := distr vpa vpb vrc hp hrr hbc
            exact la_x0_oo_o an ad bn bd cn cd w h1.1 h1.2 h2.1 h2.2 h3.1 h3.2 h4.1 h4.2 h5.1 h5.2 h6.1 h6.2 ht 0 0 n2 d2 pn pd qn qd rn rd (addR pn pd rn rd).1 (addR pn pd rn rd).2.1 (addR pn pd rn rd).2.2 e1 0 0 0 0 z0 z0 (V_b v2).1 (V_b v2).2 (V_b vp).1 (V_b vp).2 (V_b vq).1 (V_b vq).2 (V_b vr).1 (V_b vr).2 RAB RBC RP RQ RR rfl he1 (mulR pn pd cn cd).1 (mulR pn pd cn cd).2.1 (mulR pn pd cn cd).2.2 rfl (by rw [c_mulR vpa vq, ← em, ← c_mulR vp vqc]) (by rw [c_mulR vpa v2, ed, ← c_addR vp vr])
          · obtain ⟨-, -, em⟩ := mul_assoc' vpa vpb vqc hp hq
            exact la_x0_oo_x an ad bn bd cn cd w h1.1 h1.2 h2.1 h2.2 h3.1 h3.2 h4.1 h4.2 h5.1 h5.2 h6.1 h6.2 ht 0 0 n2 d2 pn pd qn qd 0 0 (addR pn pd 0 0).1 (addR pn pd 0 0).2.1 (addR pn pd 0 0).2.2 e1 0 0 0 g2 z0 z0 (V_b v2).1 (V_b v2).2 (V_b vp).1 (V_b vp).2 (V_b vq).1 (V_b vq).2 z0 z0 RAB RBC RP RQ RR rfl he1 hg2 (mulR pn pd cn cd).1 (mulR pn pd cn cd).2.1 (mulR pn pd cn cd).2.2 rfl (by rw [c_mulR vpa vq, ← em, ← c_mulR vp vqc])
        · rcases c_mul an ad cn cd with ⟨rn, rd, RR, -, vrc, vr, hrr⟩ | ⟨g2, hg2, RR⟩
          · obtain ⟨-, -, -, ed⟩ := distr vpa vpb vrc hp hrr hbc
            exact la_x0_ox_o an ad bn bd cn cd w h1.1 h1.2 h2.1 h2.2 h3.1 h3.2 h4.1 h4.2 h5.1 h5.2 h6.1 h6.2 ht 0 0 n2 d2 pn pd 0 0 rn rd (addR pn pd rn rd).1 (addR pn pd rn rd).2.1 (addR pn pd rn rd).2.2 e1 0 0 f2 0 z0 z0 (V_b v2).1 (V_b v2).2 (V_b vp).1 (V_b vp).2 z0 z0 (V_b vr).1 (V_b vr).2 RAB RBC RP RQ RR rfl he1 hf2 (by rw [c_mulR vpa v2, ed, ← c_addR vp vr])
          · exact la_x0_ox_x an ad bn bd cn cd w h1.1 h1.2 h2.1 h2.2 h3.1 h3.2 h4.1 h4.2 h5.1 h5.2 h6.1 h6.2 ht 0 0 n2 d2 pn pd 0 0 0 0 (addR pn pd 0 0).1 (addR pn pd 0 0).2.1 (addR pn pd 0 0).2.2 e1 0 0 f2 g2 z0 z0 (V_b v2).1 (V_b v2).2 (V_b vp).1 (V_b vp).2 z0 z0 z0 z0 RAB RBC RP RQ RR rfl he1 hf2 hg2
      · exact la_x0_x an ad bn bd cn cd w h1.1 h1.2 h2.1 h2.2 h3.1 h3.2 h4.1 h4.2 h5.1 h5.2 h6.1 h6.2 ht 0 0 n2 d2 0 0 (mulR bn bd cn cd).1 (mulR bn bd cn cd).2.1 (mulR an ad cn cd).1 (mulR an ad cn cd).2.1 (addR 0 0 (mulR an ad cn cd).1 (mulR an ad cn cd).2.1).1 (addR 0 0 (mulR an ad cn cd).1 (mulR an ad cn cd).2.1).2.1 (addR 0 0 (mulR an ad cn cd).1 (mulR an ad cn cd).2.1).2.2 e1 0 e2 (mulR bn bd cn cd).2.2 (mulR an ad cn cd).2.2 z0 z0 (V_b v2).1 (V_b v2).2 z0 z0 (c_mulI _ _ _ _).1 (c_mulI _ _ _ _).2 (c_mulI _ _ _ _).1 (c_mulI _ _ _ _).2 RAB RBC RP rfl rfl rfl he1 he2
    · rcases c_mul an ad bn bd with ⟨pn, pd, RP, vpa, vpb, vp, hp⟩ | ⟨e2, he2, RP⟩
      · rcases c_mul bn bd cn cd with ⟨qn, qd, RQ, -, vqc, vq, hq⟩ | ⟨f2, hf2, RQ⟩
        · obtain ⟨-, -, em⟩ := mul_assoc' vpa vpb vqc hp hq
          exact la_xx_oo an ad bn bd cn cd w h1.1 h1.2 h2.1 h2.2 h3.1 h3.2 h4.1 h4.2 h5.1 h5.2 h6.1 h6.2 ht 0 0 0 0 pn pd qn qd (mulR an ad cn cd).1 (mulR an ad cn cd).2.1 (addR pn pd (mulR an ad cn cd).1 (mulR an ad cn cd).2.1).1 (addR pn pd (mulR an ad cn cd).1 (mulR an ad cn cd).2.1).2.1 (addR pn pd (mulR an ad cn cd).1 (mulR an ad cn cd).2.1).2.2 e1 f1 0 0 (mulR an ad cn cd).2.2 z0 z0 z0 z0 (V_b vp).1 (V_b vp).2 (V_b vq).1 (V_b vq).2 (c_mulI _ _ _ _).1 (c_mulI _ _ _ _).2 RAB RBC RP RQ rfl rfl he1 hf1 (mulR pn pd cn cd).1 (mulR pn pd cn cd).2.1 (mulR pn pd cn cd).2.2 rfl (by rw [c_mulR vpa vq, ← em, ← c_mulR vp vqc])
        · exact la_xx_ox an ad bn bd cn cd w h1.1 h1.2 h2.1 h2.2 h3.1 h3.2 h4.1 h4.2 h5.1 h5.2 h6.1 h6.2 ht 0 0 0 0 pn pd 0 0 (mulR an ad cn cd).1 (mulR an ad cn cd).2.1 (addR pn pd (mulR an ad cn cd).1 (mulR an ad cn cd).2.1).1 (addR pn pd (mulR an ad cn cd).1 (mulR an ad cn cd).2.1).2.1 (addR pn pd (mulR an ad cn cd).1 (mulR an ad cn cd).2.1).2.2 e1 f1 0 f2 (mulR an ad cn cd).2.2 z0 z0 z0 z0 (V_b vp).1 (V_b vp).2 z0 z0 (c_mulI _ _ _ _).1 (c_mulI _ _ _ _).2 RAB RBC RP RQ rfl rfl he1 hf1 hf2
      · exact la_xx_x an ad bn bd cn cd w h1.1 h1.2 h2.1 h2.2 h3.1 h3.2 h4.1 h4.2 h5.1 h5.2 h6.1 h6.2 ht 0 0 0 0 0 0 (mulR bn bd cn cd).1 (mulR bn bd cn cd).2.1 (mulR an ad cn cd).1 (mulR an ad cn cd).2.1 (addR 0 0 (mulR an ad cn cd).1 (mulR an ad cn cd).2.1).1 (addR 0 0 (mulR an ad cn cd).1 (mulR an ad cn cd).2.1).2.1 (addR 0 0 (mulR an ad cn cd).1 (mulR an ad cn cd).2.1).2.2 e1 f1 e2 (mulR bn bd cn cd).2.2 (mulR an ad cn cd).2.2 z0 z0 z0 z0 z0 z0 (c_mulI _ _ _ _).1 (c_mulI _ _ _ _).2 (c_mulI _ _ _ _).1 (c_mulI _ _ _ _).2 RAB RBC RP rfl rfl rfl he1 hf1 he2
end Go.Proofs.YtbbbmlnggehcdaaDoor
