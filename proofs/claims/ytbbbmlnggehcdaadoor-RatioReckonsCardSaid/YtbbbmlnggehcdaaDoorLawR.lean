/- RatioReckons returns true: the walks, put together. -/
import Derived.Test.YtbbbmlnggehcdaaDoorLawRa
import Derived.Test.YtbbbmlnggehcdaaDoorRs3
namespace Go.Proofs.YtbbbmlnggehcdaaDoor
open Go.ChangeShapes Go.WideShapes Go.ChangeAt Go.RowKit
set_option linter.unusedVariables false

theorem V_ng {n d : Int} (h : I64 n) (v : V (ng n) d) : V n d := by
  by_cases c : n = -9223372036854775808
  · subst c
    have : ng (-9223372036854775808) = -9223372036854775808 := by unfold ng; rw [IntKind.wrap_i64]; omega
    rw [this] at v; obtain ⟨_, _, _, _, _⟩ := v; omega
  · rw [ng_v (by unfold I64 at h; omega) h.2] at v
    have := V_neg v
    rwa [Int.neg_neg] at this
theorem reckons_walk (an ad bn bd : Int) (w : World) (h1 : I64 an) (h2 : I64 ad) (h3 : I64 bn) (h4 : I64 bd) (ht : Tab w) :
    Calls Tryd.prog 4 #[.agg #[.int .i64 an, .int .i64 ad], .agg #[.int .i64 bn, .int .i64 bd]] w (Yes w) := by
  have h : All4 an ad bn bd := ⟨h1, h2, h3, h4⟩
  by_cases hk : okB an ad bn bd = true
  · obtain ⟨va, vb⟩ := okB_t hk
    have RC : cmpR an ad bn bd = (cmpQ an ad bn bd, 0) := by unfold cmpR; rw [if_pos hk]
    exact reckons_ok an ad bn bd _ _ _ _ _ _ _ _ _ _ _ _ _ w h ht (vB_t.2 va) (vB_t.2 vb) (by simp only [Prod.eta]) (by simp only [Prod.eta]) (by simp only [Prod.eta]) (by simp only [Prod.eta]) RC
      (fun W => radd_ok an ad bn bd W va vb (x := (addR an ad bn bd).1) (q := (addR an ad bn bd).2.1) (e0 := (addR an ad bn bd).2.2) (by rw [c_addR va vb]))
      (fun W => rsub_ok an ad bn bd W va vb (x := (subR an ad bn bd).1) (q := (subR an ad bn bd).2.1) (e0 := (subR an ad bn bd).2.2) (by rw [c_subR va vb]))
      (fun W => rtimes_ok an ad bn bd W va vb (x := (mulR an ad bn bd).1) (q := (mulR an ad bn bd).2.1) (e0 := (mulR an ad bn bd).2.2) (by rw [c_mulR va vb]))
      (fun W => rover_ok an ad bn bd W va vb (x := (divR an ad bn bd).1) (q := (divR an ad bn bd).2.1) (e0 := (divR an ad bn bd).2.2) (by unfold divR; rw [if_pos hk]))
      (fun W => rcmp_ok an ad bn bd W va vb)
  · have hs : ¬ okB an ad (ng bn) bd = true := fun k => hk (c_okB (okB_t k).1 (V_ng h3 (okB_t k).2))
    have RA : addR an ad bn bd = (0, 0, 1) := by unfold addR; rw [if_neg hk]
    have RS : subR an ad bn bd = (0, 0, 1) := by unfold subR addR; rw [if_neg hs]
    have RM : mulR an ad bn bd = (0, 0, 1) := by unfold mulR; rw [if_neg hk]
    have RD : divR an ad bn bd = (0, 0, 1) := by unfold divR; rw [if_neg hk]
    have RC : cmpR an ad bn bd = (0, 1) := by unfold cmpR; rw [if_neg hk]
    cases ha : vB an ad
    · exact reckons_bada an ad bn bd w h ht ha RA RS RM RD RC
    · exact reckons_badb an ad bn bd w h ht ha (okB_f hk ha) RA RS RM RD RC
end Go.Proofs.YtbbbmlnggehcdaaDoor
