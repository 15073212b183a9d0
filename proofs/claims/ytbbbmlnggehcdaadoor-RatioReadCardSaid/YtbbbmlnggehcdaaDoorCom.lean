/- What the operations answer, case by case: used by the walks of RatioOrder and RatioLaws. -/
import Derived.Test.YtbbbmlnggehcdaaDoorEnv
import Derived.Test.YtbbbmlnggehcdaaDoorQO
namespace Go.Proofs.YtbbbmlnggehcdaaDoor
set_option linter.unusedVariables false

theorem c_okB {an ad bn bd : Int} (va : V an ad) (vb : V bn bd) : okB an ad bn bd = true := by unfold okB; rw [vB_t.2 va, vB_t.2 vb]; rfl
theorem c_addR {an ad bn bd : Int} (va : V an ad) (vb : V bn bd) : addR an ad bn bd = addQ an ad bn bd := by unfold addR; rw [if_pos (c_okB va vb)]
theorem c_mulR {an ad bn bd : Int} (va : V an ad) (vb : V bn bd) : mulR an ad bn bd = mulQ an ad bn bd := by unfold mulR; rw [if_pos (c_okB va vb)]
theorem c_cmpR {an ad bn bd : Int} (va : V an ad) (vb : V bn bd) : cmpR an ad bn bd = (cmpQ an ad bn bd, 0) := by unfold cmpR; rw [if_pos (c_okB va vb)]
theorem c_subR {an ad bn bd : Int} (va : V an ad) (vb : V bn bd) : subR an ad bn bd = addQ an ad (-bn) bd := by
  unfold subR
  obtain ⟨-, -, b1, b2, -⟩ := id vb
  rw [ng_v (by omega) (by omega), c_addR va (V_neg vb)]
theorem c_mk {x q : Int} (hq : 0 < q) : (∃ n d, mk x q = (n, d, 0) ∧ V n d) ∨ mk x q = (0, 0, 5) := by
  rcases mk_spec x q hq with ⟨n, d, h, v, k⟩ | ⟨h, k⟩
  · exact .inl ⟨n, d, h, v⟩
  · exact .inr h
theorem c_add (an ad bn bd : Int) : (∃ n d, addR an ad bn bd = (n, d, 0) ∧ V an ad ∧ V bn bd ∧ V n d ∧ addQ an ad bn bd = (n, d, 0)) ∨ ∃ e, (e == (0 : Int)) = false ∧ addR an ad bn bd = (0, 0, e) := by
  by_cases k : okB an ad bn bd = true
  · obtain ⟨va, vb⟩ := okB_t k
    rw [c_addR va vb]
    rcases c_mk (x := an * bd + bn * ad) (VV va vb) with ⟨n, d, h, v⟩ | h
    · exact .inl ⟨n, d, h, va, vb, v, h⟩
    · exact .inr ⟨5, rfl, h⟩
  · exact .inr ⟨1, rfl, by unfold addR; rw [if_neg k]⟩
theorem c_mul (an ad bn bd : Int) : (∃ n d, mulR an ad bn bd = (n, d, 0) ∧ V an ad ∧ V bn bd ∧ V n d ∧ mulQ an ad bn bd = (n, d, 0)) ∨ ∃ e, (e == (0 : Int)) = false ∧ mulR an ad bn bd = (0, 0, e) := by
  by_cases k : okB an ad bn bd = true
  · obtain ⟨va, vb⟩ := okB_t k
    rw [c_mulR va vb]
    rcases c_mk (x := an * bn) (VV va vb) with ⟨n, d, h, v⟩ | h
    · exact .inl ⟨n, d, h, va, vb, v, h⟩
    · exact .inr ⟨5, rfl, h⟩
  · exact .inr ⟨1, rfl, by unfold mulR; rw [if_neg k]⟩
theorem c_addI (an ad bn bd : Int) : I64 (addR an ad bn bd).1 ∧ I64 (addR an ad bn bd).2.1 := by
  rcases c_add an ad bn bd with ⟨n, d, h, -, -, v, -⟩ | ⟨e, -, h⟩
  · rw [h]; exact V_b v
  · rw [h]; simp only [I64]; omega
theorem c_mulI (an ad bn bd : Int) : I64 (mulR an ad bn bd).1 ∧ I64 (mulR an ad bn bd).2.1 := by
  rcases c_mul an ad bn bd with ⟨n, d, h, -, -, v, -⟩ | ⟨e, -, h⟩
  · rw [h]; exact V_b v
  · rw [h]; simp only [I64]; omega
end Go.Proofs.YtbbbmlnggehcdaaDoor
