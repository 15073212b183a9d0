/- What SpanRules asks, as facts; calls with known results. -/
import Derived.Test.YtplepbaafamjfaaV14
namespace Go.Proofs.Ytplepbaafamjfaa
open Go.ChangeShapes Go.WideShapes Go.ChangeAt Go.RowKit
set_option linter.unusedVariables false
set_option linter.unusedSimpArgs false

theorem ok2_of {al ah bl bh : Int} (va : SV al ah) (vb : SV bl bh) : ok2 al ah bl bh = true := by unfold ok2; rw [sB_t.2 va, sB_t.2 vb]; rfl
theorem addR_eq {al ah bl bh : Int} (va : SV al ah) (vb : SV bl bh) : addR al ah bl bh = addS al ah bl bh := by unfold addR; rw [ok2_of va vb]; rfl
theorem subR_eq {al ah bl bh : Int} (va : SV al ah) (vb : SV bl bh) : subR al ah bl bh = subS al ah bl bh := by unfold subR; rw [ok2_of va vb]; rfl
theorem mulR_eq {al ah bl bh : Int} (va : SV al ah) (vb : SV bl bh) : mulR al ah bl bh = mulS al ah bl bh := by unfold mulR; rw [ok2_of va vb]; rfl
theorem hullR_eq {al ah bl bh : Int} (va : SV al ah) (vb : SV bl bh) : hullR al ah bl bh = (mn al bl, mx ah bh, 0) := by unfold hullR; rw [ok2_of va vb]; rfl
theorem meetR_eq {al ah bl bh : Int} (va : SV al ah) (vb : SV bl bh) : meetR al ah bl bh = if mn ah bh < mx al bl then (0, 0, 12) else (mx al bl, mn ah bh, 0) := by unfold meetR; rw [ok2_of va vb]; rfl

/-- The sum, its error, and what is taken away again. -/
theorem rules_add {al ah bl bh : Int} (va : SV al ah) (vb : SV bl bh) :
    (addR al ah bl bh = (0, 0, 5) ∧ addR bl bh al ah = (0, 0, 5)) ∨
    (∃ s t, addR al ah bl bh = (s, t, 0) ∧ addR bl bh al ah = (s, t, 0) ∧ ((∃ x y, subR s t bl bh = (x, y, 0) ∧ x ≤ al ∧ ah ≤ y) ∨ subR s t bl bh = (0, 0, 5))) := by
  rw [addR_eq va vb, addR_eq vb va, addS_comm bl bh]
  unfold addS
  rcases fitS_cases (al + bl) (ah + bh) with ⟨v, e⟩ | ⟨v, e⟩
  · refine .inr ⟨_, _, e, e, ?_⟩
    rw [subR_eq v vb]
    unfold subS
    obtain ⟨v1, v2, v3⟩ := vb
    rcases fitS_cases (al + bl - bh) (ah + bh - bl) with ⟨u, e'⟩ | ⟨u, e'⟩
    · exact .inl ⟨_, _, e', by omega, by omega⟩
    · exact .inr e'
  · exact .inl ⟨e, e⟩
theorem rules_mul {al ah bl bh : Int} (va : SV al ah) (vb : SV bl bh) : mulR al ah bl bh = mulR bl bh al ah := by
  rw [mulR_eq va vb, mulR_eq vb va, mulS_comm]
theorem rules_hull {al ah bl bh : Int} (va : SV al ah) (vb : SV bl bh) : ∃ u v, hullR al ah bl bh = (u, v, 0) ∧ u ≤ al ∧ ah ≤ v ∧ u ≤ bl ∧ bh ≤ v ∧ (u = al ∨ (¬ u = al ∧ u = bl)) ∧ (v = ah ∨ (¬ v = ah ∧ v = bh)) := by
  have h1 := mn_le al bl
  have h2 := mx_ge ah bh
  exact ⟨_, _, hullR_eq va vb, h1.1, h2.1, h1.2.1, h2.2.1, by omega, by omega⟩
theorem rules_meet {al ah bl bh : Int} (va : SV al ah) (vb : SV bl bh) :
    ((ah < bl ∨ bh < al) ∧ meetR al ah bl bh = (0, 0, 12)) ∨
    (¬ ah < bl ∧ ¬ bh < al ∧ ∃ m n, meetR al ah bl bh = (m, n, 0) ∧ al ≤ m ∧ n ≤ ah ∧ bl ≤ m ∧ n ≤ bh ∧ hullR m n al ah = (al, ah, 0)) := by
  rw [meetR_eq va vb]
  have h1 := mx_ge al bl
  have h2 := mn_le ah bh
  obtain ⟨a1, a2, a3⟩ := va
  obtain ⟨b1, b2, b3⟩ := vb
  by_cases c : mn ah bh < mx al bl
  · rw [if_pos c]
    exact .inl ⟨by omega, rfl⟩
  · rw [if_neg c]
    refine .inr ⟨by omega, by omega, _, _, rfl, by omega, by omega, by omega, by omega, ?_⟩
    rw [hullR_eq (by unfold SV; omega) (by unfold SV; omega)]
    have h3 := mn_le (mx al bl) al
    have h4 := mx_ge (mn ah bh) ah
    rw [show mn (mx al bl) al = al by omega, show mx (mn ah bh) ah = ah by omega]

theorem hRa (al ah bl bh x y z : Int) (h : addR al ah bl bh = (x, y, z)) (W : World) : Calls Try.prog 12 #[.agg #[.int .i64 al, .int .i64 ah], .agg #[.int .i64 bl, .int .i64 bh]] W fun e w' => e = .returned (.tuple #[.agg #[.int .i64 x, .int .i64 y], .int .i64 z]) ∧ Below W.heap.size W w' := by
  have k := sadd_p al ah bl bh W; rw [h] at k; exact k
theorem hRs (al ah bl bh x y z : Int) (h : subR al ah bl bh = (x, y, z)) (W : World) : Calls Try.prog 13 #[.agg #[.int .i64 al, .int .i64 ah], .agg #[.int .i64 bl, .int .i64 bh]] W fun e w' => e = .returned (.tuple #[.agg #[.int .i64 x, .int .i64 y], .int .i64 z]) ∧ Below W.heap.size W w' := by
  have k := ssub_p al ah bl bh W; rw [h] at k; exact k
theorem hRh (al ah bl bh x y z : Int) (h : hullR al ah bl bh = (x, y, z)) (W : World) : Calls Try.prog 14 #[.agg #[.int .i64 al, .int .i64 ah], .agg #[.int .i64 bl, .int .i64 bh]] W fun e w' => e = .returned (.tuple #[.agg #[.int .i64 x, .int .i64 y], .int .i64 z]) ∧ Below W.heap.size W w' := by
  have k := hull_p al ah bl bh W; rw [h] at k; exact k
theorem hRm (al ah bl bh x y z : Int) (h : meetR al ah bl bh = (x, y, z)) (W : World) : Calls Try.prog 15 #[.agg #[.int .i64 al, .int .i64 ah], .agg #[.int .i64 bl, .int .i64 bh]] W fun e w' => e = .returned (.tuple #[.agg #[.int .i64 x, .int .i64 y], .int .i64 z]) ∧ Below W.heap.size W w' := by
  have k := meet_p al ah bl bh W; rw [h] at k; exact k
theorem hRp (al ah bl bh x y z : Int) (h : mulR al ah bl bh = (x, y, z)) (W : World) : Calls Try.prog 23 #[.agg #[.int .i64 al, .int .i64 ah], .agg #[.int .i64 bl, .int .i64 bh]] W fun e w' => e = .returned (.tuple #[.agg #[.int .i64 x, .int .i64 y], .int .i64 z]) ∧ Below W.heap.size W w' := by
  have k := smul_p al ah bl bh W; rw [h] at k; exact k
theorem hRd (al ah bl bh x y z : Int) (h : divR al ah bl bh = (x, y, z)) (W : World) : Calls Try.prog 24 #[.agg #[.int .i64 al, .int .i64 ah], .agg #[.int .i64 bl, .int .i64 bh]] W fun e w' => e = .returned (.tuple #[.agg #[.int .i64 x, .int .i64 y], .int .i64 z]) ∧ Below W.heap.size W w' := by
  have k := sdiv_p al ah bl bh W; rw [h] at k; exact k
theorem hRr (al ah x y z : Int) (h : rootR al ah = (x, y, z)) (W : World) : Calls Try.prog 28 #[.agg #[.int .i64 al, .int .i64 ah]] W fun e w' => e = .returned (.tuple #[.agg #[.int .i64 x, .int .i64 y], .int .i64 z]) ∧ Below W.heap.size W w' := by
  have k := sroot_p al ah W; rw [h] at k; exact k
theorem hRi (al ah bl bh : Int) (b : Bool) (h : insB al ah bl bh = b) (w : World) : Calls Try.prog 41 #[.agg #[.int .i64 al, .int .i64 ah], .agg #[.int .i64 bl, .int .i64 bh]] w fun e w' => e = .returned (.bool b) ∧ Below w.heap.size w w' := by
  subst h; exact inside_any al ah bl bh w
theorem ins_t {al ah bl bh : Int} (h1 : bl ≤ al) (h2 : ah ≤ bh) : insB al ah bl bh = true := by unfold insB; simp [h1, h2]
end Go.Proofs.Ytplepbaafamjfaa
