/- The example: what the contracts say of it. -/
import Derived.Test.YtampfciacjifgaaBr0
namespace Go.Proofs.Ytampfciacjifgaa
set_option linter.unusedSimpArgs false
abbrev xl : List (Nat × Nat) := [(0, 1), (1, 2), (0, 2), (2, 3)]
set_option maxRecDepth 100000 in
theorem ex_brs : (brf xl (adj xl (List.range 4)) 4 4).brs = [3] := by decide
theorem ex_brg : brg xl (adj xl (List.range 4)) 4 = [3] := by
  unfold brg; rw [ex_brs]; simp
theorem ex_nb (xs : List Nat) (v u : Nat) (hv : v < 4) (i : Nat) (hi : i ∈ adj xl xs v) (x : Nat × Nat) (hx : xl[i]? = some x) (ho : oth x v = u) : nbr xl 4 (adj xl xs) v u := ⟨hv, i, hi, x, hx, ho⟩
set_option maxRecDepth 100000 in
theorem ex_sp {f : Nat → Int} (h : Sp (nbr xl 4 (adj xl (List.range 4))) minus1 f 3) : f 0 = 2 ∧ f 1 = 2 ∧ f 2 = 1 ∧ f 3 = 0 := by
  have n32 := ex_nb (List.range 4) 3 2 (by omega) 3 (by decide) _ rfl (by decide)
  have n20 := ex_nb (List.range 4) 2 0 (by omega) 2 (by decide) _ rfl (by decide)
  have n21 := ex_nb (List.range 4) 2 1 (by omega) 1 (by decide) _ rfl (by decide)
  have n01 := ex_nb (List.range 4) 0 1 (by omega) 0 (by decide) _ rfl (by decide)
  have n10 := ex_nb (List.range 4) 1 0 (by omega) 0 (by decide) _ rfl (by decide)
  have par : ∀ v, v < 4 → 0 ≤ f v → v ≠ 3 → ∃ u, u ≠ v ∧ u < 4 ∧ (v = 0 → u ≠ 3) ∧ (v = 1 → u ≠ 3) ∧ 0 ≤ f u ∧ f v = f u + 1 := fun v hv h0 h3 => by
    obtain ⟨u, hu, ⟨hu4, i, hi, x, hx, ho⟩, e⟩ := h.par v (by unfold New minus1; omega) h3
    refine ⟨u, fun e2 => by subst e2; omega, hu4, ?_, ?_, hu.2, e⟩
    · rintro rfl rfl
      rw [show adj xl (List.range 4) 3 = [3] by decide] at hi
      rw [List.mem_singleton] at hi; subst hi
      rw [show xl[3]? = some (2, 3) from rfl] at hx; cases hx
      simp [oth] at ho
    · rintro rfl rfl
      rw [show adj xl (List.range 4) 3 = [3] by decide] at hi
      rw [List.mem_singleton] at hi; subst hi
      rw [show xl[3]? = some (2, 3) from rfl] at hx; cases hx
      simp [oth] at ho
  have s := h.s
  have d3 := h.done 3 (by unfold New minus1; omega) 2 n32
  have d20 := h.done 2 (by unfold New minus1; omega) 0 n20
  have d21 := h.done 2 (by unfold New minus1; omega) 1 n21
  have d01 := h.done 0 (by unfold New minus1; omega) 1 n01
  have d10 := h.done 1 (by unfold New minus1; omega) 0 n10
  obtain ⟨u2, a1, a2, a3, a4, a5, a6⟩ := par 2 (by omega) d3.1 (by omega)
  obtain ⟨u0, b1, b2, b3, b4, b5, b6⟩ := par 0 (by omega) d20.1 (by omega)
  obtain ⟨u1, c1, c2, c3, c4, c5, c6⟩ := par 1 (by omega) d21.1 (by omega)
  have e2 : u2 = 0 ∨ u2 = 1 ∨ u2 = 3 := by omega
  have e0 : u0 = 1 ∨ u0 = 2 := by have := b3 rfl; omega
  have e1 : u1 = 0 ∨ u1 = 2 := by have := c4 rfl; omega
  rcases e2 with rfl | rfl | rfl <;> rcases e0 with rfl | rfl <;> rcases e1 with rfl | rfl <;> omega
theorem ex_gp {f : Nat → Int} (h : Sp (nbr xl 4 (adj xl (List.range 4))) minus1 f 3) : 0 ≤ f 0 ∧ gp xl (adj xl (List.range 4)) f (f 0).toNat 0 = [2, 3] := by
  obtain ⟨f0, f1, f2, f3⟩ := ex_sp h
  refine ⟨by omega, ?_⟩
  rw [f0]
  show gp xl (adj xl (List.range 4)) f 2 0 = [2, 3]
  have a0 : adj xl (List.range 4) 0 = [0, 2] := by decide
  have a2 : adj xl (List.range 4) 2 = [1, 2, 3] := by decide
  have g0 : xl[0]? = some (0, 1) := rfl
  have g1 : xl[1]? = some (1, 2) := rfl
  have g2 : xl[2]? = some (0, 2) := rfl
  have g3 : xl[3]? = some (2, 3) := rfl
  simp [gp, a0, a2, List.find?, nr, g0, g1, g2, g3, oth, f0, f1, f2, f3]
set_option maxRecDepth 100000 in
theorem ex_in : inF xl 4 = [0, 1, 3] := by decide
set_option maxRecDepth 100000 in
theorem ex_out : outF xl 4 = [2] := by decide
theorem ex_cyc {f : Nat → Int} {ro : Nat → Nat} (h : Fo (nbr xl 4 (adj xl (inF xl xl.length))) 4 4 f ro) : (outF xl xl.length).map (cyc xl f) = [[2, 1, 0]] := by
  have e : inF xl xl.length = [0, 1, 3] := ex_in
  have e2 : outF xl xl.length = [2] := ex_out
  rw [e] at h
  have A0 : adj xl [0, 1, 3] 0 = [0] := by decide
  have A1 : adj xl [0, 1, 3] 1 = [0, 1] := by decide
  have A2 : adj xl [0, 1, 3] 2 = [1, 3] := by decide
  have A3 : adj xl [0, 1, 3] 3 = [3] := by decide
  have n01 := ex_nb [0, 1, 3] 0 1 (by omega) 0 (by decide) _ rfl (by decide)
  have n10 := ex_nb [0, 1, 3] 1 0 (by omega) 0 (by decide) _ rfl (by decide)
  have n12 := ex_nb [0, 1, 3] 1 2 (by omega) 1 (by decide) _ rfl (by decide)
  have n21 := ex_nb [0, 1, 3] 2 1 (by omega) 1 (by decide) _ rfl (by decide)
  have n23 := ex_nb [0, 1, 3] 2 3 (by omega) 3 (by decide) _ rfl (by decide)
  have n32 := ex_nb [0, 1, 3] 3 2 (by omega) 3 (by decide) _ rfl (by decide)
  have p0 := h.all 0 (by omega)
  have p1 := h.all 1 (by omega)
  have p2 := h.all 2 (by omega)
  have p3 := h.all 3 (by omega)
  have c01 := h.cl 0 p0 1 n01
  have c10 := h.cl 1 p1 0 n10
  have c12 := h.cl 1 p1 2 n12
  have c21 := h.cl 2 p2 1 n21
  have c23 := h.cl 2 p2 3 n23
  have c32 := h.cl 3 p3 2 n32
  have r01 := h.rn 0 p0 1 n01
  have r12 := h.rn 1 p1 2 n12
  have r23 := h.rn 2 p2 3 n23
  have z0 := h.rz 0
  have z1 := h.rz 1
  have z2 := h.rz 2
  have z3 := h.rz 3
  have g0 : xl[0]? = some (0, 1) := rfl
  have g1 : xl[1]? = some (1, 2) := rfl
  have g2 : xl[2]? = some (0, 2) := rfl
  have g3 : xl[3]? = some (2, 3) := rfl
  have par : ∀ v, 0 ≤ f v → f v ≠ 0 → (v = 0 → f 0 = f 1 + 1) ∧ (v = 1 → f 1 = f 0 + 1 ∨ f 1 = f 2 + 1) ∧ (v = 2 → f 2 = f 1 + 1 ∨ f 2 = f 3 + 1) ∧ (v = 3 → f 3 = f 2 + 1) := fun v h0 h1 => by
    obtain ⟨u, hu, ⟨hu4, i, hi, x, hx, ho⟩, e⟩ := h.par v h0 h1
    have : u = 0 ∨ u = 1 ∨ u = 2 ∨ u = 3 := by omega
    rcases this with rfl | rfl | rfl | rfl
    · rw [A0] at hi; simp at hi; subst hi; rw [g0] at hx; cases hx; simp [oth] at ho; subst ho; simp [e]
    · rw [A1] at hi; simp at hi
      rcases hi with rfl | rfl
      · rw [g0] at hx; cases hx; simp [oth] at ho; subst ho; simp [e]
      · rw [g1] at hx; cases hx; simp [oth] at ho; subst ho; simp [e]
    · rw [A2] at hi; simp at hi
      rcases hi with rfl | rfl
      · rw [g1] at hx; cases hx; simp [oth] at ho; subst ho; simp [e]
      · rw [g3] at hx; cases hx; simp [oth] at ho; subst ho; simp [e]
    · rw [A3] at hi; simp at hi; subst hi; rw [g3] at hx; cases hx; simp [oth] at ho; subst ho; simp [e]
  have q0 : f 0 = 0 ∨ f 0 = f 1 + 1 := by by_cases k : f 0 = 0; exact .inl k; exact .inr ((par 0 p0 k).1 rfl)
  have q1 : f 1 = 0 ∨ f 1 = f 0 + 1 ∨ f 1 = f 2 + 1 := by by_cases k : f 1 = 0; exact .inl k; exact .inr ((par 1 p1 k).2.1 rfl)
  have q2 : f 2 = 0 ∨ f 2 = f 1 + 1 ∨ f 2 = f 3 + 1 := by by_cases k : f 2 = 0; exact .inl k; exact .inr ((par 2 p2 k).2.2.1 rfl)
  have q3 : f 3 = 0 ∨ f 3 = f 2 + 1 := by by_cases k : f 3 = 0; exact .inl k; exact .inr ((par 3 p3 k).2.2.2 rfl)
  clear par
  have all : (f 0 = 0 ∧ f 1 = 1 ∧ f 2 = 2 ∧ f 3 = 3) ∨ (f 0 = 1 ∧ f 1 = 0 ∧ f 2 = 1 ∧ f 3 = 2) ∨ (f 0 = 2 ∧ f 1 = 1 ∧ f 2 = 0 ∧ f 3 = 1) ∨ (f 0 = 3 ∧ f 1 = 2 ∧ f 2 = 1 ∧ f 3 = 0) := by
    by_cases k0 : f 0 = 0
    · have := z0 k0
      have k1 : f 1 ≠ 0 := fun k => by have := z1 k; omega
      have k2 : f 2 ≠ 0 := fun k => by have := z2 k; omega
      have k3 : f 3 ≠ 0 := fun k => by have := z3 k; omega
      omega
    · by_cases k1 : f 1 = 0
      · have := z1 k1
        have k2 : f 2 ≠ 0 := fun k => by have := z2 k; omega
        have k3 : f 3 ≠ 0 := fun k => by have := z3 k; omega
        omega
      · by_cases k2 : f 2 = 0
        · have := z2 k2
          have k3 : f 3 ≠ 0 := fun k => by have := z3 k; omega
          omega
        · omega
  rw [e2]
  unfold cyc
  rw [e]
  rcases all with ⟨k0, k1, k2, k3⟩ | ⟨k0, k1, k2, k3⟩ | ⟨k0, k1, k2, k3⟩ | ⟨k0, k1, k2, k3⟩ <;> simp [wk, A0, A1, A2, A3, List.find?, nr, nx, g0, g1, g2, g3, oth, k0, k1, k2, k3]
end Go.Proofs.Ytampfciacjifgaa
