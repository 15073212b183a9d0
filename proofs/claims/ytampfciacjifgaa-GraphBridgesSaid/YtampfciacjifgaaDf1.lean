/- The search in depth finds the bridges. -/
import Derived.Test.YtampfciacjifgaaDf0
namespace Go.Proofs.Ytampfciacjifgaa
set_option linter.unusedVariables false
set_option linter.unusedSimpArgs false

def Vi (s : St) (v : Nat) : Prop := s.fst v ≠ 0
def Nw (s t : St) (v : Nat) : Prop := s.fst v = 0 ∧ t.fst v ≠ 0
/-- All neighbours were visited. -/
def Clo (l : List (Nat × Nat)) (s : St) (w : Nat) : Prop := ∀ j, Ic l j w → Vi s (nx l j w)
/-- Edges both of whose ends were visited; were visited between. -/
def Ev (l : List (Nat × Nat)) (s : St) (j : Nat) : Prop := ∀ u, Ic l j u → Vi s u
def En (l : List (Nat × Nat)) (s t : St) (j : Nat) : Prop := ∀ u, Ic l j u → Nw s t u

/-- What a visit asks. -/
structure Pr (l : List (Nat × Nat)) (s : St) (node bye : Nat) : Prop where
  z : s.fst node = 0
  nums : ∀ v, s.fst v ≤ s.vis
  by_ : (Ic l bye node ∧ Vi s (nx l bye node) ∧ ∀ w, Vi s w → Clo l s w ∨ (Ce l (Ev l s) w (nx l bye node) ∧ s.fst w ≤ s.fst (nx l bye node))) ∨ ((∀ v, ¬ Ic l bye v) ∧ ∀ w, Vi s w → Clo l s w)
/-- What is so within a visit, behind the first edges. -/
structure Fp (l : List (Nat × Nat)) (s : St) (node bye : Nat) (xs : List Nat) (t : St) (r : Nat) : Prop where
  f : t.fst node = s.vis + 1
  gd : ∀ v, Vi s v → t.fst v = s.fst v
  num : ∀ v, Nw s t v → s.vis < t.fst v
  top : ∀ v, t.fst v ≤ t.vis
  vis : s.vis < t.vis
  cloD : ∀ v, Nw s t v → v ≠ node → Clo l t v
  cloN : ∀ j ∈ xs, Vi t (nx l j node)
  con : ∀ v, Nw s t v → v ≠ node → ∃ i ∈ xs, i ≠ bye ∧ Ce l (fun j => En l s t j ∧ (j = i ∨ ¬ Ic l j node)) v node
  low1 : r ≤ s.vis + 1
  lowD : ∀ v, Nw s t v → v ≠ node → ∀ j, Ic l j v → r ≤ t.fst (nx l j v)
  lowN : ∀ j ∈ xs, j ≠ bye → r ≤ t.fst (nx l j node)
  lowa : r = s.vis + 1 ∨ ∃ v j, Nw s t v ∧ Ic l j v ∧ j ≠ bye ∧ Vi t (nx l j v) ∧ t.fst (nx l j v) = r
  brs : ∃ new, t.brs = s.brs ++ new ∧ (∀ i ∈ new, Brd l i ∧ (∃ u, Ic l i u) ∧ En l s t i) ∧ new.Nodup
  allD : ∀ v, Nw s t v → v ≠ node → ∀ j, Ic l j v → Brd l j → j ∈ t.brs
  allN : ∀ j ∈ xs, j ≠ bye → Brd l j → j ∈ t.brs
/-- What a visit leaves. -/
structure Vp (l : List (Nat × Nat)) (s : St) (node bye : Nat) (t : St) (r : Nat) : Prop where
  f : t.fst node = s.vis + 1
  gd : ∀ v, Vi s v → t.fst v = s.fst v
  num : ∀ v, Nw s t v → s.vis < t.fst v
  top : ∀ v, t.fst v ≤ t.vis
  vis : s.vis < t.vis
  clo : ∀ v, Nw s t v → Clo l t v
  con : ∀ v, Nw s t v → Ce l (En l s t) v node
  low1 : r ≤ s.vis + 1
  low : ∀ v, Nw s t v → ∀ j, Ic l j v → j ≠ bye → r ≤ t.fst (nx l j v)
  lowa : r = s.vis + 1 ∨ ∃ v j, Nw s t v ∧ Ic l j v ∧ j ≠ bye ∧ Vi t (nx l j v) ∧ t.fst (nx l j v) = r
  brs : ∃ new, t.brs = s.brs ++ new ∧ (∀ i ∈ new, Brd l i ∧ (∃ u, Ic l i u) ∧ En l s t i) ∧ new.Nodup
  all : ∀ v, Nw s t v → ∀ j, Ic l j v → j ≠ bye → Brd l j → j ∈ t.brs
theorem Fp.out {l : List (Nat × Nat)} {n : Nat} (hl : Ok l n) {s t : St} {node bye r : Nat} {xs : List Nat} (h : Fp l s node bye xs t r) (p : Pr l s node bye) (hx : ∀ j, Ic l j node → j ∈ xs) : Vp l s node bye t r := by
  have dec : ∀ v, Nw s t v → v = node ∨ v ≠ node := fun v _ => Nat.decEq v node |>.em
  refine ⟨h.f, h.gd, h.num, h.top, h.vis, fun v hv => ?_, fun v hv => ?_, h.low1, fun v hv j hj hb => ?_, h.lowa, h.brs, fun v hv j hj hb hbr => ?_⟩
  · rcases dec v hv with rfl | e
    · exact fun j hj => h.cloN j (hx j hj)
    · exact h.cloD v hv e
  · rcases dec v hv with rfl | e
    · exact .refl _
    · obtain ⟨i, -, -, c⟩ := h.con v hv e
      exact c.mono fun j k => k.1
  · rcases dec v hv with rfl | e
    · exact h.lowN j (hx j hj) hb
    · exact h.lowD v hv e j hj
  · rcases dec v hv with rfl | e
    · exact h.allN j (hx j hj) hb hbr
    · exact h.allD v hv e j hj hbr
theorem vi_gd {s t : St} (gd : ∀ v, Vi s v → t.fst v = s.fst v) {v : Nat} (h : Vi s v) : Vi t v := by unfold Vi; rw [gd v h]; exact h
/-- The start of a visit. -/
theorem Fp.start {l : List (Nat × Nat)} {s : St} {node bye : Nat} (p : Pr l s node bye) : Fp l s node bye [] ⟨s.vis + 1, upd s.fst node (s.vis + 1), s.brs⟩ (s.vis + 1) := by
  have nw : ∀ v, Nw s ⟨s.vis + 1, upd s.fst node (s.vis + 1), s.brs⟩ v → v = node := fun v h => by
    by_cases e : v = node
    · exact e
    · have := h.2
      simp only [upd_other e] at this
      exact absurd h.1 this
  refine ⟨upd_same _ _ _, fun v hv => upd_other ?_, fun v hv => ?_, fun v => ?_, by simp, fun v hv e => absurd (nw v hv) e, by simp, fun v hv e => absurd (nw v hv) e, Nat.le_refl _, fun v hv e => absurd (nw v hv) e, by simp, .inl rfl, ⟨[], by simp, by simp, by simp⟩, fun v hv e => absurd (nw v hv) e, by simp⟩
  · rintro rfl; exact hv p.z
  · rw [nw v hv]; simp [upd_same]
  · by_cases e : v = node
    · subst e; simp [upd_same]
    · simp only [upd_other e]; have := p.nums v; omega
/-- An edge whose other end was visited, which is not that by which the node was come to, is no bridge. -/
theorem back_edge {l : List (Nat × Nat)} {n : Nat} (hl : Ok l n) {s t : St} {node bye r i : Nat} {xs : List Nat} (h : Fp l s node bye xs t r) (p : Pr l s node bye) (hi : Ic l i node) (hb : i ≠ bye) (hx : i ∉ xs) (hv : Vi t (nx l i node)) : ¬ Brd l i := by
  have k := ic_nx hl hi
  refine not_brd k.1 ?_
  rw [k.2.1]
  by_cases c : Vi s (nx l i node)
  · have nc : ¬ Clo l s (nx l i node) := fun hc => by
      have := hc i k.1
      rw [k.2.1] at this
      exact this p.z
    rcases p.by_ with ⟨h1, h2, h3⟩ | ⟨h1, h3⟩
    · rcases h3 _ c with h4 | ⟨h4, -⟩
      · exact absurd h4 nc
      · have m : Ce l (fun j => j ≠ i) (nx l i node) (nx l bye node) := h4.mono fun j hj e => by subst e; exact hj node hi p.z
        have k2 := ic_nx hl h1
        have := m.tail bye (Ne.symm hb) k2.1
        rwa [k2.2.1] at this
    · exact absurd (h3 _ c) nc
  · have c0 : s.fst (nx l i node) = 0 := by unfold Vi at c; omega
    obtain ⟨i', h1, h2, h3⟩ := h.con _ ⟨c0, hv⟩ k.2.2.1
    exact h3.mono fun j hj e => by
      subst e
      rcases hj.2 with e | e
      · exact hx (e ▸ h1)
      · exact e hi
/-- What is asked at the visit of a neighbour that was not visited. -/
theorem Fp.ask {l : List (Nat × Nat)} {n : Nat} (hl : Ok l n) {s t : St} {node bye r i : Nat} {xs : List Nat} (h : Fp l s node bye xs t r) (p : Pr l s node bye) (hi : Ic l i node) (hv : t.fst (nx l i node) = 0) : Pr l t (nx l i node) i := by
  have k := ic_nx hl hi
  have hn : Vi t node := by unfold Vi; rw [h.f]; omega
  refine ⟨hv, h.top, .inl ⟨k.1, by rw [k.2.1]; exact hn, fun w hw => ?_⟩⟩
  rw [k.2.1]
  have up : ∀ {w}, Clo l s w → Clo l t w := fun hc j hj => vi_gd h.gd (hc j hj)
  by_cases c : Vi s w
  · rcases p.by_ with ⟨h1, h2, h3⟩ | ⟨h1, h3⟩
    · rcases h3 w c with h4 | ⟨h4, h5⟩
      · exact .inl (up h4)
      · right
        have k2 := ic_nx hl h1
        have m : Ce l (Ev l t) w (nx l bye node) := h4.mono fun j hj u hu => vi_gd h.gd (hj u hu)
        refine ⟨?_, ?_⟩
        · have := m.tail bye (fun u hu => by
            rcases ic_two hl hu h1 with e | e
            · rw [e]; exact hn
            · rw [e]; exact vi_gd h.gd h2) k2.1
          rwa [k2.2.1] at this
        · rw [h.gd w c, h.f]
          have := p.nums w
          omega
    · exact .inl (up (h3 w c))
  · have c0 : s.fst w = 0 := by unfold Vi at c; omega
    by_cases e : w = node
    · subst e; exact .inr ⟨.refl _, Nat.le_refl _⟩
    · exact .inl (h.cloD w ⟨c0, hw⟩ e)
/-- The edge to a child is a bridge exactly if the child's visit reached nothing before. -/
theorem child_brd {l : List (Nat × Nat)} {n : Nat} (hl : Ok l n) {s t t' : St} {node bye r r' i : Nat} {xs : List Nat} (h : Fp l s node bye xs t r) (p : Pr l s node bye) (hi : Ic l i node) (hv : t.fst (nx l i node) = 0) (V : Vp l t (nx l i node) i t' r') : t'.fst node < r' ↔ Brd l i := by
  have k := ic_nx hl hi
  have P := h.ask hl p hi hv
  have hn : Vi t node := by unfold Vi; rw [h.f]; omega
  have hP : ∀ w, Vi t w → Clo l t w ∨ (Ce l (Ev l t) w node ∧ t.fst w ≤ t.fst node) := fun w hw => by
    rcases P.by_ with ⟨h1, h2, h3⟩ | ⟨h1, h3⟩
    · rw [k.2.1] at h3; exact h3 w hw
    · exact .inl (h3 w hw)
  have hw : Nw t t' (nx l i node) := ⟨hv, by rw [V.f]; omega⟩
  have notD : ¬ Nw t t' node := fun e => hn e.1
  constructor
  · intro hlt
    refine is_brd hl k.1 ?_
    rw [k.2.1]
    intro c
    have : ∀ u, Ce l (fun j => j ≠ i) (nx l i node) u → Nw t t' u := by
      intro u hu
      induction hu with
      | refl => exact hw
      | @tail b j _ hp hj ih =>
        have lo := V.low b ih j hj hp
        have vi := V.clo b ih j hj
        by_cases d : Vi t (nx l j b)
        · exfalso
          have kj := ic_nx hl hj
          rcases hP _ d with h4 | ⟨-, h5⟩
          · have := h4 j kj.1
            rw [kj.2.1] at this
            exact this ih.1
          · rw [V.gd _ d] at lo
            rw [V.gd _ hn] at hlt
            omega
        · exact ⟨by unfold Vi at d; omega, vi⟩
    exact notD (this node c)
  · intro hb
    rcases Nat.lt_or_ge (t'.fst node) r' with a | a
    · exact a
    · exfalso
      have e1 : t'.fst node = s.vis + 1 := by rw [V.gd _ hn, h.f]
      have tv := h.top node
      rw [h.f] at tv
      rcases V.lowa with e | ⟨v, j, h1, h2, h3, h4, h5⟩
      · omega
      · have nd : ¬ Nw t t' (nx l j v) := fun c => by have := V.num _ c; omega
        have vt : Vi t (nx l j v) := by
          unfold Vi
          intro c
          exact nd ⟨c, h4⟩
        have kj := ic_nx hl h2
        rcases hP _ vt with h6 | ⟨h6, -⟩
        · have := h6 j kj.1
          rw [kj.2.1] at this
          exact this h1.1
        · have m1 : Ce l (fun j => j ≠ i) (nx l j v) node := h6.mono fun j hj e => by subst e; exact hj _ k.1 hv
          have m2 : Ce l (fun j => j ≠ i) v (nx l i node) := (V.con v h1).mono fun j hj e => by subst e; exact notD (hj node hi)
          have m3 : Ce l (fun j => j ≠ i) (nx l i node) (nx l j v) := (m2.symm hl).tail j h3 h2
          have := m3.trans m1
          refine not_brd k.1 ?_ hb
          rw [k.2.1]; exact this
end Go.Proofs.Ytampfciacjifgaa
