/- Joined by some of the edges; bridges. The search in depth finds the bridges. The search in depth, step by step; all bridges are found. The reference's All, Bridges; Path and Bridges where they refuse. Without an edge: parts, and how many edges are beside the forest; the edges of the forest are bridges of it. An edge is a bridge exactly if no cycle has it. IsSorted; a list in some list; Clone and Delete at pairs. Whether some list has a number; Clone and Delete at pairs. Clone and Delete at pairs: the walks. GraphOpens: the walk. -/
import Derived.Test.YtampfciacjifgaaBr0
import Derived.Test.YtampfciacjifgaaDst
import Derived.Test.YtampfciacjifgaaWay
import Derived.Test.YtampfciacjifgaaEu1
import Derived.Test.YtampfciacjifgaaEu2
import Derived.Lib.SliceRun
import Derived.Deep.RegionLaw
import Derived.ArgAppend
import Derived.Deep.Slices
namespace Go.Proofs.Ytampfciacjifgaa
set_option linter.unusedVariables false
set_option linter.unusedSimpArgs false

theorem nx_is {l : List (Nat × Nat)} {i v : Nat} {x : Nat × Nat} (h : l[i]? = some x) : nx l i v = oth x v := by unfold nx; rw [h]
/-- Edge j ends at v. -/
def Ic (l : List (Nat × Nat)) (j v : Nat) : Prop := ∃ x, l[j]? = some x ∧ (x.1 = v ∨ x.2 = v)
def Ok (l : List (Nat × Nat)) (n : Nat) : Prop := ∀ x ∈ l, x.1 < n ∧ x.2 < n ∧ x.1 ≠ x.2
theorem ic_adj {l : List (Nat × Nat)} {j v : Nat} : j ∈ adj l (List.range l.length) v ↔ Ic l j v := by
  constructor
  · intro h; exact (adj_mem h).2
  · rintro ⟨x, hx, hv⟩
    refine List.mem_filter.2 ⟨List.mem_range.2 (List.getElem?_eq_some_iff.1 hx).1, ?_⟩
    unfold inc; rw [hx]; simpa using hv
theorem ic_nx {l : List (Nat × Nat)} {n j v : Nat} (hl : Ok l n) (h : Ic l j v) : Ic l j (nx l j v) ∧ nx l j (nx l j v) = v ∧ nx l j v ≠ v ∧ nx l j v < n := by
  obtain ⟨x, hx, hv⟩ := h
  have hm := hl x (List.mem_of_getElem? hx)
  have k := oth_inv hv hm.2.2
  rw [nx_is hx]
  refine ⟨⟨x, hx, k.2⟩, by rw [nx_is hx]; exact k.1, ?_, ?_⟩
  · unfold oth; split <;> omega
  · unfold oth; split <;> omega
theorem ic_two {l : List (Nat × Nat)} {n j u v : Nat} (hl : Ok l n) (h : Ic l j u) (k : Ic l j v) : u = v ∨ u = nx l j v := by
  obtain ⟨x, hx, hu⟩ := h
  obtain ⟨y, hy, hv⟩ := k
  rw [hx] at hy; cases hy
  rw [nx_is hx]
  unfold oth
  split <;> omega
theorem ic_lt {l : List (Nat × Nat)} {n j v : Nat} (hl : Ok l n) (h : Ic l j v) : v < n := by
  obtain ⟨x, hx, hv⟩ := h
  have hm := hl x (List.mem_of_getElem? hx)
  omega
/-- Joined by edges of which P tells so. -/
inductive Ce (l : List (Nat × Nat)) (P : Nat → Prop) : Nat → Nat → Prop
  | refl (a : Nat) : Ce l P a a
  | tail {a b : Nat} (j : Nat) : Ce l P a b → P j → Ic l j b → Ce l P a (nx l j b)
theorem Ce.mono {l : List (Nat × Nat)} {P Q : Nat → Prop} {a b : Nat} (h : Ce l P a b) (k : ∀ j, P j → Q j) : Ce l Q a b := by
  induction h with
  | refl => exact .refl _
  | tail j _ hp hi ih => exact .tail j ih (k j hp) hi
theorem Ce.trans {l : List (Nat × Nat)} {P : Nat → Prop} {a b c : Nat} (h : Ce l P a b) (k : Ce l P b c) : Ce l P a c := by
  induction k with
  | refl => exact h
  | tail j _ hp hi ih => exact .tail j ih hp hi
theorem Ce.one {l : List (Nat × Nat)} {P : Nat → Prop} {a j : Nat} (hp : P j) (hi : Ic l j a) : Ce l P a (nx l j a) := .tail j (.refl a) hp hi
theorem Ce.symm {l : List (Nat × Nat)} {n : Nat} (hl : Ok l n) {P : Nat → Prop} {a b : Nat} (h : Ce l P a b) : Ce l P b a := by
  induction h with
  | refl => exact .refl _
  | @tail b j _ hp hi ih =>
    have k := ic_nx hl hi
    have := Ce.one (P := P) hp k.1
    rw [k.2.1] at this
    exact this.trans ih
theorem ce_cn {l : List (Nat × Nat)} {i a b : Nat} (h : Ce l (fun j => j ≠ i) a b) : Cn (ed l l.length i) a b := by
  induction h with
  | refl => exact .refl _
  | @tail b j _ hp hi ih =>
    obtain ⟨x, hx, hv⟩ := hi
    have hj := (List.getElem?_eq_some_iff.1 hx).1
    refine .tail ih ?_
    rw [nx_is hx]
    unfold oth
    by_cases e : x.1 = b
    · rw [if_pos e]; exact .inl ⟨j, hj, by omega, by rw [hx, ← e]⟩
    · rw [if_neg e]; exact .inr ⟨j, hj, by omega, by rw [hx, ← hv.resolve_left e]⟩
theorem cn_ce {l : List (Nat × Nat)} {n : Nat} (hl : Ok l n) {i a b : Nat} (h : Cn (ed l l.length i) a b) : Ce l (fun j => j ≠ i) a b := by
  induction h with
  | refl => exact .refl _
  | @tail b c _ e ih =>
    rcases e with ⟨j, hj, hn, hx⟩ | ⟨j, hj, hn, hx⟩
    · have hi : Ic l j b := ⟨_, hx, .inl rfl⟩
      have e : nx l j b = c := by rw [nx_is hx]; simp [oth]
      have := ih.tail j (by omega) hi
      rwa [e] at this
    · have hi : Ic l j b := ⟨_, hx, .inr rfl⟩
      have hm := hl _ (List.mem_of_getElem? hx)
      have e : nx l j b = c := by
        rw [nx_is hx]; unfold oth
        have : ¬ c = b := hm.2.2
        simp [this]
      have := ih.tail j (by omega) hi
      rwa [e] at this
/-- Edge i is a bridge: its ends are not joined by the others. -/
def Brd (l : List (Nat × Nat)) (i : Nat) : Prop := ∀ v, Ic l i v → ¬ Ce l (fun j => j ≠ i) v (nx l i v)
theorem not_brd {l : List (Nat × Nat)} {i v : Nat} (hi : Ic l i v) (h : Ce l (fun j => j ≠ i) v (nx l i v)) : ¬ Brd l i := fun k => k v hi h
theorem is_brd {l : List (Nat × Nat)} {n i v : Nat} (hl : Ok l n) (hi : Ic l i v) (h : ¬ Ce l (fun j => j ≠ i) v (nx l i v)) : Brd l i := by
  intro u hu k
  rcases ic_two hl hu hi with e | e
  · rw [e] at k; exact h k
  · have x := ic_nx hl hi
    rw [e, x.2.1] at k
    exact h (k.symm hl)
end Go.Proofs.Ytampfciacjifgaa
namespace Go.Proofs.Ytampfciacjifgaa
set_option linter.unusedVariables false
set_option linter.unusedSimpArgs false

def Vi (s : St) (v : Nat) : Prop := s.fst v ≠ 0
def Nw (s t : St) (v : Nat) : Prop := s.fst v = 0 ∧ t.fst v ≠ 0
/-- All neighbours were visited. -/
def Clo (l : List (Nat × Nat)) (s : St) (w : Nat) : Prop := ∀ j, Ic l j w → Vi s (nx l j w)
/-- Edges both of whose ends were visited; were visited between. -/
def Ev (l : List (Nat × Nat)) (s : St) (j : Nat) : Prop := ∀ u, Ic l j u → Vi s u
def En (l : List (Nat × Nat)) (s t : St) (j : Nat) : Prop := ∀ u, Ic l j u → Nw s t u

/-- What a visit asks. -/
structure Pr (l : List (Nat × Nat)) (s : St) (node bye : Nat) : Prop where
  z : s.fst node = 0
  nums : ∀ v, s.fst v ≤ s.vis
  by_ : (Ic l bye node ∧ Vi s (nx l bye node) ∧ ∀ w, Vi s w → Clo l s w ∨ (Ce l (Ev l s) w (nx l bye node) ∧ s.fst w ≤ s.fst (nx l bye node))) ∨ ((∀ v, ¬ Ic l bye v) ∧ ∀ w, Vi s w → Clo l s w)
/-- What is so within a visit, behind the first edges. -/
structure Fp (l : List (Nat × Nat)) (s : St) (node bye : Nat) (xs : List Nat) (t : St) (r : Nat) : Prop where
  f : t.fst node = s.vis + 1
  gd : ∀ v, Vi s v → t.fst v = s.fst v
  num : ∀ v, Nw s t v → s.vis < t.fst v
  top : ∀ v, t.fst v ≤ t.vis
  vis : s.vis < t.vis
  cloD : ∀ v, Nw s t v → v ≠ node → Clo l t v
  cloN : ∀ j ∈ xs, Vi t (nx l j node)
  con : ∀ v, Nw s t v → v ≠ node → ∃ i ∈ xs, i ≠ bye ∧ Ce l (fun j => En l s t j ∧ (j = i ∨ ¬ Ic l j node)) v node
  low1 : r ≤ s.vis + 1
  lowD : ∀ v, Nw s t v → v ≠ node → ∀ j, Ic l j v → r ≤ t.fst (nx l j v)
  lowN : ∀ j ∈ xs, j ≠ bye → r ≤ t.fst (nx l j node)
  lowa : r = s.vis + 1 ∨ ∃ v j, Nw s t v ∧ Ic l j v ∧ j ≠ bye ∧ Vi t (nx l j v) ∧ t.fst (nx l j v) = r
  brs : ∃ new, t.brs = s.brs ++ new ∧ (∀ i ∈ new, Brd l i ∧ (∃ u, Ic l i u) ∧ En l s t i) ∧ new.Nodup
  allD : ∀ v, Nw s t v → v ≠ node → ∀ j, Ic l j v → Brd l j → j ∈ t.brs
  allN : ∀ j ∈ xs, j ≠ bye → Brd l j → j ∈ t.brs
/-- What a visit leaves. -/
structure Vp (l : List (Nat × Nat)) (s : St) (node bye : Nat) (t : St) (r : Nat) : Prop where
  f : t.fst node = s.vis + 1
  gd : ∀ v, Vi s v → t.fst v = s.fst v
  num : ∀ v, Nw s t v → s.vis < t.fst v
  top : ∀ v, t.fst v ≤ t.vis
  vis : s.vis < t.vis
  clo : ∀ v, Nw s t v → Clo l t v
  con : ∀ v, Nw s t v → Ce l (En l s t) v node
  low1 : r ≤ s.vis + 1
  low : ∀ v, Nw s t v → ∀ j, Ic l j v → j ≠ bye → r ≤ t.fst (nx l j v)
  lowa : r = s.vis + 1 ∨ ∃ v j, Nw s t v ∧ Ic l j v ∧ j ≠ bye ∧ Vi t (nx l j v) ∧ t.fst (nx l j v) = r
  brs : ∃ new, t.brs = s.brs ++ new ∧ (∀ i ∈ new, Brd l i ∧ (∃ u, Ic l i u) ∧ En l s t i) ∧ new.Nodup
  all : ∀ v, Nw s t v → ∀ j, Ic l j v → j ≠ bye → Brd l j → j ∈ t.brs
theorem Fp.out {l : List (Nat × Nat)} {n : Nat} (hl : Ok l n) {s t : St} {node bye r : Nat} {xs : List Nat} (h : Fp l s node bye xs t r) (p : Pr l s node bye) (hx : ∀ j, Ic l j node → j ∈ xs) : Vp l s node bye t r := by
  have dec : ∀ v, Nw s t v → v = node ∨ v ≠ node := fun v _ => Nat.decEq v node |>.em
  refine ⟨h.f, h.gd, h.num, h.top, h.vis, fun v hv => ?_, fun v hv => ?_, h.low1, fun v hv j hj hb => ?_, h.lowa, h.brs, fun v hv j hj hb hbr => ?_⟩
  · rcases dec v hv with rfl | e
    · exact fun j hj => h.cloN j (hx j hj)
    · exact h.cloD v hv e
  · rcases dec v hv with rfl | e
    · exact .refl _
    · obtain ⟨i, -, -, c⟩ := h.con v hv e
      exact c.mono fun j k => k.1
  · rcases dec v hv with rfl | e
    · exact h.lowN j (hx j hj) hb
    · exact h.lowD v hv e j hj
  · rcases dec v hv with rfl | e
    · exact h.allN j (hx j hj) hb hbr
    · exact h.allD v hv e j hj hbr
theorem vi_gd {s t : St} (gd : ∀ v, Vi s v → t.fst v = s.fst v) {v : Nat} (h : Vi s v) : Vi t v := by unfold Vi; rw [gd v h]; exact h
/-- The start of a visit. -/
theorem Fp.start {l : List (Nat × Nat)} {s : St} {node bye : Nat} (p : Pr l s node bye) : Fp l s node bye [] ⟨s.vis + 1, upd s.fst node (s.vis + 1), s.brs⟩ (s.vis + 1) := by
  have nw : ∀ v, Nw s ⟨s.vis + 1, upd s.fst node (s.vis + 1), s.brs⟩ v → v = node := fun v h => by
    by_cases e : v = node
    · exact e
    · have := h.2
      simp only [upd_other e] at this
      exact absurd h.1 this
  refine ⟨upd_same _ _ _, fun v hv => upd_other ?_, fun v hv => ?_, fun v => ?_, by simp, fun v hv e => absurd (nw v hv) e, by simp, fun v hv e => absurd (nw v hv) e, Nat.le_refl _, fun v hv e => absurd (nw v hv) e, by simp, .inl rfl, ⟨[], by simp, by simp, by simp⟩, fun v hv e => absurd (nw v hv) e, by simp⟩
  · rintro rfl; exact hv p.z
  · rw [nw v hv]; simp [upd_same]
  · by_cases e : v = node
    · subst e; simp [upd_same]
    · simp only [upd_other e]; have := p.nums v; omega
/-- An edge whose other end was visited, which is not that by which the node was come to, is no bridge. -/
theorem back_edge {l : List (Nat × Nat)} {n : Nat} (hl : Ok l n) {s t : St} {node bye r i : Nat} {xs : List Nat} (h : Fp l s node bye xs t r) (p : Pr l s node bye) (hi : Ic l i node) (hb : i ≠ bye) (hx : i ∉ xs) (hv : Vi t (nx l i node)) : ¬ Brd l i := by
  have k := ic_nx hl hi
  refine not_brd k.1 ?_
  rw [k.2.1]
  by_cases c : Vi s (nx l i node)
  · have nc : ¬ Clo l s (nx l i node) := fun hc => by
      have := hc i k.1
      rw [k.2.1] at this
      exact this p.z
    rcases p.by_ with ⟨h1, h2, h3⟩ | ⟨h1, h3⟩
    · rcases h3 _ c with h4 | ⟨h4, -⟩
      · exact absurd h4 nc
      · have m : Ce l (fun j => j ≠ i) (nx l i node) (nx l bye node) := h4.mono fun j hj e => by subst e; exact hj node hi p.z
        have k2 := ic_nx hl h1
        have := m.tail bye (Ne.symm hb) k2.1
        rwa [k2.2.1] at this
    · exact absurd (h3 _ c) nc
  · have c0 : s.fst (nx l i node) = 0 := by unfold Vi at c; omega
    obtain ⟨i', h1, h2, h3⟩ := h.con _ ⟨c0, hv⟩ k.2.2.1
    exact h3.mono fun j hj e => by
      subst e
      rcases hj.2 with e | e
      · exact hx (e ▸ h1)
      · exact e hi
/-- What is asked at the visit of a neighbour that was not visited. -/
theorem Fp.ask {l : List (Nat × Nat)} {n : Nat} (hl : Ok l n) {s t : St} {node bye r i : Nat} {xs : List Nat} (h : Fp l s node bye xs t r) (p : Pr l s node bye) (hi : Ic l i node) (hv : t.fst (nx l i node) = 0) : Pr l t (nx l i node) i := by
  have k := ic_nx hl hi
  have hn : Vi t node := by unfold Vi; rw [h.f]; omega
  refine ⟨hv, h.top, .inl ⟨k.1, by rw [k.2.1]; exact hn, fun w hw => ?_⟩⟩
  rw [k.2.1]
  have up : ∀ {w}, Clo l s w → Clo l t w := fun hc j hj => vi_gd h.gd (hc j hj)
  by_cases c : Vi s w
  · rcases p.by_ with ⟨h1, h2, h3⟩ | ⟨h1, h3⟩
    · rcases h3 w c with h4 | ⟨h4, h5⟩
      · exact .inl (up h4)
      · right
        have k2 := ic_nx hl h1
        have m : Ce l (Ev l t) w (nx l bye node) := h4.mono fun j hj u hu => vi_gd h.gd (hj u hu)
        refine ⟨?_, ?_⟩
        · have := m.tail bye (fun u hu => by
            rcases ic_two hl hu h1 with e | e
            · rw [e]; exact hn
            · rw [e]; exact vi_gd h.gd h2) k2.1
          rwa [k2.2.1] at this
        · rw [h.gd w c, h.f]
          have := p.nums w
          omega
    · exact .inl (up (h3 w c))
  · have c0 : s.fst w = 0 := by unfold Vi at c; omega
    by_cases e : w = node
    · subst e; exact .inr ⟨.refl _, Nat.le_refl _⟩
    · exact .inl (h.cloD w ⟨c0, hw⟩ e)
/-- The edge to a child is a bridge exactly if the child's visit reached nothing before. -/
theorem child_brd {l : List (Nat × Nat)} {n : Nat} (hl : Ok l n) {s t t' : St} {node bye r r' i : Nat} {xs : List Nat} (h : Fp l s node bye xs t r) (p : Pr l s node bye) (hi : Ic l i node) (hv : t.fst (nx l i node) = 0) (V : Vp l t (nx l i node) i t' r') : t'.fst node < r' ↔ Brd l i := by
  have k := ic_nx hl hi
  have P := h.ask hl p hi hv
  have hn : Vi t node := by unfold Vi; rw [h.f]; omega
  have hP : ∀ w, Vi t w → Clo l t w ∨ (Ce l (Ev l t) w node ∧ t.fst w ≤ t.fst node) := fun w hw => by
    rcases P.by_ with ⟨h1, h2, h3⟩ | ⟨h1, h3⟩
    · rw [k.2.1] at h3; exact h3 w hw
    · exact .inl (h3 w hw)
  have hw : Nw t t' (nx l i node) := ⟨hv, by rw [V.f]; omega⟩
  have notD : ¬ Nw t t' node := fun e => hn e.1
  constructor
  · intro hlt
    refine is_brd hl k.1 ?_
    rw [k.2.1]
    intro c
    have : ∀ u, Ce l (fun j => j ≠ i) (nx l i node) u → Nw t t' u := by
      intro u hu
      induction hu with
      | refl => exact hw
      | @tail b j _ hp hj ih =>
        have lo := V.low b ih j hj hp
        have vi := V.clo b ih j hj
        by_cases d : Vi t (nx l j b)
        · exfalso
          have kj := ic_nx hl hj
          rcases hP _ d with h4 | ⟨-, h5⟩
          · have := h4 j kj.1
            rw [kj.2.1] at this
            exact this ih.1
          · rw [V.gd _ d] at lo
            rw [V.gd _ hn] at hlt
            omega
        · exact ⟨by unfold Vi at d; omega, vi⟩
    exact notD (this node c)
  · intro hb
    rcases Nat.lt_or_ge (t'.fst node) r' with a | a
    · exact a
    · exfalso
      have e1 : t'.fst node = s.vis + 1 := by rw [V.gd _ hn, h.f]
      have tv := h.top node
      rw [h.f] at tv
      rcases V.lowa with e | ⟨v, j, h1, h2, h3, h4, h5⟩
      · omega
      · have nd : ¬ Nw t t' (nx l j v) := fun c => by have := V.num _ c; omega
        have vt : Vi t (nx l j v) := by
          unfold Vi
          intro c
          exact nd ⟨c, h4⟩
        have kj := ic_nx hl h2
        rcases hP _ vt with h6 | ⟨h6, -⟩
        · have := h6 j kj.1
          rw [kj.2.1] at this
          exact this h1.1
        · have m1 : Ce l (fun j => j ≠ i) (nx l j v) node := h6.mono fun j hj e => by subst e; exact hj _ k.1 hv
          have m2 : Ce l (fun j => j ≠ i) v (nx l i node) := (V.con v h1).mono fun j hj e => by subst e; exact notD (hj node hi)
          have m3 : Ce l (fun j => j ≠ i) (nx l i node) (nx l j v) := (m2.symm hl).tail j h3 h2
          have := m3.trans m1
          refine not_brd k.1 ?_ hb
          rw [k.2.1]; exact this
end Go.Proofs.Ytampfciacjifgaa
namespace Go.Proofs.Ytampfciacjifgaa
set_option linter.unusedVariables false
set_option linter.unusedSimpArgs false

theorem Fp.bye_ {l : List (Nat × Nat)} {n : Nat} (hl : Ok l n) {s t : St} {node bye r : Nat} {xs : List Nat} (h : Fp l s node bye xs t r) (p : Pr l s node bye) (hi : Ic l bye node) : Fp l s node bye (xs ++ [bye]) t r := by
  have hv : Vi t (nx l bye node) := by
    rcases p.by_ with ⟨-, h2, -⟩ | ⟨h1, -⟩
    · exact vi_gd h.gd h2
    · exact absurd hi (h1 node)
  refine ⟨h.f, h.gd, h.num, h.top, h.vis, h.cloD, fun j hj => ?_, fun v hv e => ?_, h.low1, h.lowD, fun j hj hb => ?_, h.lowa, h.brs, h.allD, fun j hj hb => ?_⟩
  · rcases List.mem_append.1 hj with k | k
    · exact h.cloN j k
    · rw [List.mem_singleton.1 k]; exact hv
  · obtain ⟨i, h1, h2, h3⟩ := h.con v hv e
    exact ⟨i, List.mem_append.2 (.inl h1), h2, h3⟩
  · rcases List.mem_append.1 hj with k | k
    · exact h.lowN j k hb
    · exact absurd (List.mem_singleton.1 k) hb
  · rcases List.mem_append.1 hj with k | k
    · exact h.allN j k hb
    · exact absurd (List.mem_singleton.1 k) hb
theorem Fp.seen {l : List (Nat × Nat)} {n : Nat} (hl : Ok l n) {s t : St} {node bye r i : Nat} {xs : List Nat} (h : Fp l s node bye xs t r) (p : Pr l s node bye) (hi : Ic l i node) (hb : i ≠ bye) (hx : i ∉ xs) (hv : Vi t (nx l i node)) :
    Fp l s node bye (xs ++ [i]) t (min r (t.fst (nx l i node))) := by
  have nb := back_edge hl h p hi hb hx hv
  have m1 : min r (t.fst (nx l i node)) ≤ r := Nat.min_le_left _ _
  have m2 : min r (t.fst (nx l i node)) ≤ t.fst (nx l i node) := Nat.min_le_right _ _
  have hself : Nw s t node := ⟨p.z, by rw [h.f]; omega⟩
  refine ⟨h.f, h.gd, h.num, h.top, h.vis, h.cloD, fun j hj => ?_, fun v hv e => ?_, Nat.le_trans m1 h.low1, fun v hv e j hj => Nat.le_trans m1 (h.lowD v hv e j hj), fun j hj hb2 => ?_, ?_, h.brs, h.allD, fun j hj hb2 hbr => ?_⟩
  · rcases List.mem_append.1 hj with k | k
    · exact h.cloN j k
    · rw [List.mem_singleton.1 k]; exact hv
  · obtain ⟨i, h1, h2, h3⟩ := h.con v hv e
    exact ⟨i, List.mem_append.2 (.inl h1), h2, h3⟩
  · rcases List.mem_append.1 hj with k | k
    · exact Nat.le_trans m1 (h.lowN j k hb2)
    · rw [List.mem_singleton.1 k]; exact m2
  · rcases Nat.le_total r (t.fst (nx l i node)) with a | a
    · rw [Nat.min_eq_left a]; exact h.lowa
    · rw [Nat.min_eq_right a]; exact .inr ⟨node, i, hself, hi, hb, hv, rfl⟩
  · rcases List.mem_append.1 hj with k | k
    · exact h.allN j k hb2 hbr
    · rw [List.mem_singleton.1 k] at hbr; exact absurd hbr nb
theorem Fp.child {l : List (Nat × Nat)} {n : Nat} (hl : Ok l n) {s t t' T : St} {node bye r r' i : Nat} {xs : List Nat} (h : Fp l s node bye xs t r) (p : Pr l s node bye) (hi : Ic l i node) (hb : i ≠ bye) (hx : i ∉ xs) (hv : t.fst (nx l i node) = 0) (V : Vp l t (nx l i node) i t' r')
    (Tf : T.fst = t'.fst) (Tv : T.vis = t'.vis) (Tb : (Brd l i ∧ T.brs = t'.brs ++ [i]) ∨ (¬ Brd l i ∧ T.brs = t'.brs)) : Fp l s node bye (xs ++ [i]) T (min r r') := by
  have k := ic_nx hl hi
  have hn : Vi t node := by unfold Vi; rw [h.f]; omega
  have m1 : min r r' ≤ r := Nat.min_le_left _ _
  have m2 : min r r' ≤ r' := Nat.min_le_right _ _
  have g2 : ∀ v, Vi t v → T.fst v = t.fst v := fun v hv => by rw [Tf]; exact V.gd v hv
  have up : ∀ {v}, Vi t v → Vi T v := fun hv => vi_gd g2 hv
  have tb : ∀ {j}, j ∈ t'.brs → j ∈ T.brs := fun hj => by
    rcases Tb with ⟨-, e⟩ | ⟨-, e⟩
    · rw [e]; exact List.mem_append.2 (.inl hj)
    · rw [e]; exact hj
  have tb0 : ∀ {j}, j ∈ t.brs → j ∈ T.brs := fun hj => by
    obtain ⟨new, e, -⟩ := V.brs
    exact tb (by rw [e]; exact List.mem_append.2 (.inl hj))
  have nT : ∀ v, Nw t T v ↔ Nw t t' v := fun v => by unfold Nw; rw [Tf]
  have sp : ∀ v, Nw s T v → Nw s t v ∨ Nw t t' v := fun v hv => by
    by_cases c : Vi t v
    · exact .inl ⟨hv.1, c⟩
    · right
      have c0 : t.fst v = 0 := by unfold Vi at c; omega
      exact ⟨c0, by rw [← Tf]; exact hv.2⟩
  have s1 : ∀ {v}, Nw s t v → Nw s T v := fun hv => ⟨hv.1, up hv.2⟩
  have s0 : ∀ {v}, t.fst v = 0 → s.fst v = 0 := fun {v} hv => by
    by_cases c : Vi s v
    · have := h.gd v c; unfold Vi at c; omega
    · unfold Vi at c; omega
  have s2 : ∀ {v}, Nw t t' v → Nw s T v := fun hv => ⟨s0 hv.1, by rw [Tf]; exact hv.2⟩
  have notD : ¬ Nw t t' node := fun e => hn e.1
  have hself : Nw s T node := s1 ⟨p.z, hn⟩
  have hw : Nw t t' (nx l i node) := ⟨hv, by rw [V.f]; omega⟩
  have bye_out : ∀ v, Nw t t' v → ¬ Ic l bye v := fun v hvv hc => by
    rcases p.by_ with ⟨h1, h2, -⟩ | ⟨h1, -⟩
    · rcases ic_two hl hc h1 with e | e
      · rw [e] at hvv; exact notD hvv
      · rw [e] at hvv; exact vi_gd h.gd h2 hvv.1
    · exact h1 v hc
  have inw : ∀ v, Nw t t' v → Ic l i v → v = nx l i node := fun v hvv hc => by
    rcases ic_two hl hc hi with e | e
    · rw [e] at hvv; exact absurd hvv notD
    · exact e
  refine ⟨by rw [g2 node hn, h.f], fun v hv => by rw [g2 v (vi_gd h.gd hv), h.gd v hv], fun v hv => ?_, fun v => by rw [Tf, Tv]; exact V.top v, by rw [Tv]; exact Nat.lt_trans h.vis V.vis, fun v hv e => ?_, fun j hj => ?_, fun v hv e => ?_, Nat.le_trans m1 h.low1, fun v hv e j hj => ?_, fun j hj hb2 => ?_, ?_, ?_, fun v hv e j hj hbr => ?_, fun j hj hb2 hbr => ?_⟩
  · rcases sp v hv with c | c
    · rw [g2 v c.2]; exact h.num v c
    · rw [Tf]; exact Nat.lt_trans h.vis (V.num v c)
  · rcases sp v hv with c | c
    · exact fun j hj => up (h.cloD v c e j hj)
    · exact fun j hj => by unfold Vi; rw [Tf]; exact V.clo v c j hj
  · rcases List.mem_append.1 hj with c | c
    · exact up (h.cloN j c)
    · rw [List.mem_singleton.1 c]; unfold Vi; rw [Tf]; exact hw.2
  · rcases sp v hv with c | c
    · obtain ⟨i', h1, h2, h3⟩ := h.con v c e
      exact ⟨i', List.mem_append.2 (.inl h1), h2, h3.mono fun j hj => ⟨fun u hu => s1 (hj.1 u hu), hj.2⟩⟩
    · refine ⟨i, List.mem_append.2 (.inr (List.mem_singleton.2 rfl)), hb, ?_⟩
      have c1 : Ce l (fun j => En l s T j ∧ (j = i ∨ ¬ Ic l j node)) v (nx l i node) := (V.con v c).mono fun j hj => ⟨fun u hu => s2 (hj u hu), .inr fun hc => notD (hj node hc)⟩
      have := c1.tail i ⟨fun u hu => by
        rcases ic_two hl hu hi with e2 | e2
        · rw [e2]; exact hself
        · rw [e2]; exact s2 hw, .inl rfl⟩ k.1
      rwa [k.2.1] at this
  · rcases sp v hv with c | c
    · rw [g2 _ (h.cloD v c e j hj)]; exact Nat.le_trans m1 (h.lowD v c e j hj)
    · by_cases ej : j = i
      · subst ej
        rw [inw v c hj, k.2.1, g2 node hn, h.f]
        exact Nat.le_trans m1 h.low1
      · rw [Tf]; exact Nat.le_trans m2 (V.low v c j hj ej)
  · rcases List.mem_append.1 hj with c | c
    · rw [g2 _ (h.cloN j c)]; exact Nat.le_trans m1 (h.lowN j c hb2)
    · rw [List.mem_singleton.1 c, Tf, V.f]; exact Nat.le_trans m2 V.low1
  · rcases Nat.le_total r r' with a | a
    · rw [Nat.min_eq_left a]
      rcases h.lowa with e | ⟨v, j, h1, h2, h3, h4, h5⟩
      · exact .inl e
      · exact .inr ⟨v, j, s1 h1, h2, h3, up h4, by rw [g2 _ h4]; exact h5⟩
    · rw [Nat.min_eq_right a]
      right
      rcases V.lowa with e | ⟨v, j, h1, h2, h3, h4, h5⟩
      · exact ⟨node, i, hself, hi, hb, by unfold Vi; rw [Tf]; exact hw.2, by rw [Tf, V.f, e]⟩
      · exact ⟨v, j, s2 h1, h2, fun e => bye_out v h1 (e ▸ h2), by unfold Vi; rw [Tf]; exact h4, by rw [Tf]; exact h5⟩
  · obtain ⟨n1, e1, a1, d1⟩ := h.brs
    obtain ⟨n2, e2, a2, d2⟩ := V.brs
    have dis : ∀ a ∈ n1, ∀ b ∈ n2, a ≠ b := fun a ha b hb e => by
      subst e
      obtain ⟨-, ⟨u, hu⟩, h3⟩ := a1 a ha
      exact (h3 u hu).2 ((a2 a hb).2.2 u hu).1
    have d12 : (n1 ++ n2).Nodup := List.nodup_append.2 ⟨d1, d2, dis⟩
    have a12 : ∀ j ∈ n1 ++ n2, Brd l j ∧ (∃ u, Ic l j u) ∧ En l s T j := fun j hj => by
      rcases List.mem_append.1 hj with c | c
      · obtain ⟨h1, h2, h3⟩ := a1 j c
        exact ⟨h1, h2, fun u hu => s1 (h3 u hu)⟩
      · obtain ⟨h1, h2, h3⟩ := a2 j c
        exact ⟨h1, h2, fun u hu => s2 (h3 u hu)⟩
    rcases Tb with ⟨hbr, e⟩ | ⟨-, e⟩
    · refine ⟨n1 ++ n2 ++ [i], by rw [e, e2, e1]; simp, fun j hj => ?_, List.nodup_append.2 ⟨d12, by simp, fun a ha b hb e3 => ?_⟩⟩
      · rcases List.mem_append.1 hj with c | c
        · exact a12 j c
        · rw [List.mem_singleton.1 c]
          refine ⟨hbr, ⟨node, hi⟩, fun u hu => ?_⟩
          rcases ic_two hl hu hi with e2 | e2
          · rw [e2]; exact hself
          · rw [e2]; exact s2 hw
      · rw [List.mem_singleton.1 hb] at e3
        subst e3
        rcases List.mem_append.1 ha with c | c
        · exact ((a1 a c).2.2 _ k.1).2 hv
        · exact notD ((a2 a c).2.2 node hi)
    · exact ⟨n1 ++ n2, by rw [e, e2, e1]; simp, a12, d12⟩
  · rcases sp v hv with c | c
    · exact tb0 (h.allD v c e j hj hbr)
    · by_cases ej : j = i
      · subst ej
        rcases Tb with ⟨-, e⟩ | ⟨nb, -⟩
        · rw [e]; simp
        · exact absurd hbr nb
      · exact tb (V.all v c j hj ej hbr)
  · rcases List.mem_append.1 hj with c | c
    · exact tb0 (h.allN j c hb2 hbr)
    · rw [List.mem_singleton.1 c] at hbr ⊢
      rcases Tb with ⟨-, e⟩ | ⟨nb, -⟩
      · rw [e]; simp
      · exact absurd hbr nb
theorem zc_lt {g h : Nat → Nat} (k : ∀ v, g v ≠ 0 → h v ≠ 0) {u : Nat} (h1 : g u = 0) (h2 : h u ≠ 0) : ∀ n, u < n → zc h n < zc g n
  | n + 1, hn => by
    have m := zc_mono k n
    rw [zc, zc]
    by_cases e : u = n
    · subst e; rw [if_neg h2, if_pos h1]; omega
    · have := zc_lt k h1 h2 n (by omega)
      have e := k n
      split <;> split <;> omega
theorem vst_all {l : List (Nat × Nat)} {n : Nat} (hl : Ok l n) : ∀ (k node bye : Nat) (s : St), node < n → Pr l s node bye → zc s.fst n ≤ k → Vp l s node bye (vst l (adj l (List.range l.length)) k node bye s).1 (vst l (adj l (List.range l.length)) k node bye s).2
  | 0, node, bye, s, hn, p, hk => by
    have := zc_pos p.z n hn
    omega
  | k + 1, node, bye, s, hn, p, hk => by
    have nd : (adj l (List.range l.length) node).Nodup := List.nodup_range.filter _
    have key : ∀ (ys xs : List Nat) (acc : St × Nat), xs ++ ys = adj l (List.range l.length) node → Fp l s node bye xs acc.1 acc.2 → Fp l s node bye (xs ++ ys) (ys.foldl (stp (vst l (adj l (List.range l.length)) k) l node bye) acc).1 (ys.foldl (stp (vst l (adj l (List.range l.length)) k) l node bye) acc).2 := by
      intro ys
      induction ys with
      | nil => intro xs acc e h; rw [List.append_nil]; exact h
      | cons i ys ih =>
        intro xs acc e h
        have hi : Ic l i node := ic_adj.1 (by rw [← e]; simp)
        have hx : i ∉ xs := by
          rw [← e] at nd
          have := (List.nodup_append.1 nd).2.2
          intro c
          exact this i c i (by simp) rfl
        have step : Fp l s node bye (xs ++ [i]) (stp (vst l (adj l (List.range l.length)) k) l node bye acc i).1 (stp (vst l (adj l (List.range l.length)) k) l node bye acc i).2 := by
          unfold stp
          by_cases hb : i = bye
          · rw [if_pos hb]
            subst hb
            exact h.bye_ hl p hi
          · rw [if_neg hb]
            by_cases hv : 0 < acc.1.fst (nx l i node)
            · rw [if_pos hv]
              exact h.seen hl p hi hb hx (by unfold Vi; omega)
            · rw [if_neg hv]
              have hv0 : acc.1.fst (nx l i node) = 0 := by omega
              have P := h.ask hl p hi hv0
              have hz : zc acc.1.fst n ≤ k := by
                have := zc_lt (g := s.fst) (h := acc.1.fst) (fun v hv => by rw [h.gd v hv]; exact hv) p.z (by rw [h.f]; omega) n hn
                omega
              have V := vst_all hl k (nx l i node) i acc.1 (ic_nx hl hi).2.2.2 P hz
              have cb := child_brd hl h p hi hv0 V
              generalize vst l (adj l (List.range l.length)) k (nx l i node) i acc.1 = res at *
              obtain ⟨t', r'⟩ := res
              simp only [] at V cb ⊢
              by_cases c : t'.fst node < r'
              · rw [if_pos c]
                exact h.child hl p hi hb hx hv0 V rfl rfl (.inl ⟨cb.1 c, rfl⟩)
              · rw [if_neg c]
                exact h.child hl p hi hb hx hv0 V rfl rfl (.inr ⟨fun b => c (cb.2 b), rfl⟩)
        have := ih (xs ++ [i]) _ (by rw [List.append_assoc]; exact e) step
        rw [List.append_assoc] at this
        exact this
    have F := key (adj l (List.range l.length) node) [] (⟨s.vis + 1, upd s.fst node (s.vis + 1), s.brs⟩, s.vis + 1) rfl (Fp.start p)
    exact F.out hl p fun j hj => ic_adj.2 hj
/-- Behind the visits from the first k nodes. -/
structure Fb (l : List (Nat × Nat)) (s : St) (k : Nat) : Prop where
  v : ∀ u, u < k → Vi s u
  c : ∀ u, Vi s u → Clo l s u
  n : ∀ u, s.fst u ≤ s.vis
  b : ∀ i ∈ s.brs, Brd l i ∧ (∃ u, Ic l i u) ∧ Ev l s i
  d : s.brs.Nodup
  a : ∀ u, Vi s u → ∀ j, Ic l j u → Brd l j → j ∈ s.brs
theorem brf_all {l : List (Nat × Nat)} {n : Nat} (hl : Ok l n) : ∀ k, k ≤ n → Fb l (brf l (adj l (List.range l.length)) n k) k
  | 0, _ => ⟨fun u h => absurd h (Nat.not_lt_zero u), fun u h => absurd rfl h, fun u => Nat.zero_le _, (fun i h => by cases h), List.nodup_nil, fun u h => absurd rfl h⟩
  | k + 1, hk => by
    have h := brf_all hl k (by omega)
    rw [brf]
    generalize brf l (adj l (List.range l.length)) n k = s at *
    by_cases c : s.fst k = 0
    · rw [if_pos c]
      have nol : ∀ v, ¬ Ic l l.length v := fun v ⟨x, hx, _⟩ => by
        have := (List.getElem?_eq_some_iff.1 hx).1
        omega
      have V := vst_all hl n k l.length s (by omega) ⟨c, h.n, .inr ⟨nol, h.c⟩⟩ (zc_le _ _)
      generalize (vst l (adj l (List.range l.length)) n k l.length s).2 = r at *
      generalize (vst l (adj l (List.range l.length)) n k l.length s).1 = t at *
      have up : ∀ {v}, Vi s v → Vi t v := fun hv => vi_gd V.gd hv
      have sp : ∀ u, Vi t u → Vi s u ∨ Nw s t u := fun u hu => by
        by_cases e : Vi s u
        · exact .inl e
        · exact .inr ⟨by unfold Vi at e; omega, hu⟩
      refine ⟨fun u hu => ?_, fun u hu => ?_, V.top, ?_, ?_, fun u hu j hj hbr => ?_⟩
      · rcases Nat.lt_or_ge u k with a | a
        · exact up (h.v u a)
        · have : u = k := by omega
          rw [this]; unfold Vi; rw [V.f]; omega
      · rcases sp u hu with e | e
        · exact fun j hj => up (h.c u e j hj)
        · exact V.clo u e
      · obtain ⟨new, e, a, d⟩ := V.brs
        intro i hi
        rw [e] at hi
        rcases List.mem_append.1 hi with m | m
        · obtain ⟨h1, h2, h3⟩ := h.b i m
          exact ⟨h1, h2, fun u hu => up (h3 u hu)⟩
        · obtain ⟨h1, h2, h3⟩ := a i m
          exact ⟨h1, h2, fun u hu => (h3 u hu).2⟩
      · obtain ⟨new, e, a, d⟩ := V.brs
        rw [e]
        refine List.nodup_append.2 ⟨h.d, d, fun x hx y hy e2 => ?_⟩
        subst e2
        obtain ⟨-, ⟨u, hu⟩, h3⟩ := h.b x hx
        exact h3 u hu ((a x hy).2.2 u hu).1
      · rcases sp u hu with e | e
        · obtain ⟨new, e2, -⟩ := V.brs
          rw [e2]; exact List.mem_append.2 (.inl (h.a u e j hj hbr))
        · exact V.all u e j hj (fun e3 => nol u (e3 ▸ hj)) hbr
    · rw [if_neg c]
      refine ⟨fun u hu => ?_, h.c, h.n, h.b, h.d, h.a⟩
      rcases Nat.lt_or_ge u k with a | a
      · exact h.v u a
      · have : u = k := by omega
        rw [this]; exact c
/-- What Bridges returns: the bridges, ascending. -/
theorem brg_mem {l : List (Nat × Nat)} {n : Nat} (hl : Ok l n) (i : Nat) : i ∈ brg l (adj l (List.range l.length)) n ↔ i < l.length ∧ Brd l i := by
  have h := brf_all hl n (Nat.le_refl _)
  unfold brg
  rw [List.mem_mergeSort]
  constructor
  · intro hi
    obtain ⟨h1, ⟨u, x, hx, -⟩, -⟩ := h.b i hi
    exact ⟨(List.getElem?_eq_some_iff.1 hx).1, h1⟩
  · rintro ⟨hi, hb⟩
    have e0 : l[i]? = some l[i] := List.getElem?_eq_getElem hi
    have hi1 : Ic l i l[i].1 := ⟨_, e0, .inl rfl⟩
    exact h.a _ (h.v _ (ic_lt hl hi1)) i hi1 hb
theorem brg_nodup {l : List (Nat × Nat)} {n : Nat} (hl : Ok l n) : (brg l (adj l (List.range l.length)) n).Nodup := by
  unfold brg
  exact (List.mergeSort_perm _ _).nodup_iff.2 (brf_all hl n (Nat.le_refl _)).d
theorem brg_sorted (l : List (Nat × Nat)) (A : Nat → List Nat) (n : Nat) : (brg l A n).Pairwise (fun a b => a ≤ b) := by
  have := List.pairwise_mergeSort (le := fun x y : Nat => decide (x ≤ y)) (fun a b c h1 h2 => by simp at *; omega) (fun a b => by simp; omega) (brf l A n n).brs
  unfold brg
  exact this.imp fun h => by simpa using h
theorem sorted_uniq : ∀ {xs ys : List Nat}, xs.Pairwise (fun a b => a < b) → ys.Pairwise (fun a b => a < b) → (∀ i, i ∈ xs ↔ i ∈ ys) → xs = ys
  | [], [], _, _, _ => rfl
  | [], y :: ys, _, _, h => by have := (h y).2 (by simp); cases this
  | x :: xs, [], _, _, h => by have := (h x).1 (by simp); cases this
  | x :: xs, y :: ys, hx, hy, h => by
    have hx' := List.pairwise_cons.1 hx
    have hy' := List.pairwise_cons.1 hy
    have e : x = y := by
      have a := (h x).1 (by simp)
      have b := (h y).2 (by simp)
      rcases List.mem_cons.1 a with a | a
      · exact a
      · rcases List.mem_cons.1 b with b | b
        · exact b.symm
        · have := hx'.1 y b
          have := hy'.1 x a
          omega
    subst e
    congr 1
    refine sorted_uniq hx'.2 hy'.2 fun i => ?_
    constructor
    · intro hi
      have := (h i).1 (List.mem_cons_of_mem _ hi)
      rcases List.mem_cons.1 this with e | e
      · have := hx'.1 i hi; omega
      · exact e
    · intro hi
      have := (h i).2 (List.mem_cons_of_mem _ hi)
      rcases List.mem_cons.1 this with e | e
      · have := hy'.1 i hi; omega
      · exact e
theorem brg_lt {l : List (Nat × Nat)} {n : Nat} (hl : Ok l n) : (brg l (adj l (List.range l.length)) n).Pairwise (fun a b => a < b) := by
  have h1 := brg_sorted l (adj l (List.range l.length)) n
  have h2 := brg_nodup hl
  exact (h1.and h2).imp fun ⟨a, b⟩ => by omega
end Go.Proofs.Ytampfciacjifgaa
namespace Go.Proofs.Ytampfciacjifgaa
open Go.ChangeShapes Go.WideShapes Go.ChangeAt Go.RowKit
set_option linter.unusedVariables false
set_option linter.unusedSimpArgs false

theorem rall_any (p : Option Addr) (m cap : Nat) (w : World) (hm : m ≤ 4000) :
    Calls Try.prog 60 #[.slice p m cap] w fun e w' => ∃ v, e = .returned v ∧ Own w.heap.size w' v (List.range m) ∧ Below w.heap.size w w' := by
  obtain ⟨i0, hi, hz0, hz1, hz2⟩ := info_parts info3
  go_enter Try.func60, Try.ntmps60
  go_wp2
  go_loopw [3, 4] (fun v3 v4 wr => ∃ k : Nat, v4 = .int .i64 k ∧ k ≤ m ∧ Hid (Own w.heap.size wr v3 (List.range k)) ∧ Below w.heap.size w wr) (fun _ v _ => m - (intOf v).toNat)
  case atStart => exact ⟨0, rfl, Nat.zero_le _, Lib.hid (World.ownsRow_nil _ _ _ _), Below.refl _ _⟩
  case round =>
    obtain ⟨k, rfl, hk, hO, hB⟩ := hrel
    by_cases hlt : k < m
    · have g1 : decide ((k : Int) < (m : Int)) = true := by simp [hlt]
      have W1 : IntKind.i64.wrap ((k : Int) + 1) = ((k + 1 : Nat) : Int) := by rw [IntWalk.i64_in _ (by omega)]; omega
      have hl : (List.range k).length = k := List.length_range
      obtain ⟨xs, hxs⟩ : ∃ xs, xs = List.range k := ⟨_, rfl⟩
      rw [← hxs] at hO hl
      have e1 : List.range (k + 1) = xs ++ [k] := by rw [hxs, List.range_succ]
      have E1 := Lib.hid e1
      clear e1 hxs
      have HL := Lib.hid hl
      clear hl
      go_wp2_with (at_builtin; refine wpList_append_own_at _ rfl _ _ 29 rfl w.heap.size 3 i0 _ 1 8 Try.underlying29 hi hz0 hz1 hz2 rfl (by decide) _ xs.length (ints xs) rfl (own_on hO.out (al1 _ _)) ⟨_, 0, none⟩ 1 1 [.int .i64 (k : Int)] rfl rfl (cell_one_new _ _ _) (by simp [Value.oneCell']) (by have := HL.out; unfold maxLen; omega) (by have := HL.out; omega) (Nat.le_trans hB.size (al1 _ _).size) ?_)
      intro v' w2 o1 o2 o3 o4
      have O2 : Own w.heap.size w2 v' (List.range (k + 1)) := by
        rw [E1.out]
        unfold Own
        rw [ints_app, List.length_append]
        exact o1
      have B2 : Below w.heap.size w w2 := (hB.alloc hB.size _).grown o2 (Nat.le_trans hB.size (al1 _ _).size) (fun j hj => (World.ownsRow.lt hO.out _ hj).1)
      clear o1 o2 o3 o4
      go_wp2
      exact ⟨⟨k + 1, rfl, hlt, Lib.hid O2, B2⟩, by simp [intOf]; omega⟩
    · have g1 : decide ((k : Int) < (m : Int)) = false := by simp; omega
      have e : k = m := by omega
      subst e
      go_wp2
      go_ret
      exact ⟨_, rfl, hO.out, hB⟩
set_option maxRecDepth 100000 in
theorem bridges_no (p : Option Addr) (n : Int) (l : List (Int × Int)) (cap : Nat) (w : World) (hS : Sl w p l) (h : vG n l = false) :
    Calls Try.prog 25 #[.int .i64 n, .slice p l.length cap] w fun e w' => e = .returned (.tuple #[.slice none 0 0, .int .i64 1]) ∧ Below w.heap.size w w' := by
  have hE0 := Has.new_ w 22 #[.slice p l.length cap]
  have r0 : (w.alloc (.cells #[.slice p l.length cap] 22)).cell? ⟨w.heap.size, 0, none⟩ = some (.slice p l.length cap) := hE0.read 0
  have hv := valid_any p l cap n _ (hS.on (al1 w (.cells #[.slice p l.length cap] 22)))
  rw [h] at hv
  go_enter Try.func25, Try.ntmps25
  go_wp2_with (go_at_call 14; (with_reducible refine hv.mono ?_); rintro e w1 ⟨rfl, b1⟩)
  exact bodyPost_ret (v := .tuple #[.slice none 0 0, .int .i64 1]) (by simp [results, Try.results25, go_sem]) rfl ⟨rfl, belows (al1 _ _) b1⟩
set_option maxRecDepth 100000 in
theorem path_no (p : Option Addr) (n a b : Int) (l : List (Int × Int)) (cap : Nat) (w : World) (hS : Sl w p l) (h : vG n l = false) :
    Calls Try.prog 26 #[.int .i64 n, .slice p l.length cap, .int .i64 a, .int .i64 b] w fun e w' => e = .returned (.tuple #[.slice none 0 0, .int .i64 1]) ∧ Below w.heap.size w w' := by
  have hv := valid_any p l cap n w hS
  rw [h] at hv
  go_enter Try.func26, Try.ntmps26
  go_wp2_with (go_at_call 14; (with_reducible refine hv.mono ?_); rintro e w1 ⟨rfl, b1⟩)
  exact bodyPost_ret (v := .tuple #[.slice none 0 0, .int .i64 1]) (by simp [results, Try.results26, go_sem]) rfl ⟨rfl, b1⟩
set_option maxRecDepth 100000 in
theorem path_range (p : Option Addr) (n : Nat) (a b : Int) (l : List (Nat × Nat)) (cap : Nat) (w : World) (hG : Gr w p n l) (h : (wi a n && wi b n) = false) :
    Calls Try.prog 26 #[.int .i64 n, .slice p l.length cap, .int .i64 a, .int .i64 b] w fun e w' => e = .returned (.tuple #[.slice none 0 0, .int .i64 2]) ∧ Below w.heap.size w w' := by
  have hWa := fun W => within_any a (n : Int) W
  have hWb := fun W => within_any b (n : Int) W
  cases ha : wi a (n : Int)
  · rw [ha] at hWa
    go_enter Try.func26, Try.ntmps26
    go_wp2_with (first
      | (go_at_call 14; (with_reducible refine (valid_ok cap hG).mono ?_); rintro e w1 ⟨rfl, b1⟩)
      | (go_at_call 43; (with_reducible refine (hWa _).mono ?_); rintro e wz ⟨rfl, rfl⟩))
    exact bodyPost_ret (v := .tuple #[.slice none 0 0, .int .i64 2]) (by simp [results, Try.results26, go_sem]) rfl ⟨rfl, b1⟩
  · rw [ha, Bool.true_and] at h
    rw [ha] at hWa
    rw [h] at hWb
    go_enter Try.func26, Try.ntmps26
    go_wp2_with (first
      | (go_at_call 14; (with_reducible refine (valid_ok cap hG).mono ?_); rintro e w1 ⟨rfl, b1⟩)
      | (go_at_call 43; (with_reducible refine (hWa _).mono ?_); rintro e wz ⟨rfl, rfl⟩)
      | (go_at_call 43; (with_reducible refine (hWb _).mono ?_); rintro e wz ⟨rfl, rfl⟩))
    exact bodyPost_ret (v := .tuple #[.slice none 0 0, .int .i64 2]) (by simp [results, Try.results26, go_sem]) rfl ⟨rfl, b1⟩
/-- Whether edge i is one of the bridges. -/
def isB (l : List (Nat × Nat)) (n i : Nat) : Bool := decide (i ∈ brg l (adj l (List.range l.length)) n)
theorem isB_iff {l : List (Nat × Nat)} {n i : Nat} (hl : Ok l n) (hi : i < l.length) {R : Nat → Nat} (hL : Lab (ed l l.length i) R) : isB l n i = true ↔ R l[i].1 ≠ R l[i].2 := by
  have e0 : l[i]? = some l[i] := List.getElem?_eq_getElem hi
  have hi1 : Ic l i l[i].1 := ⟨_, e0, .inl rfl⟩
  have en : nx l i l[i].1 = l[i].2 := by rw [nx_is e0]; simp [oth]
  unfold isB
  rw [decide_eq_true_iff, brg_mem hl]
  constructor
  · rintro ⟨-, hb⟩ e
    refine hb _ hi1 ?_
    rw [en]
    exact cn_ce hl ((hL.c _).trans (by rw [e]; exact (hL.c _).symm))
  · intro h
    refine ⟨hi, is_brd hl hi1 fun c => h ?_⟩
    rw [en] at c
    exact hL.const (ce_cn c)
theorem isB_list {l : List (Nat × Nat)} {n : Nat} (hl : Ok l n) : (List.range l.length).filter (isB l n) = brg l (adj l (List.range l.length)) n := by
  refine sorted_uniq (List.pairwise_lt_range.filter _) (brg_lt hl) fun i => ?_
  rw [List.mem_filter, List.mem_range]
  unfold isB
  rw [decide_eq_true_iff]
  exact ⟨fun h => h.2, fun h => ⟨((brg_mem hl i).1 h).1, h⟩⟩
set_option maxRecDepth 100000 in
set_option maxHeartbeats 4000000 in
theorem rbridges_any (p : Option Addr) (n : Nat) (l : List (Nat × Nat)) (cap : Nat) (w : World) (hG : Gr w p n l) :
    Calls Try.prog 28 #[.int .i64 n, .slice p l.length cap] w fun e w' => ∃ v, e = .returned v ∧ Own w.heap.size w' v (brg l (adj l (List.range l.length)) n) ∧ Below w.heap.size w w' := by
  have hm := hG.2.1
  have hn := hG.2.2.1
  have hl : Ok l n := hG.2.2.2
  obtain ⟨i0, hi, hz0, hz1, hz2⟩ := info_parts info3
  have HF := Lib.hid (isB_list hl)
  go_enter Try.func28, Try.ntmps28
  go_wp2
  go_loopw [5, 6] (fun v5 v6 wr => ∃ k : Nat, v6 = .int .i64 k ∧ k ≤ l.length ∧ Hid (Own w.heap.size wr v5 ((List.range k).filter (isB l n))) ∧ Below w.heap.size w wr) (fun _ v _ => l.length - (intOf v).toNat)
  case atStart => exact ⟨0, rfl, Nat.zero_le _, Lib.hid (World.ownsRow_nil _ _ _ _), Below.refl _ _⟩
  case round =>
    obtain ⟨k, rfl, hk, hO, hB⟩ := hrel
    by_cases hlt : k < l.length
    · have g : decide ((k : Int) < (l.length : Int)) = true := by simp [hlt]
      have W1 : IntKind.i64.wrap ((k : Int) + 1) = ((k + 1 : Nat) : Int) := by rw [IntWalk.i64_in _ (by omega)]; omega
      have hkl : ((List.range k).filter (isB l n)).length ≤ k := Nat.le_trans (List.length_filter_le _ _) (by simp)
      have e1 := range_next (isB l n) k
      have hiff := fun R h => isB_iff (R := R) hl hlt h
      obtain ⟨ys, hys⟩ : ∃ ys, ys = (List.range k).filter (isB l n) := ⟨_, rfl⟩
      rw [← hys] at hkl e1 hO
      go_upto_region 6 with (go_at_call 44; (with_reducible refine (labels_any p n l.length (k : Int) l cap _ (hG.on hB) (Nat.le_refl _)).mono ?_); rintro e w1 ⟨v, xs, rfl, ho, hxn, hL, hb⟩)
      have hif := hiff _ hL
      have hlm := hl _ (List.getElem_mem hlt)
      obtain ⟨a, rfl, d0, d1, l1, l2, ne⟩ := (hG.on (belows hB hb)).at hlt
      obtain ⟨gg, c, rfl, hgB, hgg⟩ := World.ownsRow.form ho (by omega)
      have ca := Own.cell (n := xs.length) ho rfl (j := l[k].1) (by omega)
      have cb := Own.cell (n := xs.length) ho rfl (j := l[k].2) (by omega)
      rw [lf_at (by omega), lf_at (by omega)] at hif
      obtain ⟨x1, hx1⟩ : ∃ x, x = l[k].1 := ⟨_, rfl⟩
      obtain ⟨x2, hx2⟩ : ∃ x, x = l[k].2 := ⟨_, rfl⟩
      obtain ⟨va, hva⟩ : ∃ v, v = xs[l[k].1]'(by omega) := ⟨_, rfl⟩
      obtain ⟨vb, hvb⟩ : ∃ v, v = xs[l[k].2]'(by omega) := ⟨_, rfl⟩
      rw [← hva] at ca hif
      rw [← hvb] at cb hif
      rw [← hx1] at d0 ca l1
      rw [← hx2] at d1 cb l2
      have O1 := Lib.hid (own_on hO.out hb)
      have B1 := belows hB hb
      clear hiff hL hb hO hB hva hvb ne hlm
      have q1 : (0 : Int) ≤ (k : Int) := by omega
      have q2 : (k : Int) < (l.length : Int) := by omega
      have q3 : (0 : Int) ≤ (x1 : Int) := by omega
      have q4 : (x1 : Int) < (n : Int) := by omega
      have q5 : (0 : Int) ≤ (x2 : Int) := by omega
      have q6 : (x2 : Int) < (n : Int) := by omega
      have q7 : (x1 : Int) < (xs.length : Int) := by omega
      have q8 : (x2 : Int) < (xs.length : Int) := by omega
      clear hx1 hx2 ho hys
      cases hb : isB l n k
      · rw [hb] at e1 hif
        have hab : va = vb := Decidable.byContradiction fun h => by have := hif.2 h; cases this
        have t2 : ((va : Int) != (vb : Int)) = false := by simp [hab]
        simp only [Bool.false_eq_true, if_false, List.append_nil] at e1
        have E1 := Lib.hid e1
        clear e1 hif hab hb
        go_quiet (fail)
        go_wp2
        exact ⟨⟨k + 1, rfl, hlt, Lib.hid (by rw [E1.out]; exact own_on O1.out (below_drewN (Below.refl _ _) _)), below_drewN B1 _⟩, by simp [intOf]; omega⟩
      · rw [hb] at e1 hif
        have hab : va ≠ vb := hif.1 rfl
        have t2 : ((va : Int) != (vb : Int)) = true := by simp; omega
        simp only [if_true] at e1
        have E1 := Lib.hid e1
        clear e1 hif hab hb
        go_quiet (fail)
        have O2 := Lib.hid (own_on O1.out (below_drewN (Below.refl _ _) nq))
        have B2 := below_drewN B1 nq
        clear O1 B1 ca cb d0 d1
        generalize w1.drewN nq = W at *
        go_wp2_with (at_builtin; refine wpList_append_own_at _ rfl _ _ 29 rfl w.heap.size 3 i0 _ 1 8 Try.underlying29 hi hz0 hz1 hz2 rfl (by decide) _ ys.length (ints ys) rfl (own_on O2.out (al1 _ _)) ⟨_, 0, none⟩ 1 1 [.int .i64 (k : Int)] rfl rfl (cell_one_new _ _ _) (by simp [Value.oneCell']) (by unfold maxLen; omega) (by omega) (Nat.le_trans B2.size (al1 _ _).size) ?_)
        intro v' w2 o1 o2 o3 o4
        have O3 : Own w.heap.size w2 v' ((List.range (k + 1)).filter (isB l n)) := by
          rw [E1.out]
          unfold Own
          rw [ints_app, List.length_append]
          exact o1
        have B3 : Below w.heap.size w w2 := (B2.alloc B2.size _).grown o2 (Nat.le_trans B2.size (al1 _ _).size) (fun j hj => (World.ownsRow.lt O2.out _ hj).1)
        clear o1 o2 o3 o4
        go_wp2
        exact ⟨⟨k + 1, rfl, hlt, Lib.hid O3, B3⟩, by simp [intOf]; omega⟩
    · have g : decide ((k : Int) < (l.length : Int)) = false := by simp; omega
      have e : k = l.length := by omega
      have hO1 := hO.out
      rw [e, HF.out] at hO1
      have HO := Lib.hid hO1
      clear hO hO1 HF
      go_wp2
      go_ret
      exact ⟨_, rfl, HO.out, hB⟩
end Go.Proofs.Ytampfciacjifgaa
namespace Go.Proofs.Ytampfciacjifgaa
set_option linter.unusedVariables false
set_option linter.unusedSimpArgs false

theorem ed_erase {g : List (Nat × Nat)} {i : Nat} (hi : i < g.length) (a b : Nat) : ed (g.eraseIdx i) (g.eraseIdx i).length (-1) a b ↔ ed g g.length i a b := by
  constructor
  · rintro ⟨j, -, -, hx⟩
    rw [List.getElem?_eraseIdx] at hx
    by_cases c : j < i
    · rw [if_pos c] at hx
      exact ⟨j, (List.getElem?_eq_some_iff.1 hx).1, by omega, hx⟩
    · rw [if_neg c] at hx
      exact ⟨j + 1, (List.getElem?_eq_some_iff.1 hx).1, by omega, hx⟩
  · rintro ⟨j, hj, hn, hx⟩
    have hne : j ≠ i := by omega
    by_cases c : j < i
    · have h1 : (g.eraseIdx i)[j]? = some (a, b) := by rw [List.getElem?_eraseIdx, if_pos c]; exact hx
      exact ⟨j, (List.getElem?_eq_some_iff.1 h1).1, by omega, h1⟩
    · have h1 : (g.eraseIdx i)[j - 1]? = some (a, b) := by
        rw [List.getElem?_eraseIdx, if_neg (by omega), show j - 1 + 1 = j by omega]; exact hx
      exact ⟨j - 1, (List.getElem?_eq_some_iff.1 h1).1, by omega, h1⟩
/-- The first nodes without edge i. -/
def pe (g : List (Nat × Nat)) (i : Nat) : Nat → Nat := pre (g.eraseIdx i) (g.eraseIdx i).length
theorem pe_lab {g : List (Nat × Nat)} {i : Nat} (hi : i < g.length) : Lab (ed g g.length i) (pe g i) := (pre_lab (g.eraseIdx i) _ (Nat.le_refl _)).same fun a b => ed_erase hi a b
theorem pe_same {g : List (Nat × Nat)} {i : Nat} (hi : i < g.length) (h : pe g i g[i].1 = pe g i g[i].2) : pe g i = pre g g.length := by
  have L := pe_lab hi
  have L2 : Lab (ed g g.length (-1)) (pe g i) := ⟨fun a b ⟨j, hj, _, hx⟩ => by
    by_cases e : j = i
    · subst e
      rw [List.getElem?_eq_getElem hi] at hx
      have hx := Option.some.inj hx
      rw [hx] at h; exact h
    · exact L.e a b ⟨j, hj, by omega, hx⟩, fun j => (L.c j).mono fun a b ⟨j, hj, _, hx⟩ => ⟨j, hj, by omega, hx⟩, L.l⟩
  exact funext fun j => L2.uniq (pre_lab g _ (Nat.le_refl _)) j
theorem pe_join {g : List (Nat × Nat)} {i : Nat} (hi : i < g.length) : pre g g.length = joinR (pe g i) g[i].1 g[i].2 := by
  have L := (pe_lab hi).join g[i].1 g[i].2
  have L2 : Lab (ed g g.length (-1)) (joinR (pe g i) g[i].1 g[i].2) := L.same fun a b => by
    constructor
    · rintro (⟨j, hj, -, hx⟩ | ⟨rfl, rfl⟩)
      · exact ⟨j, hj, by omega, hx⟩
      · exact ⟨i, hi, by omega, List.getElem?_eq_getElem hi⟩
    · rintro ⟨j, hj, -, hx⟩
      by_cases e : j = i
      · subst e
        rw [List.getElem?_eq_getElem hi] at hx
        have hx := Option.some.inj hx
        exact .inr ⟨by rw [hx], by rw [hx]⟩
      · exact .inl ⟨j, hj, by omega, hx⟩
  exact funext fun j => (pre_lab g _ (Nat.le_refl _)).uniq L2 j
theorem erase_ok {g : List (Nat × Nat)} {n i : Nat} (hl : Ok g n) : Ok (g.eraseIdx i) n := fun x hx => hl x ((List.eraseIdx_sublist g i).subset hx)
theorem erase_len {g : List (Nat × Nat)} {i : Nat} (hi : i < g.length) : (g.eraseIdx i).length + 1 = g.length := by rw [List.length_eraseIdx, if_pos hi]; omega
/-- What is so without an edge that is no bridge, and without a bridge. -/
theorem less_same {g : List (Nat × Nat)} {n i : Nat} (hl : Ok g n) (hi : i < g.length) (h : isB g n i = false) : pre (g.eraseIdx i) (g.eraseIdx i).length = pre g g.length ∧ (outF (g.eraseIdx i) (g.eraseIdx i).length).length + 1 = (outF g g.length).length := by
  have e : pe g i g[i].1 = pe g i g[i].2 := Decidable.byContradiction fun c => by
    have := (isB_iff hl hi (pe_lab hi)).2 c
    rw [h] at this; cases this
  have e2 := pe_same hi e
  refine ⟨e2, ?_⟩
  have a := in_roots hl g.length (Nat.le_refl _)
  have b := in_roots (erase_ok (i := i) hl) (g.eraseIdx i).length (Nat.le_refl _)
  have c := in_out g g.length
  have d := in_out (g.eraseIdx i) (g.eraseIdx i).length
  have f := erase_len hi
  unfold pe at e2
  rw [e2] at b
  omega
theorem less_more {g : List (Nat × Nat)} {n i : Nat} (hl : Ok g n) (hi : i < g.length) (h : isB g n i = true) : (roots (pre (g.eraseIdx i) (g.eraseIdx i).length) n).length = (roots (pre g g.length) n).length + 1 ∧ (outF (g.eraseIdx i) (g.eraseIdx i).length).length = (outF g g.length).length := by
  have e := (isB_iff hl hi (pe_lab hi)).1 h
  have hm := hl _ (List.getElem_mem hi)
  have L := pre_lab (g.eraseIdx i) (g.eraseIdx i).length (Nat.le_refl _)
  have r := roots_join (n := n) (pre_le (g.eraseIdx i) _ (Nat.le_refl _)) (pre_id (g.eraseIdx i) _ (Nat.le_refl _)) hm.1 hm.2.1 (x := g[i].1) (y := g[i].2) e
  have pj := pe_join hi
  unfold pe at pj
  rw [← pj] at r
  refine ⟨r.symm, ?_⟩
  have a := in_roots hl g.length (Nat.le_refl _)
  have b := in_roots (erase_ok (i := i) hl) (g.eraseIdx i).length (Nat.le_refl _)
  have c := in_out g g.length
  have d := in_out (g.eraseIdx i) (g.eraseIdx i).length
  have f := erase_len hi
  omega
/-- Each edge of a forest is a bridge of it. -/
theorem forest_brd {g : List (Nat × Nat)} {n i : Nat} (hl : Ok g n) (hi : i < g.length) (h : outF g g.length = []) : isB g n i = true := by
  cases hb : isB g n i
  · have := (less_same hl hi hb).2
    rw [h] at this
    simp at this
  · rfl
theorem ff_ok {l : List (Nat × Nat)} {n : Nat} (hl : Ok l n) : Ok (ff l l.length) n := fun x hx => by
  obtain ⟨i, hi, rfl⟩ := List.mem_map.1 hx
  have := (inF_mem.1 hi).1
  rw [List.getD_eq_getElem?_getD, List.getElem?_eq_getElem this]
  exact hl _ (List.getElem_mem this)
/-- No edge of the forest is on a way over the others. -/
theorem forest_alone {l : List (Nat × Nat)} {n i : Nat} (hl : Ok l n) (hi : i ∈ inF l l.length) {v : Nat} (hv : Ic l i v) : ¬ Ce l (fun j => j ∈ inF l l.length ∧ j ≠ i) v (nx l i v) := by
  intro c
  obtain ⟨q, hq, hqi⟩ := List.mem_iff_getElem.1 hi
  have hil := (inF_mem.1 hi).1
  have hqf : q < (ff l l.length).length := by rw [ff_len]; exact hq
  have at_ : ∀ p (h : p < (inF l l.length).length) x, l[(inF l l.length)[p]]? = some x → (ff l l.length)[p]? = some x := fun p h x hx => by
    unfold ff
    rw [List.getElem?_map, List.getElem?_eq_getElem h]
    simp [List.getD_eq_getElem?_getD, hx]
  have hb := forest_brd (ff_ok hl) hqf (ff_out l (Nat.le_refl _))
  have hL := isB_iff (ff_ok hl) hqf (pe_lab hqf)
  have hne := hL.1 hb
  -- the same way over the edges of the forest as a graph
  have key : ∀ u, Ce l (fun j => j ∈ inF l l.length ∧ j ≠ i) v u → pe (ff l l.length) q v = pe (ff l l.length) q u := by
    intro u hu
    induction hu with
    | refl => rfl
    | @tail b j _ hp hj ih =>
      rw [ih]
      obtain ⟨p, hp1, hp2⟩ := List.mem_iff_getElem.1 hp.1
      have hpq : p ≠ q := by
        rintro rfl
        exact hp.2 (by rw [← hp2, ← hqi])
      obtain ⟨x, hx, hxv⟩ := hj
      rw [← hp2] at hx
      have h3 := at_ p hp1 x hx
      have := (pe_lab hqf).e x.1 x.2 ⟨p, (List.getElem?_eq_some_iff.1 h3).1, by omega, h3⟩
      rw [← hp2, nx_is hx]
      unfold oth
      rcases hxv with e | e
      · rw [if_pos e, ← e]; exact this
      · by_cases e2 : x.1 = b
        · rw [if_pos e2, ← e2]; exact this
        · rw [if_neg e2, ← e]; exact this.symm
  have kc := key _ c
  have hx0 : l[i]? = some l[i] := List.getElem?_eq_getElem hil
  have hfq : (ff l l.length)[q] = l[i] := by
    have h3 := at_ q hq l[i] (by rw [hqi]; exact hx0)
    rw [List.getElem?_eq_getElem hqf] at h3
    exact Option.some.inj h3
  rw [hfq] at hne
  obtain ⟨x, hx, hxv⟩ := hv
  rw [hx0] at hx
  cases hx
  rw [nx_is hx0] at kc
  unfold oth at kc
  rcases hxv with e | e
  · rw [if_pos e, ← e] at kc; exact hne kc
  · by_cases e2 : l[i].1 = v
    · rw [if_pos e2, ← e2] at kc; exact hne kc
    · rw [if_neg e2, ← e] at kc; exact hne kc.symm
end Go.Proofs.Ytampfciacjifgaa
namespace Go.Proofs.Ytampfciacjifgaa
set_option linter.unusedVariables false
set_option linter.unusedSimpArgs false

theorem okw_ends {l : List (Nat × Nat)} {n : Nat} (hl : Ok l n) : ∀ (T : List Nat) (v : Nat), okw l v T → ∀ e ∈ T, ∀ y, Ic l e y → y ∈ nds l v T ++ [fin l v T]
  | i :: t, v, ⟨hv, h⟩, e, he, y, hy => by
    have first : nx l i v ∈ nds l (nx l i v) t ++ [fin l (nx l i v) t] := by
      cases t with
      | nil => simp [nds, fin]
      | cons j t => simp [nds]
    show y ∈ v :: (nds l (nx l i v) t ++ [fin l (nx l i v) t])
    rcases List.mem_cons.1 he with rfl | he
    · rcases ic_two hl hy hv with e | e
      · rw [e]; exact List.mem_cons_self
      · rw [e]; exact List.mem_cons_of_mem _ first
    · exact List.mem_cons_of_mem _ (okw_ends hl t _ h e he y hy)
theorem okw_nodup {l : List (Nat × Nat)} {n : Nat} (hl : Ok l n) : ∀ (T : List Nat) (v : Nat), okw l v T → (nds l v T ++ [fin l v T]).Nodup → T.Nodup
  | [], _, _, _ => List.nodup_nil
  | i :: t, v, ⟨hv, h⟩, hn => by
    have hn' : (v :: (nds l (nx l i v) t ++ [fin l (nx l i v) t])).Nodup := hn
    have hc := List.nodup_cons.1 hn'
    exact List.nodup_cons.2 ⟨fun hi => hc.1 (okw_ends hl t _ h i hi v hv), okw_nodup hl t _ h hc.2⟩
theorem okw_ce {l : List (Nat × Nat)} {P : Nat → Prop} : ∀ (T : List Nat) (v : Nat), okw l v T → (∀ e ∈ T, P e) → Ce l P v (fin l v T)
  | [], v, _, _ => .refl v
  | i :: t, v, ⟨hv, h⟩, hp => (Ce.one (hp i (by simp)) hv).trans (okw_ce t _ h fun e he => hp e (by simp [he]))
theorem way_nodup {l : List (Nat × Nat)} {n : Nat} (hl : Ok l n) {xs : List Nat} {f : Nat → Int} {u v m : Nat} {T1 T2 : List Nat} (W : Wy l xs f u v T1 T2 m) : (T1 ++ T2.reverse).Nodup := by
  have nd := W.nd
  have h1 : (nds l u T1 ++ [m]).Nodup := by
    have : (nds l u T1 ++ [m]).Sublist (nds l u T1 ++ (nds l v T2 ++ [m])) := (List.sublist_append_right _ _).append_left _
    exact nd.sublist this
  have h2 : (nds l v T2 ++ [m]).Nodup := nd.sublist (List.sublist_append_right _ _)
  have d1 := okw_nodup hl T1 u W.o1 (by rw [W.f1]; exact h1)
  have d2 := okw_nodup hl T2 v W.o2 (by rw [W.f2]; exact h2)
  refine List.nodup_append.2 ⟨d1, (List.reverse_perm T2).nodup_iff.2 d2, fun a ha b hb e => ?_⟩
  subst e
  have hb := List.mem_reverse.1 hb
  -- both ends lie on both ways, so both are where they meet
  have both : ∀ y, Ic l a y → y = m := fun y hy => by
    have m1 := okw_ends hl T1 u W.o1 a ha y hy
    have m2 := okw_ends hl T2 v W.o2 a hb y hy
    rw [W.f1] at m1
    rw [W.f2] at m2
    rcases List.mem_append.1 m1 with k | k
    · exact absurd rfl ((List.nodup_append.1 nd).2.2 y k y m2)
    · exact List.mem_singleton.1 k
  have hex : ∃ y, Ic l a y := by
    clear both h1 h2 d1 d2 nd hb
    have ho := W.o1
    generalize u = z at ho
    clear W
    induction T1 generalizing z with
    | nil => cases ha
    | cons i t ih =>
      rcases List.mem_cons.1 ha with rfl | ha
      · exact ⟨_, ho.1⟩
      · exact ih ha _ ho.2
  obtain ⟨y, hy⟩ := hex
  have k := ic_nx hl hy
  exact k.2.2.1 ((both _ k.1).trans (both y hy).symm)
/-- An edge on a closed way that has no edge twice is no bridge. -/
theorem closed_not {l : List (Nat × Nat)} {n : Nat} (hl : Ok l n) {es : List Nat} {v i : Nat} (ho : okw l v es) (hf : fin l v es = v) (hn : es.Nodup) (hi : i ∈ es) : ¬ Brd l i := by
  obtain ⟨a, b, rfl⟩ := List.append_of_mem hi
  have hd := List.nodup_append.1 hn
  have hb := List.nodup_cons.1 hd.2.1
  have o := (okw_app l a (i :: b) v).1 ho
  have oi : Ic l i (fin l v a) := o.2.1
  have ob : okw l (nx l i (fin l v a)) b := o.2.2
  have fb : fin l (nx l i (fin l v a)) b = v := by rw [fin_app] at hf; exact hf
  have c1 := okw_ce (P := fun j => j ≠ i) a v o.1 fun e he h => by
    subst h
    exact hd.2.2 e he e (by simp) rfl
  have c2 := okw_ce (P := fun j => j ≠ i) b _ ob fun e he h => by
    subst h
    exact hb.1 he
  rw [fb] at c2
  exact not_brd oi ((c1.symm hl).trans (c2.symm hl))
/-- What a cycle that is found is, as a way. -/
theorem cyc_way {l : List (Nat × Nat)} {n : Nat} {f : Nat → Int} {ro : Nat → Nat} (hl : Ok l n) (h : Fo (nbr l n (adj l (inF l l.length))) n n f ro) {i : Nat} (hi : i ∈ outF l l.length) :
    ∃ t, cyc l f i = i :: t ∧ (∀ j ∈ t, j ∈ inF l l.length) ∧ t.Nodup ∧ ∃ v, Ic l i v ∧ okw l (nx l i v) t ∧ fin l (nx l i v) t = v := by
  obtain ⟨hil, hj⟩ := outF_mem.1 hi
  have hx := hl _ (List.getElem_mem hil)
  have e0 : l[i]? = some l[i] := List.getElem?_eq_getElem hil
  have er := (ro_edge hl h i hil).symm
  have ec := cyc_at (f := f) hil
  obtain ⟨m, W⟩ := wk_way hl h (f l[i].2 + f l[i].1).toNat l[i].2 l[i].1 hx.2.1 hx.1 er (Nat.le_refl _)
  have dn := way_nodup hl W
  generalize (wk l (adj l (inF l l.length)) f (f l[i].2 + f l[i].1).toNat l[i].2 l[i].1).1 = T1 at *
  generalize (wk l (adj l (inF l l.length)) f (f l[i].2 + f l[i].1).toNat l[i].2 l[i].1).2 = T2 at *
  obtain ⟨r1, r2, r3⟩ := okw_rev hl T2 l[i].1 W.o2
  rw [W.f2] at r1 r2 r3
  have en : nx l i l[i].1 = l[i].2 := by rw [nx_at e0]; simp [oth]
  refine ⟨_, ec, fun j hj => ?_, dn, l[i].1, ⟨_, e0, .inl rfl⟩, ?_, ?_⟩
  · rcases List.mem_append.1 hj with k | k
    · exact W.e1 j k
    · exact W.e2 j (List.mem_reverse.1 k)
  · rw [en, okw_app, W.f1]; exact ⟨W.o1, r1⟩
  · rw [en, fin_app, W.f1, r2]
theorem cyc_not {l : List (Nat × Nat)} {n : Nat} {f : Nat → Int} {ro : Nat → Nat} (hl : Ok l n) (h : Fo (nbr l n (adj l (inF l l.length))) n n f ro) {i j : Nat} (hi : i ∈ outF l l.length) (hj : j ∈ cyc l f i) : ¬ Brd l j := by
  obtain ⟨t, e, hin, hn, v, hv, ho, hf⟩ := cyc_way hl h hi
  rw [e] at hj
  refine closed_not hl (es := i :: t) (v := v) ⟨hv, ho⟩ hf (List.nodup_cons.2 ⟨fun c => ?_, hn⟩) hj
  have := (inF_mem.1 (hin i c)).2
  rw [(outF_mem.1 hi).2] at this; cases this
theorem cyc_brd {l : List (Nat × Nat)} {n : Nat} {f : Nat → Int} {ro : Nat → Nat} (hl : Ok l n) (h : Fo (nbr l n (adj l (inF l l.length))) n n f ro) {j : Nat} (hj : j < l.length) (hno : ∀ i ∈ outF l l.length, j ∉ cyc l f i) : Brd l j := by
  have e0 : l[j]? = some l[j] := List.getElem?_eq_getElem hj
  have hv : Ic l j l[j].1 := ⟨_, e0, .inl rfl⟩
  have hin : j ∈ inF l l.length := by
    cases hjj : joins l j
    · have ho : j ∈ outF l l.length := outF_mem.2 ⟨hj, hjj⟩
      obtain ⟨t, e, -⟩ := cyc_way hl h ho
      exact absurd (by rw [e]; simp) (hno j ho)
    · exact inF_mem.2 ⟨hj, hjj⟩
  refine is_brd hl hv fun c => forest_alone hl hin hv ?_
  -- each other edge is a way over the forest without j
  have key : ∀ u, Ce l (fun i => i ≠ j) l[j].1 u → Ce l (fun i => i ∈ inF l l.length ∧ i ≠ j) l[j].1 u := by
    intro u hu
    induction hu with
    | refl => exact .refl _
    | @tail b i _ hp hi ih =>
      have hil : i < l.length := by
        obtain ⟨x, hx, -⟩ := hi
        exact (List.getElem?_eq_some_iff.1 hx).1
      cases hji : joins l i
      · have ho : i ∈ outF l l.length := outF_mem.2 ⟨hil, hji⟩
        obtain ⟨t, e, ht, -, v, hv2, how, hfw⟩ := cyc_way hl h ho
        have nj : j ∉ t := fun k => hno i ho (by rw [e]; simp [k])
        have c1 := okw_ce (P := fun i => i ∈ inF l l.length ∧ i ≠ j) t _ how fun e2 he => ⟨ht e2 he, fun k => nj (k ▸ he)⟩
        rw [hfw] at c1
        rcases ic_two hl hi hv2 with k | k
        · rw [k]
          rw [k] at ih
          exact ih.trans (c1.symm hl)
        · rw [k] at ih ⊢
          have x := ic_nx hl hv2
          rw [x.2.1]
          exact ih.trans c1
      · exact ih.tail i ⟨inF_mem.2 ⟨hil, hji⟩, hp⟩ hi
  exact key _ c
/-- Whether one of the lists has a number. -/
def anyC (C : List (List Nat)) (i : Nat) : Bool := C.any fun xs => xs.contains i
theorem cyc_isB {l : List (Nat × Nat)} {n : Nat} {f : Nat → Int} {ro : Nat → Nat} (hl : Ok l n) (h : Fo (nbr l n (adj l (inF l l.length))) n n f ro) {j : Nat} (hj : j < l.length) : anyC ((outF l l.length).map (cyc l f)) j = !isB l n j := by
  have hm : isB l n j = true ↔ Brd l j := by
    unfold isB
    rw [decide_eq_true_iff, brg_mem hl]
    exact ⟨fun h => h.2, fun h => ⟨hj, h⟩⟩
  unfold anyC
  rw [List.any_map]
  cases hb : isB l n j
  · have nb : ¬ Brd l j := fun k => by rw [hm.2 k] at hb; cases hb
    rw [Bool.not_false, List.any_eq_true]
    refine Decidable.byContradiction fun hn => nb (cyc_brd hl h hj fun i hi hc => hn ⟨i, hi, ?_⟩)
    simpa using hc
  · rw [Bool.not_true, List.any_eq_false]
    intro i hi hc
    exact cyc_not hl h hi (by simpa using hc) (hm.1 hb)
end Go.Proofs.Ytampfciacjifgaa
namespace Go.Proofs.Ytampfciacjifgaa
open Go.ChangeShapes Go.WideShapes Go.ChangeAt Go.RowKit
set_option linter.unusedVariables false
set_option linter.unusedSimpArgs false

theorem nan_any (x : Int) (w : World) : Calls Try.prog 75 #[.int .i64 x] w fun e w' => e = .returned (.bool false) ∧ w' = w := by
  go_enter Try.func75, Try.ntmps75
  go_wp2
  go_ret
  exact ⟨by simp, rfl⟩
theorem less_any (x y : Int) (w : World) (h : ¬ x < y) : Calls Try.prog 62 #[.int .i64 x, .int .i64 y] w fun e w' => e = .returned (.bool false) ∧ w' = w := by
  have h1 := fun W => nan_any x W
  have g : decide (x < y) = false := decide_eq_false h
  go_enter Try.func62, Try.ntmps62
  go_wp2_with (go_at_call 75; (with_reducible refine (h1 _).mono ?_); rintro e1 w1 ⟨rfl, rfl⟩)
  go_ret
  exact ⟨rfl, rfl⟩
set_option maxRecDepth 100000 in
theorem sorted_any (v : Value) (xs : List Nat) (w : World) (hR : Rdl w v xs) (hx : xs.length ≤ 100000) (hs : xs.Pairwise fun a b => a ≤ b) :
    Calls Try.prog 31 #[v] w fun e w' => e = .returned (.bool true) ∧ Below w.heap.size w w' := by
  obtain ⟨q, c, rfl, hq⟩ := hR
  have W0 : IntKind.i64.wrap ((xs.length : Int) - 1) = (xs.length : Int) - 1 := by rw [IntWalk.i64_in _ (by omega)]
  go_enter Try.func31, Try.ntmps31
  go_wp2
  go_loopw [3] (fun v wr => ∃ z : Int, v = .int .i64 z ∧ -1 ≤ z ∧ z ≤ (xs.length : Int) - 1 ∧ Below w.heap.size w wr) (fun v _ => (intOf v).toNat)
  case atStart => exact ⟨_, rfl, by omega, Int.le_refl _, Below.refl _ _⟩
  case round =>
    obtain ⟨z, rfl, hz1, hz2, hB⟩ := hrel
    by_cases hp : 0 < z
    · obtain ⟨k, rfl⟩ : ∃ k : Nat, z = (k : Int) := ⟨z.toNat, by omega⟩
      have hk : k < xs.length := by omega
      obtain ⟨j, hj⟩ : ∃ j, k = j + 1 := ⟨k - 1, by omega⟩
      have W1 : IntKind.i64.wrap ((k : Int) - 1) = (j : Int) := by rw [IntWalk.i64_in _ (by omega)]; omega
      obtain ⟨g, rfl, c1⟩ := hq k hk
      obtain ⟨g', e, c2⟩ := hq j (by omega)
      cases e
      have d1 := cell_later hB c1
      have d2 := cell_later hB c2
      clear c1 c2
      have hle : xs[j]'(by omega) ≤ xs[k] := List.pairwise_iff_getElem.1 hs j k (by omega) hk (by omega)
      obtain ⟨x, hxe⟩ : ∃ x, x = xs[k] := ⟨_, rfl⟩
      obtain ⟨y, hye⟩ : ∃ y, y = xs[j]'(by omega) := ⟨_, rfl⟩
      rw [← hxe] at d1 hle
      rw [← hye] at d2 hle
      have hLs := fun W => less_any (x : Int) (y : Int) W (by omega)
      have HJ := Lib.hid hj
      clear hxe hye
      have q1 : (0 : Int) ≤ (k : Int) := by omega
      have q2 : (k : Int) < (xs.length : Int) := by omega
      have q3 : (0 : Int) ≤ (j : Int) := by omega
      have q4 : (j : Int) < (xs.length : Int) := by omega
      have g1 : decide (0 < (k : Int)) = true := decide_eq_true hp
      clear hj
      go_wp2_with fail
      go_quiet (exact Calls.quiet_of_same (hLs _))
      go_wp2
      exact ⟨⟨(j : Int), rfl, by omega, by omega, below_drewN hB _⟩, by have := HJ.out; simp [intOf]; omega⟩
    · have g1 : decide (0 < z) = false := decide_eq_false hp
      go_wp2
      go_ret
      exact ⟨rfl, hB⟩
theorem in_any (u : Value) (xs : List Nat) (a A : Nat) (w : World) (h : Rdl w u xs) (hx : xs.length ≤ 100000) (ha : w.cell? ⟨A, 0, none⟩ = some (.int .i64 a)) :
    Calls Try.prog 33 #[u, .pointer (some ⟨A, 0, none⟩)] w fun e w' => e = .returned (.bool (hasS xs a)) ∧ Below w.heap.size w w' := by
  have h1 := contains_any u xs a w h hx
  rw [show xs.contains a = hasS xs a from rfl] at h1
  go_enter Try.func33, Try.ntmps33
  go_wp2_with (go_at_call 30; (with_reducible refine h1.mono ?_); rintro e w1 ⟨rfl, rfl⟩)
  go_ret
  exact ⟨rfl, Below.refl _ _⟩
end Go.Proofs.Ytampfciacjifgaa
namespace Go.Proofs.Ytampfciacjifgaa
open Go.ChangeShapes Go.WideShapes Go.ChangeAt Go.RowKit
set_option linter.unusedVariables false
set_option linter.unusedSimpArgs false

set_option maxRecDepth 100000 in
theorem idxc_any (v : Value) (ls : List (List Nat)) (a A : Nat) (w : World) (hN : Rdn w v ls) (hl : ls.length ≤ 100000) (hx : ∀ x ∈ ls, x.length ≤ 100000) (ha : w.cell? ⟨A, 0, none⟩ = some (.int .i64 a)) :
    Calls Try.prog 63 #[v, .func (.func 33) #[] #[.pointer (some ⟨A, 0, none⟩)]] w fun e w' => ∃ i : Int, e = .returned (.int .i64 i) ∧ decide (0 ≤ i) = anyC ls a ∧ Below w.heap.size w w' := by
  obtain ⟨q, c, rfl, hq⟩ := hN
  go_enter Try.func63, Try.ntmps63
  go_wp2
  go_loopw [8] (fun v wr => ∃ k : Nat, v = .int .i64 k ∧ k ≤ ls.length ∧ Hid (∀ x ∈ ls.take k, hasS x a = false) ∧ Below w.heap.size w wr) (fun v _ => ls.length - (intOf v).toNat)
  case atStart => exact ⟨0, rfl, Nat.zero_le _, Lib.hid (by simp), Below.refl _ _⟩
  case round =>
    obtain ⟨k, rfl, hk, hG, hB⟩ := hrel
    by_cases hlt : k < ls.length
    · have g1 : decide ((k : Int) < (ls.length : Int)) = true := by simp [hlt]
      obtain ⟨g, u, rfl, cu, hr⟩ := hq k hlt
      have cu := cell_later hB cu
      have hr := hr.on hB
      have ha := cell_later hB ha
      have W1 : IntKind.i64.wrap ((k : Int) + 1) = ((k + 1 : Nat) : Int) := by rw [IntWalk.i64_in _ (by omega)]; omega
      have q1 : (0 : Int) ≤ (k : Int) := by omega
      have q2 : (k : Int) < (ls.length : Int) := by omega
      have hf := in_any u ls[k] a A wr hr (hx _ (List.getElem_mem hlt)) ha
      cases hv : hasS ls[k] a
      · rw [hv] at hf
        go_wp2_with (go_at_call 33; (with_reducible refine hf.mono ?_); rintro e1 w1 ⟨rfl, hb1⟩)
        refine ⟨⟨k + 1, rfl, hlt, Lib.hid ?_, belows hB hb1⟩, by simp [intOf]; omega⟩
        intro x hx'
        rw [List.take_succ_eq_append_getElem hlt, List.mem_append] at hx'
        rcases hx' with hx' | hx'
        · exact hG.out x hx'
        · rw [List.mem_singleton.1 hx']; exact hv
      · rw [hv] at hf
        have e : anyC ls a = true := List.any_eq_true.2 ⟨_, List.getElem_mem hlt, hv⟩
        go_wp2_with (go_at_call 33; (with_reducible refine hf.mono ?_); rintro e1 w1 ⟨rfl, hb1⟩)
        go_ret
        exact ⟨_, rfl, by rw [e]; simp, belows hB hb1⟩
    · have g1 : decide ((k : Int) < (ls.length : Int)) = false := by simp; omega
      go_wp2
      go_ret
      have := hG.out
      rw [List.take_of_length_le (by omega)] at this
      have e : anyC ls a = false := List.any_eq_false.2 fun x hx => by have h := this x hx; unfold hasS at h; rw [h]; simp
      exact ⟨-1, rfl, by rw [e]; rfl, hB⟩
theorem anyc_any (v : Value) (ls : List (List Nat)) (a A : Nat) (w : World) (hN : Rdn w v ls) (hl : ls.length ≤ 100000) (hx : ∀ x ∈ ls, x.length ≤ 100000) (ha : w.cell? ⟨A, 0, none⟩ = some (.int .i64 a)) :
    Calls Try.prog 32 #[v, .func (.func 33) #[] #[.pointer (some ⟨A, 0, none⟩)]] w fun e w' => e = .returned (.bool (anyC ls a)) ∧ Below w.heap.size w w' := by
  go_enter Try.func32, Try.ntmps32
  go_wp2_with (go_at_call 63; (with_reducible refine (idxc_any v ls a A _ hN hl hx ha).mono ?_); rintro e1 w1 ⟨i, rfl, hi, hb1⟩)
  go_ret
  exact ⟨rfl, hb1⟩

/-- Some cells stored, one after the other. -/
def spl (xs : List Value) (o : Nat) (vs : List Value) : List Value := xs.take o ++ vs ++ xs.drop (o + vs.length)
theorem spl_nil (xs : List Value) (o : Nat) : spl xs o [] = xs := by simp [spl]
theorem spl_cons (xs : List Value) (o : Nat) (v : Value) (vs : List Value) (h : o < xs.length) : spl (xs.set o v) (o + 1) vs = spl xs o (v :: vs) := by
  unfold spl
  rw [List.take_set, List.take_succ_eq_append_getElem h, List.set_append_right _ _ (by rw [List.length_take]; omega), List.drop_set, if_pos (by omega)]
  simp [show o - min o xs.length = 0 by omega, show o + 1 + vs.length = o + (vs.length + 1) by omega]
  all_goals omega
theorem own_cells {B : Nat} {e : TypeId} {s g n c : Nat} : ∀ (vs : List Value) (o : Nat) (w : World) (xs : List Value), w.ownsRow B e s (.slice (some ⟨g, 0, none⟩) n c) n xs → o + vs.length ≤ xs.length →
    (w.setCells g o vs).ownsRow B e s (.slice (some ⟨g, 0, none⟩) n c) n (spl xs o vs) ∧ At g w (w.setCells g o vs)
  | [], o, w, xs, h, _ => by rw [spl_nil]; exact ⟨h, At.refl _ _⟩
  | v :: vs, o, w, xs, h, hl => by
    have hl' : o < xs.length := by simp at hl; omega
    have h1 := (World.ownsRow.stored h o v).1
    have ih := own_cells vs (o + 1) _ _ h1 (by simp at hl ⊢; omega)
    rw [spl_cons xs o v vs hl'] at ih
    exact ⟨ih.1, ((At.refl g w).put o v).trans ih.2⟩
/-- Fewer elements of an owned row. -/
theorem own_take {B : Nat} {e : TypeId} {s g n c m : Nat} {w : World} {xs : List Value} (h : w.ownsRow B e s (.slice (some ⟨g, 0, none⟩) n c) n xs) (hm : m ≤ n) : w.ownsRow B e s (.slice (some ⟨g, 0, none⟩) m c) m (xs.take (m * s)) := by
  obtain ⟨hl, ⟨h', _⟩ | ⟨g', cap, cur, h', hb, hg, hnc, hcm, hcs, ht⟩⟩ := h
  · simp at h'
  · simp only [Value.slice.injEq, Option.some.injEq, Addr.mk.injEq, and_true, true_and] at h'
    obtain ⟨rfl, rfl⟩ := h'
    have hms : m * s ≤ n * s := Nat.mul_le_mul_right s hm
    refine ⟨by rw [List.length_take, hl]; omega, .inr ⟨g, c, cur, rfl, hb, hg, by omega, hcm, hcs, ?_⟩⟩
    rw [← ht, List.take_take, Nat.min_eq_left hms]
theorem pc_take : ∀ (xs : List (Nat × Nat)) (i : Nat), pc (xs.take i) = (pc xs).take (i * 2)
  | [], i => by simp [pc]
  | x :: xs, 0 => by simp [pc]
  | x :: xs, i + 1 => by
    have := pc_take xs i
    rw [show (i + 1) * 2 = i * 2 + 2 by omega]
    simpa [pc] using this
theorem pc_drop : ∀ (xs : List (Nat × Nat)) (i : Nat), pc (xs.drop i) = (pc xs).drop (i * 2)
  | [], i => by simp [pc]
  | x :: xs, 0 => by simp [pc]
  | x :: xs, i + 1 => by
    have := pc_drop xs i
    rw [show (i + 1) * 2 = i * 2 + 2 by omega]
    simpa [pc] using this
/-- The cells behind the two stores of Delete. -/
theorem del_cells {xs : List (Nat × Nat)} {i : Nat} (hi : i < xs.length) : (spl (spl (pc xs) (i * 2) (pc (xs.drop (i + 1)))) ((xs.length - 1) * 2) [.int .i64 0, .int .i64 0]).take ((xs.length - 1) * 2) = pc (xs.eraseIdx i) := by
  have h1 := pc_len xs
  have h2 : (pc (xs.drop (i + 1))).length = (xs.length - (i + 1)) * 2 := by rw [pc_len, List.length_drop]
  have e1 : spl (pc xs) (i * 2) (pc (xs.drop (i + 1))) = pc (xs.eraseIdx i) ++ (pc xs).drop ((xs.length - 1) * 2) := by
    unfold spl
    rw [h2, ← pc_take, ← pc_app, show i * 2 + (xs.length - (i + 1)) * 2 = (xs.length - 1) * 2 by omega, List.eraseIdx_eq_take_drop_succ]
  have h3 : (pc (xs.eraseIdx i)).length = (xs.length - 1) * 2 := by
    rw [pc_len, List.length_eraseIdx, if_pos hi]
  rw [e1]
  unfold spl
  rw [List.append_assoc, List.take_append_of_le_length (by rw [List.length_take, List.length_append, h3]; omega), List.take_take, Nat.min_self, List.take_append_of_le_length (by omega), List.take_of_length_le (by omega)]
end Go.Proofs.Ytampfciacjifgaa
namespace Go.Proofs.Ytampfciacjifgaa
open Go.ChangeShapes Go.WideShapes Go.ChangeAt Go.RowKit
set_option linter.unusedVariables false
set_option linter.unusedSimpArgs false

theorem pc_news {w : World} {a : Addr} {l : List (Nat × Nat)} (h : Fr w a (cast2 l)) : ∀ j u, (pc l)[j]? = some u → w.cell? (a.add j) = some u := by
  intro j u hj
  have hjl := (List.getElem?_eq_some_iff.1 hj).1
  rw [pc_len] at hjl
  have hi : j / 2 < l.length := by omega
  have hc := h (j / 2) (by rw [cast2_len]; exact hi)
  have hp := pc_at l (j / 2) hi
  rcases Nat.mod_two_eq_zero_or_one j with e | e
  · have ej : j = j / 2 * 2 := by omega
    rw [ej, hp.1] at hj
    rw [ej, hc.1, ← hj]
    simp [cast2]
  · have ej : j = j / 2 * 2 + 1 := by omega
    rw [ej, hp.2] at hj
    have e2 : (⟨(a.add (j / 2 * 2)).block, (a.add (j / 2 * 2)).off + 1, none⟩ : Addr) = a.add (j / 2 * 2 + 1) := by
      rw [← Go.Deep.add_add]; simp [Addr.add]
    rw [ej, ← e2, hc.2, ← hj]
    simp [cast2]
theorem pc_one (l : List (Nat × Nat)) : ∀ u ∈ pc l, u.oneCell' = true := by
  intro u hu
  unfold pc at hu
  obtain ⟨x, -, hx⟩ := List.mem_flatMap.1 hu
  simp at hx
  rcases hx with rfl | rfl <;> rfl
set_option maxRecDepth 100000 in
theorem clone_any (a : Addr) (n : Nat) (l : List (Nat × Nat)) (cap : Nat) (w : World) (hG : Gr w (some a) n l) (h0 : 0 < l.length) :
    Calls Try.prog 35 #[.slice (some a) l.length cap] w fun e w' => ∃ g c, e = .returned (.slice (some ⟨g, 0, none⟩) l.length c) ∧ w'.ownsRow w.heap.size 46 2 (.slice (some ⟨g, 0, none⟩) l.length c) l.length (pc l) ∧ Below w.heap.size w w' := by
  have hm := hG.2.1
  have hF := hG.1.2.1 a rfl
  obtain ⟨i0, hi, hz0, hz1, hz2⟩ := info_parts info46
  have q22 : ∀ (w : World) (a : Option Addr) (n c n' c' : Nat), (binOp .eql 22 (.slice a n c) (.slice none n' c')).run Try.prog w = .ok (.bool a.isNone) w := fun w a n c n' c' => Lib.run_eql_slice_nil w _ _ a n c n' c' Try.underlying22
  have HN := Lib.hid (pc_news (hF.on (al1 w (.cells #[] 46))))
  have HL := Lib.hid (pc_len l)
  clear hF hG
  go_enter Try.func35, Try.ntmps35
  go_wp2_with (at_builtin; refine wpList_append_own_at _ rfl _ _ 22 rfl w.heap.size 46 i0 _ 2 16 Try.underlying22 hi hz0 hz1 hz2 rfl (by decide) _ 0 [] rfl (World.ownsRow_made w #[] 0 (Nat.le_refl _) (Nat.zero_le _) rfl) a l.length cap (pc l) rfl HL.out HN.out (pc_one l) (by unfold maxLen; omega) (by omega) (by simp) ?_)
  intro v' w2 o1 o2 o3 o4
  obtain ⟨g, c, rfl, -, -⟩ := World.ownsRow.form o1 h0
  have b2 : Below w.heap.size w w2 := ((Below.refl _ w).alloc (Nat.le_refl _) _).grown o2 (by simp) (by intro k hk; simp [Value.ownBlock] at hk; omega)
  have O1 := Lib.hid o1
  clear o1 o2 o3 o4
  go_wp2
  go_ret
  exact ⟨g, c, rfl, O1.out, b2⟩
theorem zero46 (w : World) : (zeroValue 46).run Try.prog w = .ok (.agg #[.int .i64 0, .int .i64 0]) w := by kernel_rfl
theorem run_clear_pair (w : World) (ty : TypeId) (b o c : Nat) (hc : ∀ j, j < 2 → (w.cell? ⟨b, o + j, none⟩).isSome = true) (hf : ∀ j, j < 2 → w.frozen? ⟨b, o + j, none⟩ = false) :
    (Builtin.clear_ #[22] ty #[.slice (some ⟨b, o, none⟩) 1 c]).run Try.prog w = .ok (.tuple #[]) (w.setCells b o [.int .i64 0, .int .i64 0]) := by
  have hzc : (Builtin.zeroCells (Value.agg #[.int .i64 0, .int .i64 0]).cells 1).toList = [.int .i64 0, .int .i64 0] := by
    simp [Builtin.zeroCells, Value.cells]
    rfl
  have hst := run_storeCells_cells (P := Try.prog) b o [.int .i64 0, .int .i64 0] 0 w (by simpa using hc) (by simpa using hf) (by simp [Value.oneCell'])
  simp only [Nat.add_zero] at hst
  simp [Builtin.clear_, run_underlying Try.underlying22, zero46, hzc, hst]
set_option maxRecDepth 1000000 in
set_option maxHeartbeats 4000000 in
theorem delete_any (B g c i j : Nat) (xs : List (Nat × Nat)) (w : World) (hO : w.ownsRow B 46 2 (.slice (some ⟨g, 0, none⟩) xs.length c) xs.length (pc xs)) (hi : i < xs.length) (hj : j = i + 1) (hx : xs.length ≤ 4000) :
    Calls Try.prog 34 #[.slice (some ⟨g, 0, none⟩) xs.length c, .int .i64 i, .int .i64 j] w fun e w' => e = .returned (.slice (some ⟨g, 0, none⟩) (xs.length - 1) c) ∧ w'.ownsRow B 46 2 (.slice (some ⟨g, 0, none⟩) (xs.length - 1) c) (xs.length - 1) (pc (xs.eraseIdx i)) ∧ ∀ D, D ≤ g → Below D w w' := by
  obtain ⟨i0, hi0, hz0, hz1, hz2⟩ := info_parts info46
  have hcap : xs.length ≤ c ∧ c ≤ 9223372036854775807 := by
    obtain ⟨-, ⟨h', _⟩ | ⟨g', cap, cur, h', hb, hg, hnc, hcm, -⟩⟩ := hO
    · simp at h'
    · simp only [Value.slice.injEq, Option.some.injEq, Addr.mk.injEq, and_true, true_and] at h'
      obtain ⟨rfl, rfl⟩ := h'
      exact ⟨hnc, by unfold maxLen at hcm; omega⟩
  obtain ⟨news, hnews⟩ : ∃ news, news = pc (xs.drop j) := ⟨_, rfl⟩
  have hlen : news.length = (xs.length - j) * 2 := by rw [hnews, pc_len, List.length_drop]
  have hat : ∀ t, t < xs.length * 2 → w.cell? ⟨g, t, none⟩ = (pc xs)[t]? := fun t ht => World.ownsRow.cellAt hO t ht
  have hpl := pc_len xs
  have hsome : ∀ t, t < xs.length * 2 → (w.cell? ⟨g, t, none⟩).isSome = true := fun t ht => by
    rw [hat t ht, List.getElem?_eq_getElem (by omega)]; rfl
  have hfr : ∀ t, w.frozen? ⟨g, t, none⟩ = false := fun t => World.ownsRow.frozenAt hO t
  obtain ⟨A, hA, hsrc⟩ : ∃ A : Addr, (if c = j then some (⟨g, 0, none⟩ : Addr) else some ⟨g, j * 2, none⟩) = some A ∧ Hid (∀ t u, news[t]? = some u → w.drew.cell? (A.add t) = some u) := by
    by_cases h : c = j
    · refine ⟨⟨g, 0, none⟩, by simp [h], Lib.hid fun t u hu => ?_⟩
      have h0 : news.length = 0 := by rw [hlen]; omega
      rw [List.length_eq_zero_iff.1 h0] at hu
      simp at hu
    · refine ⟨⟨g, j * 2, none⟩, by simp [h], Lib.hid fun t u hu => ?_⟩
      have ht : t < (xs.length - j) * 2 := by
        have := (List.getElem?_eq_some_iff.1 hu).1
        rwa [hlen] at this
      rw [hnews, pc_drop, List.getElem?_drop] at hu
      rw [Addr.add_lit]
      exact (hat (j * 2 + t) (by omega)).trans hu
  have s1 : Hid (news.length = (xs.length - j) * 2) := Lib.hid hlen
  have s2 : Hid (∀ u ∈ news, u.oneCell' = true) := Lib.hid (by rw [hnews]; exact pc_one _)
  have s3 : Hid (∀ t, t < news.length → (w.drew.cell? ⟨g, 0 + i * 2 + t, none⟩).isSome = true ∧ w.drew.frozen? ⟨g, 0 + i * 2 + t, none⟩ = false) := Lib.hid fun t ht => by
    rw [hlen] at ht
    exact ⟨hsome _ (by omega), hfr _⟩
  obtain ⟨W1, hW1⟩ : ∃ W1, W1 = w.drew.setCells g (0 + i * 2) news := ⟨_, rfl⟩
  have hOd : w.drew.ownsRow B 46 2 (.slice (some ⟨g, 0, none⟩) xs.length c) xs.length (pc xs) := hO
  have o1 := own_cells news (0 + i * 2) w.drew (pc xs) hOd (by rw [hlen, hpl]; omega)
  rw [← hW1] at o1
  have hl1 : (spl (pc xs) (0 + i * 2) news).length = xs.length * 2 := o1.1.1
  have hm1 : xs.length - 1 = i + (xs.length - j) := by omega
  have hcl : ∀ ty, (Builtin.clear_ #[22] ty #[.slice (some ⟨g, (i + (xs.length - j)) * 2, none⟩) (xs.length - (i + (xs.length - j))) (c - (i + (xs.length - j)))]).run Try.prog W1 = .ok (.tuple #[]) (W1.setCells g ((i + (xs.length - j)) * 2) [.int .i64 0, .int .i64 0]) :=
    fun ty => by
      rw [show xs.length - (i + (xs.length - j)) = 1 by omega]
      exact run_clear_pair W1 ty g _ _ (fun t ht => by rw [World.ownsRow.cellAt o1.1 _ (by omega), List.getElem?_eq_getElem (by omega)]; rfl) (fun t ht => World.ownsRow.frozenAt o1.1 _)
  have o2 := own_cells [.int .i64 0, .int .i64 0] ((i + (xs.length - j)) * 2) W1 _ o1.1 (by rw [hl1]; simp; omega)
  have o3 := own_take o2.1 (show xs.length - 1 ≤ xs.length by omega)
  have eD : (spl (spl (pc xs) (0 + i * 2) news) ((i + (xs.length - j)) * 2) [.int .i64 0, .int .i64 0]).take ((xs.length - 1) * 2) = pc (xs.eraseIdx i) := by
    rw [hnews, hj, Nat.zero_add, show (i + (xs.length - (i + 1))) * 2 = (xs.length - 1) * 2 by omega]
    exact del_cells hi
  rw [eD] at o3
  have oA := o1.2.trans o2.2
  have oA2 : At g w (W1.setCells g ((i + (xs.length - j)) * 2) [.int .i64 0, .int .i64 0]) := ⟨oA.os, oA.tape, oA.output, oA.size, oA.block⟩
  have HE := Lib.hid (And.intro o3 oA2)
  have hW : Hid (W1 = w.drew.setCells g (0 + i * 2) news) := Lib.hid hW1
  have HJ := Lib.hid hj
  have hij : i ≤ j := by omega
  have hijn : i ≠ j := by omega
  have hjx : j ≤ xs.length := by omega
  have hic : i ≤ c := by omega
  have hjc : j ≤ c := by omega
  clear hO hOd o1 o2 o3 oA oA2 eD hW1 hnews hlen hat hsome hfr hl1 hpl hj hz0 hz2
  go_enter Try.func34, Try.ntmps34
  go_wp2_with fail
  go_region_law (refine step_append_room rfl (.tmp 22) (.tmp 25) 22 rfl 46 i0 2 Try.underlying22 hi0 hz1 g 0 i c (by simp [Act.eval, Act.put]) A (xs.length - j) (c - j) news (by simp [Act.eval, Act.put]) s1.out hsrc.out s2.out (by omega) s3.out ?_; rw [← hW.out])
  all_goals (
    go_wp2
    go_ret
    exact ⟨congrArg Ending.returned (by show Value.slice (some ⟨g, 0, none⟩) (i + (xs.length - j)) c = _; rw [← hm1]), HE.out.1, fun D hD => (At.below HE.out.2 hD)⟩)
end Go.Proofs.Ytampfciacjifgaa
namespace Go.Proofs.Ytampfciacjifgaa
open Go.ChangeShapes Go.WideShapes Go.ChangeAt Go.RowKit
set_option linter.unusedVariables false
set_option linter.unusedSimpArgs false

theorem ocycles (p : Option Addr) (n : Nat) (l : List (Nat × Nat)) (cap : Nat) (w : World) (hG : Gr w p n l) :
    Calls Try.prog 19 #[.int .i64 n, .slice p l.length cap] w fun e w' => ∃ v C, e = .returned (.tuple #[v, .int .i64 0]) ∧ Nest w.heap.size w' v C ∧ C.length = (outF l l.length).length ∧ (∀ i, i < l.length → anyC C i = !isB l n i) ∧ (∀ xs ∈ C, xs.length ≤ 100000) ∧ Below w.heap.size w w' := by
  refine (cycles_ok p n l cap w hG).mono ?_
  rintro e w' ⟨v, f, ro, he, hF, hN, hb⟩
  have hl : Ok l n := hG.2.2.2
  have hn := hG.2.2.1
  refine ⟨v, _, he, hN, by simp, fun i hi => cyc_isB hl hF hi, fun xs hxs => ?_, hb⟩
  obtain ⟨i, hi, rfl⟩ := List.mem_map.1 hxs
  obtain ⟨h1, t, h2, h3, h4⟩ := cyc_cyB hl hF hi
  rw [h2, List.length_cons]; omega
theorem del2 (B g c i j m : Nat) (xs L : List (Nat × Nat)) (w : World) (hO : w.ownsRow B 46 2 (.slice (some ⟨g, 0, none⟩) xs.length c) xs.length (pc xs)) (hi : i < xs.length) (hj : j = i + 1) (hx : xs.length ≤ 4000) (hm : m ≤ 1000) (hl : Ok xs m) (hL : L = xs.eraseIdx i) (hB : B ≤ g) :
    Calls Try.prog 34 #[.slice (some ⟨g, 0, none⟩) xs.length c, .int .i64 i, .int .i64 j] w fun e w' => ∃ q cc, e = .returned (.slice q L.length cc) ∧ Gr w' q m L ∧ Below B w w' := by
  refine (delete_any B g c i j xs w hO hi hj hx).mono ?_
  rintro e w' ⟨he, ho, hb⟩
  have hlen : xs.length - 1 = L.length := by rw [hL, List.length_eraseIdx, if_pos hi]
  rw [hlen, ← hL] at ho
  rw [hlen] at he
  obtain ⟨q, cc, ev, G⟩ := own_gr ho (by omega) hm (by rw [hL]; exact erase_ok hl)
  exact ⟨q, cc, by rw [he, ev], G, hb B hB⟩
set_option maxRecDepth 100000 in
set_option maxHeartbeats 8000000 in
theorem gopens_walk (p : Option Addr) (l : List (Int × Int)) (cap : Nat) (n : Int) (w : World) (hS : Sl w p l) :
    Calls Try.prog 7 #[.int .i64 n, .slice p l.length cap] w fun e w' => e = .returned (.bool true) ∧ Below w.heap.size w w' := by
  have hR := fun W h => rgt_any p l cap n W h
  cases hr : rg n l.length (vG n l)
  · rw [hr] at hR
    go_enter Try.func7, Try.ntmps7
    go_wp2_with (first
      | (go_at_call 9; (with_reducible refine (awake_any _).mono ?_); rintro e w1 ⟨rfl, b1⟩; have S1 := hS.on b1)
      | (go_at_call 29; (with_reducible refine (hR _ S1).mono ?_); rintro e w2 ⟨rfl, b2⟩))
    go_ret
    exact ⟨rfl, belows b1 b2⟩
  rw [hr] at hR
  unfold rg at hr
  rw [Bool.and_eq_true] at hr
  obtain ⟨m, k, rfl, rfl, hlen, hG⟩ := gr_of_valid hS hr.2
  rw [hlen] at hR ⊢
  clear hr hlen
  have hOk : Ok k m := hG.2.2.2
  have hm := hG.2.2.1
  have hk := hG.2.1
  have pb := parts_bounds (R := pre k k.length) hm
  have hBl : (brg k (adj k (List.range k.length)) m).length ≤ k.length := by
    rw [← isB_list hOk]
    have := List.length_filter_le (isB k m) (List.range k.length)
    rwa [List.length_range] at this
  have hBs := brg_sorted k (adj k (List.range k.length)) m
  have hBc : ∀ i, (brg k (adj k (List.range k.length)) m).contains i = isB k m i := fun i => by
    unfold isB; rw [List.contains_eq_mem]
  have hno := fun i (hi : i < k.length) (h : isB k m i = false) => less_same hOk hi h
  have hye := fun i (hi : i < k.length) (h : isB k m i = true) => less_more hOk hi h
  rw [show (roots (pre k k.length) m).length = (partsL (pre k k.length) m).length from (partsL_len _ _).symm] at hye
  have hOl := outF_len k k.length
  have f11 := fun W h => parts_ok p m k cap W h
  have f25 := fun W h => bridges_ok p m k cap W h
  have f19 := fun W h => ocycles p m k cap W h
  have hPsame : ∀ i (hi : i < k.length), isB k m i = false → partsL (pre (k.eraseIdx i) (k.eraseIdx i).length) m = partsL (pre k k.length) m ∧ (outF (k.eraseIdx i) (k.eraseIdx i).length).length + 1 = (outF k k.length).length := fun i hi h => by
    obtain ⟨h1, h2⟩ := hno i hi h
    exact ⟨by rw [h1], h2⟩
  have hPmore : ∀ i (hi : i < k.length), isB k m i = true → (partsL (pre (k.eraseIdx i) (k.eraseIdx i).length) m).length = (partsL (pre k k.length) m).length + 1 ∧ (outF (k.eraseIdx i) (k.eraseIdx i).length).length = (outF k k.length).length := fun i hi h => by
    obtain ⟨h1, h2⟩ := hye i hi h
    exact ⟨by rw [partsL_len, h1], h2⟩
  have hG0 := hG.on (Below.refl _ _)
  clear hno hye
  generalize partsL (pre k k.length) m = P at *
  generalize brg k (adj k (List.range k.length)) m = B at *
  generalize (outF k k.length).length = O at *
  generalize isB k m = bf at *
  have HS := Lib.hid (And.intro hPsame hPmore)
  have HB := Lib.hid (And.intro hBl (And.intro hBs hBc))
  have HOK := Lib.hid hOk
  clear hPsame hPmore hBl hBs hBc hOk hG
  have tB : decide ((B.length : Int) ≤ (k.length : Int)) = true := decide_eq_true (by have := HB.out.1; omega)
  go_enter Try.func7, Try.ntmps7
  go_wp2_with (first
    | (go_at_call 9; (with_reducible refine (awake_any _).mono ?_); rintro e w1 ⟨rfl, b1⟩; have G1 := hG0.on b1)
    | (go_at_call 29; (with_reducible refine (hR _ (gr_sl G1)).mono ?_); rintro e w2 ⟨rfl, b2⟩; have G2 := G1.on b2)
    | (go_at_call 11; (with_reducible refine (f11 w2 G2).mono ?_); rintro e w3 ⟨v3, rfl, o3, b3⟩; have G3 := G2.on b3; have r3 := o3.rd; obtain ⟨q3, c3, rfl, k3⟩ := (show Rdn w3 v3 P from r3))
    | (go_at_call 25; (with_reducible refine (f25 w3 G3).mono ?_); rintro e w4 ⟨v4, rfl, o4, b4⟩; have G4 := G3.on b4; have r34 := Rdn.on r3 b4; have r4 := Own.rd o4; obtain ⟨q4, c4, rfl, k4⟩ := (show Rdl w4 v4 B from r4))
    | (go_at_call 19; (with_reducible refine (f19 w4 G4).mono ?_); rintro e w5 ⟨v5, C, rfl, o5, hC0, hCi, hCx, b5⟩; have hC := Lib.hid hC0; clear hC0; have G5 := G4.on b5; have r35 := Rdn.on r34 b5; have r45 := r4.on b5; have r5 := o5.rd; obtain ⟨q5, c5, rfl, k5⟩ := (show Rdn w5 v5 C from r5))
    | (go_at_call 31; (with_reducible refine (sorted_any _ B w5 r45 (by have := HB.out.1; omega) HB.out.2.1).mono ?_); rintro e w6 ⟨rfl, b6⟩; have G6 := G5.on b6; have r36 := Rdn.on r35 b6; have r46 := r45.on b6; have r56 := Rdn.on r5 b6))
  have hb6 := belows (belows (belows (belows (belows b1 b2) b3) b4) b5) b6
  have hCl : C.length ≤ 4000 := by have := hC.out; omega
  have HC := Lib.hid (And.intro hC.out (And.intro hCi hCx))
  have R3 := Lib.hid r36
  have R4 := Lib.hid r46
  have R5 := Lib.hid r56
  clear hC hCi hCx k3 k4 k5 r3 r34 r35 r36 r4 r45 r46 r5 r56 o3 o4 o5 G1 G2 G3 G4 G5 b1 b2 b3 b4 b5 b6 f11 f25 f19 hR hG0
  go_loopw [59] (fun v59 wr => ∃ i : Nat, v59 = .int .i64 i ∧ i ≤ k.length ∧ Below w6.heap.size w6 wr) (fun v _ => k.length - (intOf v).toNat)
  case atStart => exact ⟨0, rfl, Nat.zero_le _, Below.refl _ _⟩
  case round =>
    obtain ⟨i, rfl, hi, hB⟩ := hrel
    by_cases hlt : i < k.length
    · have g1 : decide ((i : Int) < (k.length : Int)) = true := by simp [hlt]
      obtain ⟨j, hj⟩ : ∃ j, j = i + 1 := ⟨_, rfl⟩
      have W1 : IntKind.i64.wrap ((i : Int) + 1) = (j : Int) := by rw [IntWalk.i64_in _ (by omega)]; omega
      have GA := (G6.on hB).on (al1 wr (.cells #[.int .i64 (i : Int)] 3))
      have bA := hB.alloc hB.size (.cells #[.int .i64 (i : Int)] 3)
      have cA : (wr.alloc (.cells #[.int .i64 (i : Int)] 3)).cell? ⟨wr.heap.size, 0, none⟩ = some (.int .i64 (i : Int)) := (Has.new_ wr 3 #[.int .i64 (i : Int)]).read 0
      have r3 := Rdn.on R3.out bA
      have r4 := R4.out.on bA
      have r5 := Rdn.on R5.out bA
      have f30 := contains_any (.slice q4 B.length c4) B i _ r4 (by have := HB.out.1; omega)
      rw [HB.out.2.2 i] at f30
      have f32 := fun W h1 h2 => anyc_any (.slice q5 C.length c5) C i wr.heap.size W h1 (by omega) HC.out.2.2 h2
      rw [HC.out.2.1 i hlt] at f32
      have HI := Lib.hid hlt
      have HJ := Lib.hid hj
      have zA : wr.heap.size < (wr.alloc (.cells #[.int .i64 (i : Int)] 3)).heap.size := by simp
      cases hb : bf i
      · rw [hb] at f30 f32
        go_upto_region 16 with (first
          | (go_at_call 30; (with_reducible refine f30.mono ?_); rintro e w7 ⟨rfl, e7⟩; subst e7)
          | (go_at_call 32; (with_reducible refine (f32 _ r5 cA).mono ?_); rintro e w8 ⟨rfl, b8⟩))
        have G8 := GA.on b8
        have c8 := cell_later b8 cA
        have r38 := Rdn.on r3 b8
        have B8 : Below w6.heap.size w6 w8 := bA.trans (b8.mono bA.size)
        obtain ⟨L, hLe⟩ : ∃ L, L = k.eraseIdx i := ⟨_, rfl⟩
        obtain ⟨a, rfl, -⟩ := G8.at hlt
        have HL := Lib.hid hLe
        have z8 : wr.heap.size < w8.heap.size := lt_of_cell c8
        have fdel := fun g c W (o : W.ownsRow w8.heap.size 46 2 (.slice (some ⟨g, 0, none⟩) k.length c) k.length (pc k)) hg => del2 w8.heap.size g c i j m k L W o hlt HJ.out hk hm HOK.out HL.out hg
        clear f30 f32 r3 r4 r5 GA bA cA b8 hj hLe zA
        go_cut [13] (fun s wx => ∃ q cc, s = .slice q L.length cc ∧ Gr wx q m L ∧ Below w8.heap.size w8 wx)
        case first =>
          have B0 := Below.refl w8.heap.size w8
          go_region_law (first
            | (go_simp; go_at_call 35; (refine (clone_any a m k cap _ (G8.on (show Below w8.heap.size w8 _ from (by repeat' (first | exact B0 | refine below_al ?_ _ | refine below_dr ?_)))) (Nat.lt_of_le_of_lt (Nat.zero_le _) hlt)).mono ?_); rintro e w9 ⟨g, cz, rfl, o9, b9⟩; have B9 : Below w8.heap.size w8 w9 := belows (show Below w8.heap.size w8 _ from (by repeat' (first | exact B0 | refine below_al ?_ _ | refine below_dr ?_))) b9; have c9 := cell_later B9 c8; have z9 : wr.heap.size < w9.heap.size := lt_of_cell c9; have O9 : w9.ownsRow w8.heap.size 46 2 (.slice (some ⟨g, 0, none⟩) k.length cz) k.length (pc k) := o9; have g9 := (World.ownsRow.lt O9 g rfl).1)
            | (go_simp; go_at_call 34; (refine (fdel g cz _ (own_on O9 (show Below w9.heap.size w9 _ from (by repeat' (first | exact Below.refl _ w9 | refine below_al ?_ _ | refine below_dr ?_)))) g9).mono ?_); rintro e wb ⟨q, cc, rfl, Gb, bb⟩; have Bb : Below w8.heap.size w8 wb := Below.trans B9 (Below.trans (show Below w8.heap.size w9 _ from (Below.mono (by repeat' (first | exact Below.refl _ w9 | refine below_al ?_ _ | refine below_dr ?_)) B9.size)) bb)))
          all_goals (go_wp2_with fail)
          all_goals go_meet
          all_goals exact ⟨_, _, rfl, Gb, Bb⟩
        case rest =>
          obtain ⟨q, cc, rfl, Gx, bx⟩ := hcut
          have r3x := Rdn.on r38 bx
          have Bx : Below w6.heap.size w6 wc := B8.trans (bx.mono B8.size)
          have hs := HS.out.1 i hlt hb
          rw [← HL.out] at hs
          have f11 := fun W h => parts_ok q m L cc W h
          have f20 := fun W h => count_ok q m L cc W h
          rw [hs.1] at f11
          obtain ⟨OL, hOL⟩ : ∃ OL, OL = (outF L L.length).length := ⟨_, rfl⟩
          rw [← hOL] at f20 hs
          have HO := Lib.hid hs.2
          have WC : IntKind.i64.wrap ((C.length : Int) - 1) = (OL : Int) := by
            have h1 := HC.out.1
            have h2 := HO.out
            rw [IntWalk.i64_in _ (by omega)]; omega
          have t9 : ((OL : Int) != (OL : Int)) = false := by simp
          clear hs hOL G8 r38 c8 fdel bx hb
          go_wp2_with (first
            | (go_at_call 11; (with_reducible refine (f11 _ Gx).mono ?_); rintro e wd ⟨vd, rfl, od, bd⟩; have Gd := Gx.on bd; have r3d := Rdn.on r3x bd; have rd := od.rd; obtain ⟨qd, cd, rfl, -⟩ := (show Rdn wd vd P from rd))
            | (go_at_call 20; (with_reducible refine (f20 _ Gd).mono ?_); rintro e we ⟨rfl, be⟩; have r3e := Rdn.on r3d be; have re := Rdn.on rd be)
            | (go_at_call 15; (with_reducible refine (same_any _ _ P P we re r3e pb.1 pb.2).mono ?_); rintro e wf ⟨rfl, bf'⟩; have BF := drewN_below bf'; have tP : decide (P = P) = true := decide_eq_true rfl))
          exact ⟨⟨j, rfl, by have := HJ.out; omega, belows (belows (belows Bx bd) be) BF⟩, by have := HJ.out; simp [intOf]; omega⟩
      · rw [hb] at f30 f32
        go_upto_region 16 with (first
          | (go_at_call 30; (with_reducible refine f30.mono ?_); rintro e w7 ⟨rfl, e7⟩; subst e7)
          | (go_at_call 32; (with_reducible refine (f32 _ r5 cA).mono ?_); rintro e w8 ⟨rfl, b8⟩))
        have G8 := GA.on b8
        have c8 := cell_later b8 cA
        have r38 := Rdn.on r3 b8
        have B8 : Below w6.heap.size w6 w8 := bA.trans (b8.mono bA.size)
        obtain ⟨L, hLe⟩ : ∃ L, L = k.eraseIdx i := ⟨_, rfl⟩
        obtain ⟨a, rfl, -⟩ := G8.at hlt
        have HL := Lib.hid hLe
        have z8 : wr.heap.size < w8.heap.size := lt_of_cell c8
        have fdel := fun g c W (o : W.ownsRow w8.heap.size 46 2 (.slice (some ⟨g, 0, none⟩) k.length c) k.length (pc k)) hg => del2 w8.heap.size g c i j m k L W o hlt HJ.out hk hm HOK.out HL.out hg
        clear f30 f32 r3 r4 r5 GA bA cA b8 hj hLe zA
        go_cut [13] (fun s wx => ∃ q cc, s = .slice q L.length cc ∧ Gr wx q m L ∧ Below w8.heap.size w8 wx)
        case first =>
          have B0 := Below.refl w8.heap.size w8
          go_region_law (first
            | (go_simp; go_at_call 35; (refine (clone_any a m k cap _ (G8.on (show Below w8.heap.size w8 _ from (by repeat' (first | exact B0 | refine below_al ?_ _ | refine below_dr ?_)))) (Nat.lt_of_le_of_lt (Nat.zero_le _) hlt)).mono ?_); rintro e w9 ⟨g, cz, rfl, o9, b9⟩; have B9 : Below w8.heap.size w8 w9 := belows (show Below w8.heap.size w8 _ from (by repeat' (first | exact B0 | refine below_al ?_ _ | refine below_dr ?_))) b9; have c9 := cell_later B9 c8; have z9 : wr.heap.size < w9.heap.size := lt_of_cell c9; have O9 : w9.ownsRow w8.heap.size 46 2 (.slice (some ⟨g, 0, none⟩) k.length cz) k.length (pc k) := o9; have g9 := (World.ownsRow.lt O9 g rfl).1)
            | (go_simp; go_at_call 34; (refine (fdel g cz _ (own_on O9 (show Below w9.heap.size w9 _ from (by repeat' (first | exact Below.refl _ w9 | refine below_al ?_ _ | refine below_dr ?_)))) g9).mono ?_); rintro e wb ⟨q, cc, rfl, Gb, bb⟩; have Bb : Below w8.heap.size w8 wb := Below.trans B9 (Below.trans (show Below w8.heap.size w9 _ from (Below.mono (by repeat' (first | exact Below.refl _ w9 | refine below_al ?_ _ | refine below_dr ?_)) B9.size)) bb)))
          all_goals (go_wp2_with fail)
          all_goals go_meet
          all_goals exact ⟨_, _, rfl, Gb, Bb⟩
        case rest =>
          obtain ⟨q, cc, rfl, Gx, bx⟩ := hcut
          have r3x := Rdn.on r38 bx
          have Bx : Below w6.heap.size w6 wc := B8.trans (bx.mono B8.size)
          have hs := HS.out.2 i hlt hb
          rw [← HL.out] at hs
          have f11 := fun W h => parts_ok q m L cc W h
          have f20 := fun W h => count_ok q m L cc W h
          generalize partsL (pre L L.length) m = PL at *
          obtain ⟨OL, hOL⟩ : ∃ OL, OL = (outF L L.length).length := ⟨_, rfl⟩
          rw [← hOL] at f20 hs
          have HO := Lib.hid hs
          have hPb := pb.1
          have WP : IntKind.i64.wrap ((P.length : Int) + 1) = (PL.length : Int) := by
            have h2 := HO.out.1
            rw [IntWalk.i64_in _ (by omega)]; omega
          have t9 : ((PL.length : Int) != (PL.length : Int)) = false := by simp
          have t10 : ((OL : Int) != (C.length : Int)) = false := by
            have h1 := HC.out.1
            have h2 := HO.out.2
            simp; omega
          clear hs hOL G8 r38 c8 fdel bx hb hPb
          go_wp2_with (first
            | (go_at_call 11; (with_reducible refine (f11 _ Gx).mono ?_); rintro e wd ⟨vd, rfl, od, bd⟩; have Gd := Gx.on bd; have rd := od.rd; obtain ⟨qd, cd, rfl, -⟩ := (show Rdn wd vd PL from rd))
            | (go_at_call 20; (with_reducible refine (f20 _ Gd).mono ?_); rintro e we ⟨rfl, be⟩))
          exact ⟨⟨j, rfl, by have := HJ.out; omega, belows (belows Bx bd) be⟩, by have := HJ.out; simp [intOf]; omega⟩
    · have g1 : decide ((i : Int) < (k.length : Int)) = false := by simp; omega
      have tBn : decide (B.length ≤ k.length) = true := decide_eq_true HB.out.1
      go_wp2
      go_ret
      exact ⟨rfl, belows hb6 hB⟩
end Go.Proofs.Ytampfciacjifgaa
