/- The cycles that are found are cycles. -/
import Derived.Test.YtampfciacjifgaaEu0
import Derived.Test.YtampfciacjifgaaCye
namespace Go.Proofs.Ytampfciacjifgaa
set_option linter.unusedVariables false
set_option linter.unusedSimpArgs false

/-- Nodes from which the listed edges lead on, the last one, and whether each edge is at its node. -/
def nds (l : List (Nat × Nat)) : Nat → List Nat → List Nat
  | _, [] => []
  | v, i :: t => v :: nds l (nx l i v) t
def fin (l : List (Nat × Nat)) : Nat → List Nat → Nat
  | v, [] => v
  | v, i :: t => fin l (nx l i v) t
def okw (l : List (Nat × Nat)) : Nat → List Nat → Prop
  | _, [] => True
  | v, i :: t => (∃ x, l[i]? = some x ∧ (x.1 = v ∨ x.2 = v)) ∧ okw l (nx l i v) t
theorem nds_app (l : List (Nat × Nat)) : ∀ (a b : List Nat) (v : Nat), nds l v (a ++ b) = nds l v a ++ nds l (fin l v a) b
  | [], _, _ => rfl
  | i :: a, b, v => by simp [nds, fin, nds_app l a b]
theorem fin_app (l : List (Nat × Nat)) : ∀ (a b : List Nat) (v : Nat), fin l v (a ++ b) = fin l (fin l v a) b
  | [], _, _ => rfl
  | i :: a, b, v => by simp [fin, fin_app l a b]
theorem okw_app (l : List (Nat × Nat)) : ∀ (a b : List Nat) (v : Nat), okw l v (a ++ b) ↔ okw l v a ∧ okw l (fin l v a) b
  | [], _, _ => by simp [okw, fin]
  | i :: a, b, v => by simp [okw, fin, okw_app l a b, and_assoc]
theorem nx_at {l : List (Nat × Nat)} {i v : Nat} {x : Nat × Nat} (h : l[i]? = some x) : nx l i v = oth x v := by unfold nx; rw [h]
theorem okw_rev {l : List (Nat × Nat)} {n : Nat} (hl : ∀ x ∈ l, x.1 < n ∧ x.2 < n ∧ x.1 ≠ x.2) : ∀ (t : List Nat) (v : Nat), okw l v t → okw l (fin l v t) t.reverse ∧ fin l (fin l v t) t.reverse = v ∧ nds l (fin l v t) t.reverse ++ [v] = (nds l v t ++ [fin l v t]).reverse
  | [], v, _ => by simp [okw, fin, nds]
  | i :: t, v, ⟨⟨x, hx, hv⟩, h⟩ => by
    obtain ⟨h1, h2, h3⟩ := okw_rev hl t (nx l i v) h
    have hm := hl x (List.mem_of_getElem? hx)
    have k := oth_inv hv hm.2.2
    have e : nx l i (nx l i v) = v := by rw [nx_at hx, nx_at hx]; exact k.1
    rw [List.reverse_cons]
    refine ⟨(okw_app l _ _ _).2 ⟨h1, ?_⟩, ?_, ?_⟩
    · show okw l (fin l (fin l (nx l i v) t) t.reverse) [i]
      rw [h2]
      exact ⟨⟨x, hx, by rw [nx_at hx]; exact k.2⟩, trivial⟩
    · show fin l (fin l (nx l i v) t) (t.reverse ++ [i]) = v
      rw [fin_app, h2]; exact e
    · show nds l (fin l (nx l i v) t) (t.reverse ++ [i]) ++ [v] = (v :: (nds l (nx l i v) t ++ [fin l (nx l i v) t])).reverse
      rw [nds_app, h2, List.reverse_cons, ← h3]
      simp [nds]
theorem cls_true {l : List (Nat × Nat)} {s : Nat} : ∀ (es seen : List Nat) (v : Nat), okw l v es → (∀ y ∈ nds l v es, y ∉ seen) → (nds l v es).Nodup → fin l v es = s → cls l s es seen v = true
  | [], seen, v, _, _, _, h => by simp [cls]; exact h
  | i :: t, seen, v, ⟨⟨x, hx, hv⟩, h⟩, hd, hn, he => by
    have h1 : hasS seen v = false := by
      have := hd v (by simp [nds])
      simpa [hasS] using this
    have h2 : at2 x.1 x.2 v = true := by
      unfold at2; rcases hv with e | e <;> simp [e]
    rw [cls_on h1 hx h2]
    have e : nx l i v = oth x v := nx_at hx
    simp only [nds, List.nodup_cons] at hn
    rw [e] at hn h
    refine cls_true t (v :: seen) (oth x v) h (fun y hy => ?_) hn.2 (by rw [← e]; exact he)
    simp only [List.mem_cons, not_or]
    refine ⟨fun e2 => hn.1 (by rw [e2] at hy; exact hy), hd y (by simp only [nds, List.mem_cons]; rw [e]; exact .inr hy)⟩

/-- What the way over the forest keeps. -/
structure Wy (l : List (Nat × Nat)) (xs : List Nat) (f : Nat → Int) (u v : Nat) (T1 T2 : List Nat) (m : Nat) : Prop where
  o1 : okw l u T1
  o2 : okw l v T2
  f1 : fin l u T1 = m
  f2 : fin l v T2 = m
  i1 : ∀ y ∈ nds l u T1 ++ [m], y = u ∨ f y < f u
  i2 : ∀ y ∈ nds l v T2 ++ [m], y = v ∨ f y < f v
  nd : (nds l u T1 ++ (nds l v T2 ++ [m])).Nodup
  e1 : ∀ i ∈ T1, i ∈ xs
  e2 : ∀ i ∈ T2, i ∈ xs
theorem wk_way {l : List (Nat × Nat)} {n : Nat} {xs : List Nat} {f : Nat → Int} {ro : Nat → Nat} (hl : ∀ x ∈ l, x.1 < n ∧ x.2 < n ∧ x.1 ≠ x.2) (h : Fo (nbr l n (adj l xs)) n n f ro) :
    ∀ (k u v : Nat), u < n → v < n → ro u = ro v → (f u + f v).toNat ≤ k → ∃ m, Wy l xs f u v (wk l (adj l xs) f k u v).1 (wk l (adj l xs) f k u v).2 m := by
  intro k
  induction k with
  | zero =>
    intro u v hu hv hr hk
    have a := h.all u hu
    have b := h.all v hv
    have e : u = v := by rw [← h.rz u (by omega), ← h.rz v (by omega)]; exact hr
    subst e
    exact ⟨u, trivial, trivial, rfl, rfl, by simp [wk, nds], by simp [wk, nds], by simp [wk, nds], by simp [wk], by simp [wk]⟩
  | succ k ih =>
    intro u v hu hv hr hk
    have a := h.all u hu
    have b := h.all v hv
    rw [wk]
    by_cases huv : u = v
    · subst huv
      rw [if_pos rfl]
      exact ⟨u, trivial, trivial, rfl, rfl, by simp [nds], by simp [nds], by simp [nds], by simp, by simp⟩
    rw [if_neg huv]
    have nz : ¬ (f u = 0 ∧ f v = 0) := fun ⟨p, q⟩ => huv (by rw [← h.rz u p, ← h.rz v q]; exact hr)
    by_cases c : f v ≤ f u
    · rw [if_pos c]
      obtain ⟨-, i, x, -, -, hi, hf, hx, lt, e, -, er⟩ := h.near hl hu (by omega)
      rw [hf]
      obtain ⟨m, W⟩ := ih (oth x u) v lt hv (er.trans hr) (by omega)
      have en : nx l i u = oth x u := nx_at hx
      obtain ⟨him, y, hy, hyu⟩ := adj_mem hi
      rw [hx] at hy; cases hy
      simp only [en]
      refine ⟨m, ⟨⟨x, hx, hyu⟩, by rw [en]; exact W.o1⟩, W.o2, by show fin l (nx l i u) _ = m; rw [en]; exact W.f1, W.f2, ?_, W.i2, ?_, ?_, W.e2⟩
      · intro y hy
        simp only [nds, en, List.cons_append, List.mem_cons] at hy
        rcases hy with hy | hy
        · exact .inl hy
        · rcases W.i1 y hy with k1 | k1
          · rw [k1]; right; omega
          · right; omega
      · simp only [nds, en, List.cons_append, List.nodup_cons]
        refine ⟨fun hm => ?_, W.nd⟩
        rcases List.mem_append.1 hm with hm | hm
        · rcases W.i1 u (List.mem_append.2 (.inl hm)) with k1 | k1
          · rw [← k1] at e; omega
          · omega
        · rcases W.i2 u hm with k1 | k1
          · exact huv k1
          · omega
      · intro j hj
        rcases List.mem_cons.1 hj with rfl | hj
        · exact him
        · exact W.e1 j hj
    · rw [if_neg c]
      obtain ⟨-, i, x, -, -, hi, hf, hx, lt, e, -, er⟩ := h.near hl hv (by omega)
      rw [hf]
      obtain ⟨m, W⟩ := ih u (oth x v) hu lt (hr.trans er.symm) (by omega)
      have en : nx l i v = oth x v := nx_at hx
      obtain ⟨him, y, hy, hyv⟩ := adj_mem hi
      rw [hx] at hy; cases hy
      simp only [en]
      refine ⟨m, W.o1, ⟨⟨x, hx, hyv⟩, by rw [en]; exact W.o2⟩, W.f1, by show fin l (nx l i v) _ = m; rw [en]; exact W.f2, W.i1, ?_, ?_, W.e1, ?_⟩
      · intro y hy
        simp only [nds, en, List.cons_append, List.mem_cons] at hy
        rcases hy with hy | hy
        · exact .inl hy
        · rcases W.i2 y hy with k1 | k1
          · rw [k1]; right; omega
          · right; omega
      · simp only [nds, en, List.cons_append]
        refine (List.perm_middle.nodup_iff).2 (List.nodup_cons.2 ⟨fun hm => ?_, W.nd⟩)
        rcases List.mem_append.1 hm with hm | hm
        · rcases W.i1 v (List.mem_append.2 (.inl hm)) with k1 | k1
          · exact huv k1.symm
          · omega
        · rcases W.i2 v hm with k1 | k1
          · rw [← k1] at e; omega
          · omega
      · intro j hj
        rcases List.mem_cons.1 hj with rfl | hj
        · exact him
        · exact W.e2 j hj
/-- The cycle of an edge that is not in the forest is a cycle; its other edges are in the forest. -/
theorem cyc_cyB {l : List (Nat × Nat)} {n : Nat} {f : Nat → Int} {ro : Nat → Nat} (hl : ∀ x ∈ l, x.1 < n ∧ x.2 < n ∧ x.1 ≠ x.2) (h : Fo (nbr l n (adj l (inF l l.length))) n n f ro) {i : Nat} (hi : i ∈ outF l l.length) :
    cyB l (cyc l f i) = true ∧ ∃ t, cyc l f i = i :: t ∧ (∀ j ∈ t, j ∈ inF l l.length) ∧ t.length ≤ 2 * n := by
  obtain ⟨hil, hj⟩ := outF_mem.1 hi
  have hx := hl _ (List.getElem_mem hil)
  have e0 : l[i]? = some l[i] := List.getElem?_eq_getElem hil
  have er := (ro_edge hl h i hil).symm
  have ec := cyc_at (f := f) hil
  have hne := wk_ne hl h hx.2.1 hx.1 (Ne.symm hx.2.2) er
  obtain ⟨m, W⟩ := wk_way hl h (f l[i].2 + f l[i].1).toNat l[i].2 l[i].1 hx.2.1 hx.1 er (Nat.le_refl _)
  have hlen := wk_len l (adj l (inF l l.length)) f (f l[i].2 + f l[i].1).toNat l[i].2 l[i].1
  have x1 := h.x l[i].1
  have x2 := h.x l[i].2
  generalize (wk l (adj l (inF l l.length)) f (f l[i].2 + f l[i].1).toNat l[i].2 l[i].1).1 = T1 at *
  generalize (wk l (adj l (inF l l.length)) f (f l[i].2 + f l[i].1).toNat l[i].2 l[i].1).2 = T2 at *
  have hin : ∀ j ∈ T1 ++ T2.reverse, j ∈ inF l l.length := fun j hj => by
    rcases List.mem_append.1 hj with k | k
    · exact W.e1 j k
    · exact W.e2 j (List.mem_reverse.1 k)
  refine ⟨?_, _, ec, hin, by simp only [List.length_append, List.length_reverse]; omega⟩
  have hl2 : 2 ≤ (cyc l f i).length := by rw [ec, List.length_cons]; omega
  have hne2 : (cyc l f i)[0] ≠ (cyc l f i)[1] := by
    intro e
    have e1 : (cyc l f i)[0] = i := by simp [ec]
    have e2 : (cyc l f i)[1] = (T1 ++ T2.reverse)[0] := by simp [ec]
    have := hin _ (List.getElem_mem hne)
    rw [← e2, ← e, e1] at this
    have := (inF_mem.1 this).2
    rw [hj] at this; cases this
  have ex : l[(cyc l f i)[0]]? = some l[i] := by
    have : (cyc l f i)[0] = i := by simp [ec]
    rw [this]; exact e0
  rw [cyB_ne hl2 hne2 ex, Bool.or_eq_true]
  left
  rw [ec]
  have en : nx l i l[i].1 = l[i].2 := by rw [nx_at e0]; simp [oth]
  obtain ⟨r1, r2, r3⟩ := okw_rev hl T2 l[i].1 W.o2
  rw [W.f2] at r1 r2 r3
  refine cls_true _ [] _ ⟨⟨l[i], e0, .inl rfl⟩, ?_⟩ (fun y _ => by simp) ?_ ?_
  · rw [en, okw_app, W.f1]; exact ⟨W.o1, r1⟩
  · show (l[i].1 :: nds l (nx l i l[i].1) (T1 ++ T2.reverse)).Nodup
    rw [en, nds_app, W.f1]
    have p : (l[i].1 :: (nds l l[i].2 T1 ++ nds l m T2.reverse)).Perm (nds l l[i].2 T1 ++ (nds l l[i].1 T2 ++ [m])) := by
      refine (List.perm_append_singleton _ _).symm.trans ?_
      rw [List.append_assoc, r3]
      exact (List.reverse_perm _).append_left _
    exact p.nodup_iff.2 W.nd
  · show fin l (nx l i l[i].1) (T1 ++ T2.reverse) = l[i].1
    rw [en, fin_app, W.f1, r2]
end Go.Proofs.Ytampfciacjifgaa
