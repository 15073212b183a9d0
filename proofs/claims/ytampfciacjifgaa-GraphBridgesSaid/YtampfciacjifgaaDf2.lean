/- The search in depth, step by step; all bridges are found. -/
import Derived.Test.YtampfciacjifgaaDf1
namespace Go.Proofs.Ytampfciacjifgaa
set_option linter.unusedVariables false
set_option linter.unusedSimpArgs false

theorem Fp.bye_ {l : List (Nat × Nat)} {n : Nat} (hl : Ok l n) {s t : St} {node bye r : Nat} {xs : List Nat} (h : Fp l s node bye xs t r) (p : Pr l s node bye) (hi : Ic l bye node) : Fp l s node bye (xs ++ [bye]) t r := by
  have hv : Vi t (nx l bye node) := by
    rcases p.by_ with ⟨-, h2, -⟩ | ⟨h1, -⟩
    · exact vi_gd h.gd h2
    · exact absurd hi (h1 node)
  refine ⟨h.f, h.gd, h.num, h.top, h.vis, h.cloD, fun j hj => ?_, fun v hv e => ?_, h.low1, h.lowD, fun j hj hb => ?_, h.lowa, h.brs, h.allD, fun j hj hb => ?_⟩
  · rcases List.mem_append.1 hj with k | k
    · exact h.cloN j k
    · rw [List.mem_singleton.1 k]; exact hv
  · obtain ⟨i, h1, h2, h3⟩ := h.con v hv e
    exact ⟨i, List.mem_append.2 (.inl h1), h2, h3⟩
  · rcases List.mem_append.1 hj with k | k
    · exact h.lowN j k hb
    · exact absurd (List.mem_singleton.1 k) hb
  · rcases List.mem_append.1 hj with k | k
    · exact h.allN j k hb
    · exact absurd (List.mem_singleton.1 k) hb
theorem Fp.seen {l : List (Nat × Nat)} {n : Nat} (hl : Ok l n) {s t : St} {node bye r i : Nat} {xs : List Nat} (h : Fp l s node bye xs t r) (p : Pr l s node bye) (hi : Ic l i node) (hb : i ≠ bye) (hx : i ∉ xs) (hv : Vi t (nx l i node)) :
    Fp l s node bye (xs ++ [i]) t (min r (t.fst (nx l i node))) := by
  have nb := back_edge hl h p hi hb hx hv
  have m1 : min r (t.fst (nx l i node)) ≤ r := Nat.min_le_left _ _
  have m2 : min r (t.fst (nx l i node)) ≤ t.fst (nx l i node) := Nat.min_le_right _ _
  have hself : Nw s t node := ⟨p.z, by rw [h.f]; omega⟩
  refine ⟨h.f, h.gd, h.num, h.top, h.vis, h.cloD, fun j hj => ?_, fun v hv e => ?_, Nat.le_trans m1 h.low1, fun v hv e j hj => Nat.le_trans m1 (h.lowD v hv e j hj), fun j hj hb2 => ?_, ?_, h.brs, h.allD, fun j hj hb2 hbr => ?_⟩
  · rcases List.mem_append.1 hj with k | k
    · exact h.cloN j k
    · rw [List.mem_singleton.1 k]; exact hv
  · obtain ⟨i, h1, h2, h3⟩ := h.con v hv e
    exact ⟨i, List.mem_append.2 (.inl h1), h2, h3⟩
  · rcases List.mem_append.1 hj with k | k
    · exact Nat.le_trans m1 (h.lowN j k hb2)
    · rw [List.mem_singleton.1 k]; exact m2
  · rcases Nat.le_total r (t.fst (nx l i node)) with a | a
    · rw [Nat.min_eq_left a]; exact h.lowa
    · rw [Nat.min_eq_right a]; exact .inr ⟨node, i, hself, hi, hb, hv, rfl⟩
  · rcases List.mem_append.1 hj with k | k
    · exact h.allN j k hb2 hbr
    · rw [List.mem_singleton.1 k] at hbr; exact absurd hbr nb
theorem Fp.child {l : List (Nat × Nat)} {n : Nat} (hl : Ok l n) {s t t' T : St} {node bye r r' i : Nat} {xs : List Nat} (h : Fp l s node bye xs t r) (p : Pr l s node bye) (hi : Ic l i node) (hb : i ≠ bye) (hx : i ∉ xs) (hv : t.fst (nx l i node) = 0) (V : Vp l t (nx l i node) i t' r')
    (Tf : T.fst = t'.fst) (Tv : T.vis = t'.vis) (Tb : (Brd l i ∧ T.brs = t'.brs ++ [i]) ∨ (¬ Brd l i ∧ T.brs = t'.brs)) : Fp l s node bye (xs ++ [i]) T (min r r') := by
  have k := ic_nx hl hi
  have hn : Vi t node := by unfold Vi; rw [h.f]; omega
  have m1 : min r r' ≤ r := Nat.min_le_left _ _
  have m2 : min r r' ≤ r' := Nat.min_le_right _ _
  have g2 : ∀ v, Vi t v → T.fst v = t.fst v := fun v hv => by rw [Tf]; exact V.gd v hv
  have up : ∀ {v}, Vi t v → Vi T v := fun hv => vi_gd g2 hv
  have tb : ∀ {j}, j ∈ t'.brs → j ∈ T.brs := fun hj => by
    rcases Tb with ⟨-, e⟩ | ⟨-, e⟩
    · rw [e]; exact List.mem_append.2 (.inl hj)
    · rw [e]; exact hj
  have tb0 : ∀ {j}, j ∈ t.brs → j ∈ T.brs := fun hj => by
    obtain ⟨new, e, -⟩ := V.brs
    exact tb (by rw [e]; exact List.mem_append.2 (.inl hj))
  have nT : ∀ v, Nw t T v ↔ Nw t t' v := fun v => by unfold Nw; rw [Tf]
  have sp : ∀ v, Nw s T v → Nw s t v ∨ Nw t t' v := fun v hv => by
    by_cases c : Vi t v
    · exact .inl ⟨hv.1, c⟩
    · right
      have c0 : t.fst v = 0 := by unfold Vi at c; omega
      exact ⟨c0, by rw [← Tf]; exact hv.2⟩
  have s1 : ∀ {v}, Nw s t v → Nw s T v := fun hv => ⟨hv.1, up hv.2⟩
  have s0 : ∀ {v}, t.fst v = 0 → s.fst v = 0 := fun {v} hv => by
    by_cases c : Vi s v
    · have := h.gd v c; unfold Vi at c; omega
    · unfold Vi at c; omega
  have s2 : ∀ {v}, Nw t t' v → Nw s T v := fun hv => ⟨s0 hv.1, by rw [Tf]; exact hv.2⟩
  have notD : ¬ Nw t t' node := fun e => hn e.1
  have hself : Nw s T node := s1 ⟨p.z, hn⟩
  have hw : Nw t t' (nx l i node) := ⟨hv, by rw [V.f]; omega⟩
  have bye_out : ∀ v, Nw t t' v → ¬ Ic l bye v := fun v hvv hc => by
    rcases p.by_ with ⟨h1, h2, -⟩ | ⟨h1, -⟩
    · rcases ic_two hl hc h1 with e | e
      · rw [e] at hvv; exact notD hvv
      · rw [e] at hvv; exact vi_gd h.gd h2 hvv.1
    · exact h1 v hc
  have inw : ∀ v, Nw t t' v → Ic l i v → v = nx l i node := fun v hvv hc => by
    rcases ic_two hl hc hi with e | e
    · rw [e] at hvv; exact absurd hvv notD
    · exact e
  refine ⟨by rw [g2 node hn, h.f], fun v hv => by rw [g2 v (vi_gd h.gd hv), h.gd v hv], fun v hv => ?_, fun v => by rw [Tf, Tv]; exact V.top v, by rw [Tv]; exact Nat.lt_trans h.vis V.vis, fun v hv e => ?_, fun j hj => ?_, fun v hv e => ?_, Nat.le_trans m1 h.low1, fun v hv e j hj => ?_, fun j hj hb2 => ?_, ?_, ?_, fun v hv e j hj hbr => ?_, fun j hj hb2 hbr => ?_⟩
  · rcases sp v hv with c | c
    · rw [g2 v c.2]; exact h.num v c
    · rw [Tf]; exact Nat.lt_trans h.vis (V.num v c)
  · rcases sp v hv with c | c
    · exact fun j hj => up (h.cloD v c e j hj)
    · exact fun j hj => by unfold Vi; rw [Tf]; exact V.clo v c j hj
  · rcases List.mem_append.1 hj with c | c
    · exact up (h.cloN j c)
    · rw [List.mem_singleton.1 c]; unfold Vi; rw [Tf]; exact hw.2
  · rcases sp v hv with c | c
    · obtain ⟨i', h1, h2, h3⟩ := h.con v c e
      exact ⟨i', List.mem_append.2 (.inl h1), h2, h3.mono fun j hj => ⟨fun u hu => s1 (hj.1 u hu), hj.2⟩⟩
    · refine ⟨i, List.mem_append.2 (.inr (List.mem_singleton.2 rfl)), hb, ?_⟩
      have c1 : Ce l (fun j => En l s T j ∧ (j = i ∨ ¬ Ic l j node)) v (nx l i node) := (V.con v c).mono fun j hj => ⟨fun u hu => s2 (hj u hu), .inr fun hc => notD (hj node hc)⟩
      have := c1.tail i ⟨fun u hu => by
        rcases ic_two hl hu hi with e2 | e2
        · rw [e2]; exact hself
        · rw [e2]; exact s2 hw, .inl rfl⟩ k.1
      rwa [k.2.1] at this
  · rcases sp v hv with c | c
    · rw [g2 _ (h.cloD v c e j hj)]; exact Nat.le_trans m1 (h.lowD v c e j hj)
    · by_cases ej : j = i
      · subst ej
        rw [inw v c hj, k.2.1, g2 node hn, h.f]
        exact Nat.le_trans m1 h.low1
      · rw [Tf]; exact Nat.le_trans m2 (V.low v c j hj ej)
  · rcases List.mem_append.1 hj with c | c
    · rw [g2 _ (h.cloN j c)]; exact Nat.le_trans m1 (h.lowN j c hb2)
    · rw [List.mem_singleton.1 c, Tf, V.f]; exact Nat.le_trans m2 V.low1
  · rcases Nat.le_total r r' with a | a
    · rw [Nat.min_eq_left a]
      rcases h.lowa with e | ⟨v, j, h1, h2, h3, h4, h5⟩
      · exact .inl e
      · exact .inr ⟨v, j, s1 h1, h2, h3, up h4, by rw [g2 _ h4]; exact h5⟩
    · rw [Nat.min_eq_right a]
      right
      rcases V.lowa with e | ⟨v, j, h1, h2, h3, h4, h5⟩
      · exact ⟨node, i, hself, hi, hb, by unfold Vi; rw [Tf]; exact hw.2, by rw [Tf, V.f, e]⟩
      · exact ⟨v, j, s2 h1, h2, fun e => bye_out v h1 (e ▸ h2), by unfold Vi; rw [Tf]; exact h4, by rw [Tf]; exact h5⟩
  · obtain ⟨n1, e1, a1, d1⟩ := h.brs
    obtain ⟨n2, e2, a2, d2⟩ := V.brs
    have dis : ∀ a ∈ n1, ∀ b ∈ n2, a ≠ b := fun a ha b hb e => by
      subst e
      obtain ⟨-, ⟨u, hu⟩, h3⟩ := a1 a ha
      exact (h3 u hu).2 ((a2 a hb).2.2 u hu).1
    have d12 : (n1 ++ n2).Nodup := List.nodup_append.2 ⟨d1, d2, dis⟩
    have a12 : ∀ j ∈ n1 ++ n2, Brd l j ∧ (∃ u, Ic l j u) ∧ En l s T j := fun j hj => by
      rcases List.mem_append.1 hj with c | c
      · obtain ⟨h1, h2, h3⟩ := a1 j c
        exact ⟨h1, h2, fun u hu => s1 (h3 u hu)⟩
      · obtain ⟨h1, h2, h3⟩ := a2 j c
        exact ⟨h1, h2, fun u hu => s2 (h3 u hu)⟩
    rcases Tb with ⟨hbr, e⟩ | ⟨-, e⟩
    · refine ⟨n1 ++ n2 ++ [i], by rw [e, e2, e1]; simp, fun j hj => ?_, List.nodup_append.2 ⟨d12, by simp, fun a ha b hb e3 => ?_⟩⟩
      · rcases List.mem_append.1 hj with c | c
        · exact a12 j c
        · rw [List.mem_singleton.1 c]
          refine ⟨hbr, ⟨node, hi⟩, fun u hu => ?_⟩
          rcases ic_two hl hu hi with e2 | e2
          · rw [e2]; exact hself
          · rw [e2]; exact s2 hw
      · rw [List.mem_singleton.1 hb] at e3
        subst e3
        rcases List.mem_append.1 ha with c | c
        · exact ((a1 a c).2.2 _ k.1).2 hv
        · exact notD ((a2 a c).2.2 node hi)
    · exact ⟨n1 ++ n2, by rw [e, e2, e1]; simp, a12, d12⟩
  · rcases sp v hv with c | c
    · exact tb0 (h.allD v c e j hj hbr)
    · by_cases ej : j = i
      · subst ej
        rcases Tb with ⟨-, e⟩ | ⟨nb, -⟩
        · rw [e]; simp
        · exact absurd hbr nb
      · exact tb (V.all v c j hj ej hbr)
  · rcases List.mem_append.1 hj with c | c
    · exact tb0 (h.allN j c hb2 hbr)
    · rw [List.mem_singleton.1 c] at hbr ⊢
      rcases Tb with ⟨-, e⟩ | ⟨nb, -⟩
      · rw [e]; simp
      · exact absurd hbr nb
theorem zc_lt {g h : Nat → Nat} (k : ∀ v, g v ≠ 0 → h v ≠ 0) {u : Nat} (h1 : g u = 0) (h2 : h u ≠ 0) : ∀ n, u < n → zc h n < zc g n
  | n + 1, hn => by
    have m := zc_mono k n
    rw [zc, zc]
    by_cases e : u = n
    · subst e; rw [if_neg h2, if_pos h1]; omega
    · have := zc_lt k h1 h2 n (by omega)
      have e := k n
      split <;> split <;> omega
theorem vst_all {l : List (Nat × Nat)} {n : Nat} (hl : Ok l n) : ∀ (k node bye : Nat) (s : St), node < n → Pr l s node bye → zc s.fst n ≤ k → Vp l s node bye (vst l (adj l (List.range l.length)) k node bye s).1 (vst l (adj l (List.range l.length)) k node bye s).2
  | 0, node, bye, s, hn, p, hk => by
    have := zc_pos p.z n hn
    omega
  | k + 1, node, bye, s, hn, p, hk => by
    have nd : (adj l (List.range l.length) node).Nodup := List.nodup_range.filter _
    have key : ∀ (ys xs : List Nat) (acc : St × Nat), xs ++ ys = adj l (List.range l.length) node → Fp l s node bye xs acc.1 acc.2 → Fp l s node bye (xs ++ ys) (ys.foldl (stp (vst l (adj l (List.range l.length)) k) l node bye) acc).1 (ys.foldl (stp (vst l (adj l (List.range l.length)) k) l node bye) acc).2 := by
      intro ys
      induction ys with
      | nil => intro xs acc e h; rw [List.append_nil]; exact h
      | cons i ys ih =>
        intro xs acc e h
        have hi : Ic l i node := ic_adj.1 (by rw [← e]; simp)
        have hx : i ∉ xs := by
          rw [← e] at nd
          have := (List.nodup_append.1 nd).2.2
          intro c
          exact this i c i (by simp) rfl
        have step : Fp l s node bye (xs ++ [i]) (stp (vst l (adj l (List.range l.length)) k) l node bye acc i).1 (stp (vst l (adj l (List.range l.length)) k) l node bye acc i).2 := by
          unfold stp
          by_cases hb : i = bye
          · rw [if_pos hb]
            subst hb
            exact h.bye_ hl p hi
          · rw [if_neg hb]
            by_cases hv : 0 < acc.1.fst (nx l i node)
            · rw [if_pos hv]
              exact h.seen hl p hi hb hx (by unfold Vi; omega)
            · rw [if_neg hv]
              have hv0 : acc.1.fst (nx l i node) = 0 := by omega
              have P := h.ask hl p hi hv0
              have hz : zc acc.1.fst n ≤ k := by
                have := zc_lt (g := s.fst) (h := acc.1.fst) (fun v hv => by rw [h.gd v hv]; exact hv) p.z (by rw [h.f]; omega) n hn
                omega
              have V := vst_all hl k (nx l i node) i acc.1 (ic_nx hl hi).2.2.2 P hz
              have cb := child_brd hl h p hi hv0 V
              generalize vst l (adj l (List.range l.length)) k (nx l i node) i acc.1 = res at *
              obtain ⟨t', r'⟩ := res
              simp only [] at V cb ⊢
              by_cases c : t'.fst node < r'
              · rw [if_pos c]
                exact h.child hl p hi hb hx hv0 V rfl rfl (.inl ⟨cb.1 c, rfl⟩)
              · rw [if_neg c]
                exact h.child hl p hi hb hx hv0 V rfl rfl (.inr ⟨fun b => c (cb.2 b), rfl⟩)
        have := ih (xs ++ [i]) _ (by rw [List.append_assoc]; exact e) step
        rw [List.append_assoc] at this
        exact this
    have F := key (adj l (List.range l.length) node) [] (⟨s.vis + 1, upd s.fst node (s.vis + 1), s.brs⟩, s.vis + 1) rfl (Fp.start p)
    exact F.out hl p fun j hj => ic_adj.2 hj
/-- Behind the visits from the first k nodes. -/
structure Fb (l : List (Nat × Nat)) (s : St) (k : Nat) : Prop where
  v : ∀ u, u < k → Vi s u
  c : ∀ u, Vi s u → Clo l s u
  n : ∀ u, s.fst u ≤ s.vis
  b : ∀ i ∈ s.brs, Brd l i ∧ (∃ u, Ic l i u) ∧ Ev l s i
  d : s.brs.Nodup
  a : ∀ u, Vi s u → ∀ j, Ic l j u → Brd l j → j ∈ s.brs
theorem brf_all {l : List (Nat × Nat)} {n : Nat} (hl : Ok l n) : ∀ k, k ≤ n → Fb l (brf l (adj l (List.range l.length)) n k) k
  | 0, _ => ⟨fun u h => absurd h (Nat.not_lt_zero u), fun u h => absurd rfl h, fun u => Nat.zero_le _, (fun i h => by cases h), List.nodup_nil, fun u h => absurd rfl h⟩
  | k + 1, hk => by
    have h := brf_all hl k (by omega)
    rw [brf]
    generalize brf l (adj l (List.range l.length)) n k = s at *
    by_cases c : s.fst k = 0
    · rw [if_pos c]
      have nol : ∀ v, ¬ Ic l l.length v := fun v ⟨x, hx, _⟩ => by
        have := (List.getElem?_eq_some_iff.1 hx).1
        omega
      have V := vst_all hl n k l.length s (by omega) ⟨c, h.n, .inr ⟨nol, h.c⟩⟩ (zc_le _ _)
      generalize (vst l (adj l (List.range l.length)) n k l.length s).2 = r at *
      generalize (vst l (adj l (List.range l.length)) n k l.length s).1 = t at *
      have up : ∀ {v}, Vi s v → Vi t v := fun hv => vi_gd V.gd hv
      have sp : ∀ u, Vi t u → Vi s u ∨ Nw s t u := fun u hu => by
        by_cases e : Vi s u
        · exact .inl e
        · exact .inr ⟨by unfold Vi at e; omega, hu⟩
      refine ⟨fun u hu => ?_, fun u hu => ?_, V.top, ?_, ?_, fun u hu j hj hbr => ?_⟩
      · rcases Nat.lt_or_ge u k with a | a
        · exact up (h.v u a)
        · have : u = k := by omega
          rw [this]; unfold Vi; rw [V.f]; omega
      · rcases sp u hu with e | e
        · exact fun j hj => up (h.c u e j hj)
        · exact V.clo u e
      · obtain ⟨new, e, a, d⟩ := V.brs
        intro i hi
        rw [e] at hi
        rcases List.mem_append.1 hi with m | m
        · obtain ⟨h1, h2, h3⟩ := h.b i m
          exact ⟨h1, h2, fun u hu => up (h3 u hu)⟩
        · obtain ⟨h1, h2, h3⟩ := a i m
          exact ⟨h1, h2, fun u hu => (h3 u hu).2⟩
      · obtain ⟨new, e, a, d⟩ := V.brs
        rw [e]
        refine List.nodup_append.2 ⟨h.d, d, fun x hx y hy e2 => ?_⟩
        subst e2
        obtain ⟨-, ⟨u, hu⟩, h3⟩ := h.b x hx
        exact h3 u hu ((a x hy).2.2 u hu).1
      · rcases sp u hu with e | e
        · obtain ⟨new, e2, -⟩ := V.brs
          rw [e2]; exact List.mem_append.2 (.inl (h.a u e j hj hbr))
        · exact V.all u e j hj (fun e3 => nol u (e3 ▸ hj)) hbr
    · rw [if_neg c]
      refine ⟨fun u hu => ?_, h.c, h.n, h.b, h.d, h.a⟩
      rcases Nat.lt_or_ge u k with a | a
      · exact h.v u a
      · have : u = k := by omega
        rw [this]; exact c
/-- What Bridges returns: the bridges, ascending. -/
theorem brg_mem {l : List (Nat × Nat)} {n : Nat} (hl : Ok l n) (i : Nat) : i ∈ brg l (adj l (List.range l.length)) n ↔ i < l.length ∧ Brd l i := by
  have h := brf_all hl n (Nat.le_refl _)
  unfold brg
  rw [List.mem_mergeSort]
  constructor
  · intro hi
    obtain ⟨h1, ⟨u, x, hx, -⟩, -⟩ := h.b i hi
    exact ⟨(List.getElem?_eq_some_iff.1 hx).1, h1⟩
  · rintro ⟨hi, hb⟩
    have e0 : l[i]? = some l[i] := List.getElem?_eq_getElem hi
    have hi1 : Ic l i l[i].1 := ⟨_, e0, .inl rfl⟩
    exact h.a _ (h.v _ (ic_lt hl hi1)) i hi1 hb
theorem brg_nodup {l : List (Nat × Nat)} {n : Nat} (hl : Ok l n) : (brg l (adj l (List.range l.length)) n).Nodup := by
  unfold brg
  exact (List.mergeSort_perm _ _).nodup_iff.2 (brf_all hl n (Nat.le_refl _)).d
theorem brg_sorted (l : List (Nat × Nat)) (A : Nat → List Nat) (n : Nat) : (brg l A n).Pairwise (fun a b => a ≤ b) := by
  have := List.pairwise_mergeSort (le := fun x y : Nat => decide (x ≤ y)) (fun a b c h1 h2 => by simp at *; omega) (fun a b => by simp; omega) (brf l A n n).brs
  unfold brg
  exact this.imp fun h => by simpa using h
theorem sorted_uniq : ∀ {xs ys : List Nat}, xs.Pairwise (fun a b => a < b) → ys.Pairwise (fun a b => a < b) → (∀ i, i ∈ xs ↔ i ∈ ys) → xs = ys
  | [], [], _, _, _ => rfl
  | [], y :: ys, _, _, h => by have := (h y).2 (by simp); cases this
  | x :: xs, [], _, _, h => by have := (h x).1 (by simp); cases this
  | x :: xs, y :: ys, hx, hy, h => by
    have hx' := List.pairwise_cons.1 hx
    have hy' := List.pairwise_cons.1 hy
    have e : x = y := by
      have a := (h x).1 (by simp)
      have b := (h y).2 (by simp)
      rcases List.mem_cons.1 a with a | a
      · exact a
      · rcases List.mem_cons.1 b with b | b
        · exact b.symm
        · have := hx'.1 y b
          have := hy'.1 x a
          omega
    subst e
    congr 1
    refine sorted_uniq hx'.2 hy'.2 fun i => ?_
    constructor
    · intro hi
      have := (h i).1 (List.mem_cons_of_mem _ hi)
      rcases List.mem_cons.1 this with e | e
      · have := hx'.1 i hi; omega
      · exact e
    · intro hi
      have := (h i).2 (List.mem_cons_of_mem _ hi)
      rcases List.mem_cons.1 this with e | e
      · have := hy'.1 i hi; omega
      · exact e
theorem brg_lt {l : List (Nat × Nat)} {n : Nat} (hl : Ok l n) : (brg l (adj l (List.range l.length)) n).Pairwise (fun a b => a < b) := by
  have h1 := brg_sorted l (adj l (List.range l.length)) n
  have h2 := brg_nodup hl
  exact (h1.and h2).imp fun ⟨a, b⟩ => by omega
end Go.Proofs.Ytampfciacjifgaa
