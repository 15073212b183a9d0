/- Ways over a forest are the only ones; whether edges go round, told in two ways. Cycles, told in two ways; the reference's Round. The reference's Round, Cycle, Indices: the walks. The reference's Cycle, Indices; Cycle where it refuses. The cycles of both sides are the same. GraphCycles: the walk. -/
import Derived.Test.YtampfciacjifgaaZo
import Derived.Test.YtampfciacjifgaaCy2
namespace Go.Proofs.Ytampfciacjifgaa
set_option linter.unusedVariables false
set_option linter.unusedSimpArgs false

/-- A simple way from u to v over edges of the forest. -/
structure Sw (l : List (Nat × Nat)) (u v : Nat) (t : List Nat) : Prop where
  o : okw l u t
  f : fin l u t = v
  e : ∀ i ∈ t, i ∈ inF l l.length
  d : (nds l u t ++ [v]).Nodup
theorem sw_uniq {l : List (Nat × Nat)} {n : Nat} (hl : Ok l n) {v : Nat} : ∀ (t t' : List Nat) (u : Nat), Sw l u v t → Sw l u v t' → t = t'
  | [], [], _, _, _ => rfl
  | [], j :: r', u, h, h' => by
    have e : u = v := h.f
    have := (List.nodup_cons.1 (show (u :: (nds l (nx l j u) r' ++ [v])).Nodup from h'.d)).1
    exact absurd (by rw [e]; simp) this
  | i :: r, [], u, h, h' => by
    have e : u = v := h'.f
    have := (List.nodup_cons.1 (show (u :: (nds l (nx l i u) r ++ [v])).Nodup from h.d)).1
    exact absurd (by rw [e]; simp) this
  | i :: r, j :: r', u, h, h' => by
    have hd := List.nodup_cons.1 (show (u :: (nds l (nx l i u) r ++ [v])).Nodup from h.d)
    have hd' := List.nodup_cons.1 (show (u :: (nds l (nx l j u) r' ++ [v])).Nodup from h'.d)
    have hi : Ic l i u := h.o.1
    have hj : Ic l j u := h'.o.1
    have o1 : okw l (nx l i u) r := h.o.2
    have o2 : okw l (nx l j u) r' := h'.o.2
    have f1 : fin l (nx l i u) r = v := h.f
    have f2 : fin l (nx l j u) r' = v := h'.f
    by_cases e : i = j
    · subst e
      rw [sw_uniq hl r r' (nx l i u) ⟨o1, f1, fun k hk => h.e k (List.mem_cons_of_mem _ hk), hd.2⟩ ⟨o2, f2, fun k hk => h'.e k (List.mem_cons_of_mem _ hk), hd'.2⟩]
    · exfalso
      have no1 : ∀ k ∈ r, k ≠ i := fun k hk e2 => by
        subst e2
        exact hd.1 (by have := okw_ends hl r _ o1 k hk u hi; rwa [f1] at this)
      have no2 : ∀ k ∈ r', k ≠ i := fun k hk e2 => by
        subst e2
        exact hd'.1 (by have := okw_ends hl r' _ o2 k hk u hi; rwa [f2] at this)
      have c1 := okw_ce (P := fun k => k ∈ inF l l.length ∧ k ≠ i) r _ o1 fun k hk => ⟨h.e k (List.mem_cons_of_mem _ hk), no1 k hk⟩
      have c2 := okw_ce (P := fun k => k ∈ inF l l.length ∧ k ≠ i) r' _ o2 fun k hk => ⟨h'.e k (List.mem_cons_of_mem _ hk), no2 k hk⟩
      rw [f1] at c1
      rw [f2] at c2
      have c0 : Ce l (fun k => k ∈ inF l l.length ∧ k ≠ i) u (nx l j u) := Ce.one ⟨h'.e j (by simp), Ne.symm e⟩ hj
      exact forest_alone hl (h.e i (by simp)) hi (c0.trans (c2.trans (c1.symm hl)))
/-- The cycles of the program are such ways. -/
theorem cyc_sw {l : List (Nat × Nat)} {n : Nat} {f : Nat → Int} {ro : Nat → Nat} (hl : Ok l n) (h : Fo (nbr l n (adj l (inF l l.length))) n n f ro) {i : Nat} (hi : i < l.length) (hj : joins l i = false) : ∃ t, cyc l f i = i :: t ∧ Sw l l[i].2 l[i].1 t ∧ t.length ≤ 2 * n := by
  have hx := hl _ (List.getElem_mem hi)
  have e0 : l[i]? = some l[i] := List.getElem?_eq_getElem hi
  have er := (ro_edge hl h i hi).symm
  have ec := cyc_at (f := f) hi
  obtain ⟨m, W⟩ := wk_way hl h (f l[i].2 + f l[i].1).toNat l[i].2 l[i].1 hx.2.1 hx.1 er (Nat.le_refl _)
  have hlen := wk_len l (adj l (inF l l.length)) f (f l[i].2 + f l[i].1).toNat l[i].2 l[i].1
  have x1 := h.x l[i].1
  have x2 := h.x l[i].2
  generalize (wk l (adj l (inF l l.length)) f (f l[i].2 + f l[i].1).toNat l[i].2 l[i].1).1 = T1 at *
  generalize (wk l (adj l (inF l l.length)) f (f l[i].2 + f l[i].1).toNat l[i].2 l[i].1).2 = T2 at *
  obtain ⟨r1, r2, r3⟩ := okw_rev hl T2 l[i].1 W.o2
  rw [W.f2] at r1 r2 r3
  refine ⟨_, ec, ⟨?_, ?_, fun j hj => ?_, ?_⟩, by simp only [List.length_append, List.length_reverse]; omega⟩
  · rw [okw_app, W.f1]; exact ⟨W.o1, r1⟩
  · rw [fin_app, W.f1, r2]
  · rcases List.mem_append.1 hj with k | k
    · exact W.e1 j k
    · exact W.e2 j (List.mem_reverse.1 k)
  · rw [nds_app, W.f1, List.append_assoc, r3]
    exact ((List.reverse_perm _).append_left _).nodup_iff.2 W.nd
/-- The shortest way over the forest is such a way. -/
theorem gp_sw {l : List (Nat × Nat)} {n : Nat} (hl : Ok l n) {g : Nat → Int} {S : Nat} (h : Sp (nbr l n (adj l (inF l l.length))) minus1 g S) : ∀ (k v : Nat), v < n → g v = (k : Int) → Sw l v S (gp l (adj l (inF l l.length)) g k v) ∧ ∀ y ∈ nds l v (gp l (adj l (inF l l.length)) g k v) ++ [S], g y ≤ (k : Int)
  | 0, v, hv, e => by
    have e2 := sp_zero h (new_iff (by rw [e]; exact Int.le_refl _)) e
    subst e2
    exact ⟨⟨trivial, rfl, by simp [gp], by simp [gp, nds]⟩, by simp [gp, nds, e]⟩
  | k + 1, v, hv, e => by
    have nv : New minus1 g v := new_iff (by omega)
    have ne : v ≠ S := by rintro rfl; rw [h.s] at e; omega
    obtain ⟨i, hi, hr⟩ := sp_near hl h nv ne
    cases hf : (adj l (inF l l.length) v).find? (nr l g v) with
    | none => exact absurd hr (by simpa using List.find?_eq_none.1 hf i hi)
    | some j =>
      have hj := List.mem_of_find?_eq_some hf
      have hjr := List.find?_some hf
      obtain ⟨hjm, x, hx, hxv⟩ := adj_mem hj
      obtain ⟨-, e2, lt⟩ := sp_step hl (fun _ _ _ _ => by simp [minus1]) h nv hv hj hx hjr
      obtain ⟨W, hle⟩ := gp_sw hl h k (oth x v) lt (by omega)
      have eg : gp l (adj l (inF l l.length)) g (k + 1) v = j :: gp l (adj l (inF l l.length)) g k (oth x v) := by
        simp only [gp, hf, hx]
      have en : nx l j v = oth x v := nx_is hx
      rw [eg]
      refine ⟨⟨⟨⟨x, hx, hxv⟩, by rw [en]; exact W.o⟩, by show fin l (nx l j v) _ = S; rw [en]; exact W.f, fun i hi => ?_, ?_⟩, fun y hy => ?_⟩
      · rcases List.mem_cons.1 hi with rfl | hi
        · exact hjm
        · exact W.e i hi
      · show (v :: (nds l (nx l j v) _ ++ [S])).Nodup
        rw [en]
        exact List.nodup_cons.2 ⟨fun c => by have := hle v c; omega, W.d⟩
      · have hy' : y ∈ v :: (nds l (nx l j v) (gp l (adj l (inF l l.length)) g k (oth x v)) ++ [S]) := hy
        rw [en] at hy'
        rcases List.mem_cons.1 hy' with rfl | hy'
        · omega
        · have := hle y hy'; omega

theorem cls_iff {l : List (Nat × Nat)} {s : Nat} : ∀ (es seen : List Nat) (v : Nat), cls l s es seen v = true ↔ okw l v es ∧ (∀ y ∈ nds l v es, y ∉ seen) ∧ (nds l v es).Nodup ∧ fin l v es = s
  | [], seen, v => by simp [cls, okw, nds, fin]
  | i :: t, seen, v => by
    constructor
    · intro h
      cases hs : hasS seen v
      · cases hx : l[i]? with
        | none => rw [cls, hs, hx] at h; simp at h
        | some x =>
          cases ha : at2 x.1 x.2 v
          · rw [cls_off hs hx ha] at h; cases h
          · rw [cls_on hs hx ha] at h
            obtain ⟨h1, h2, h3, h4⟩ := (cls_iff t (v :: seen) (oth x v)).1 h
            have en : nx l i v = oth x v := nx_is hx
            have hv : x.1 = v ∨ x.2 = v := by unfold at2 at ha; simpa using ha
            have hs' : v ∉ seen := by unfold hasS at hs; simpa using hs
            refine ⟨⟨⟨x, hx, hv⟩, by rw [en]; exact h1⟩, fun y hy => ?_, ?_, by show fin l (nx l i v) t = s; rw [en]; exact h4⟩
            · have hy' : y ∈ v :: nds l (nx l i v) t := hy
              rw [en] at hy'
              rcases List.mem_cons.1 hy' with rfl | hy'
              · exact hs'
              · exact fun c => h2 y hy' (List.mem_cons_of_mem _ c)
            · show (v :: nds l (nx l i v) t).Nodup
              rw [en]
              exact List.nodup_cons.2 ⟨fun c => h2 v c (by simp), h3⟩
      · rw [cls_seen hs] at h; cases h
    · rintro ⟨h1, h2, h3, h4⟩
      exact cls_true _ _ _ h1 h2 h3 h4
/-- The reference's Round: what has been used, what is left, where it was. -/
def rnd (l : List (Nat × Nat)) (s : Nat) : List Nat → List Nat → List Nat → Nat → Bool
  | _, [], _, _ => false
  | done, i :: t, seen, v => if hasS done i then false else match l[i]? with
    | some x => if at2 x.1 x.2 v then (if t = [] then decide (oth x v = s) else if hasS seen (oth x v) then false else rnd l s (done ++ [i]) t (seen ++ [oth x v]) (oth x v)) else false
    | none => false
theorem rnd_iff {l : List (Nat × Nat)} {s : Nat} : ∀ (es done seen : List Nat) (v : Nat), rnd l s done es seen v = true ↔ es ≠ [] ∧ okw l v es ∧ es.Nodup ∧ (∀ e ∈ es, e ∉ done) ∧ (nds l v es).tail.Nodup ∧ (∀ y ∈ (nds l v es).tail, y ∉ seen) ∧ fin l v es = s
  | [], done, seen, v => by simp [rnd]
  | i :: t, done, seen, v => by
    rw [rnd]
    cases hd : hasS done i
    · have hd' : i ∉ done := by unfold hasS at hd; simpa using hd
      simp only [Bool.false_eq_true, if_false]
      cases hx : l[i]? with
      | none =>
        simp only [Bool.false_eq_true, false_iff]
        rintro ⟨-, ⟨⟨x, hx2, -⟩, -⟩, -⟩
        rw [hx] at hx2; cases hx2
      | some x =>
        have en : nx l i v = oth x v := nx_is hx
        dsimp only
        cases ha : at2 x.1 x.2 v
        · simp only [Bool.false_eq_true, if_false, false_iff]
          rintro ⟨-, ⟨⟨y, hy, hv⟩, -⟩, -⟩
          rw [hx] at hy; cases hy
          unfold at2 at ha
          simp at ha
          rcases hv with h | h
          · exact ha.1 h
          · exact ha.2 h
        · have hv : x.1 = v ∨ x.2 = v := by unfold at2 at ha; simpa using ha
          simp only [if_true]
          by_cases ht : t = []
          · subst ht
            simp only [if_true, decide_eq_true_iff]
            constructor
            · intro h
              exact ⟨by simp, ⟨⟨x, hx, hv⟩, trivial⟩, by simp, by simpa using hd', by simp [nds], by simp [nds], by show nx l i v = s; rw [en]; exact h⟩
            · rintro ⟨-, -, -, -, -, -, h⟩
              have h : nx l i v = s := h
              rw [en] at h; exact h
          · rw [if_neg ht]
            have etl : nds l (nx l i v) t = oth x v :: (nds l (oth x v) t).tail := by
              rw [en]
              cases t with
              | nil => exact absurd rfl ht
              | cons j r => rfl
            cases hs : hasS seen (oth x v)
            · have hs' : oth x v ∉ seen := by unfold hasS at hs; simpa using hs
              simp only [Bool.false_eq_true, if_false]
              rw [rnd_iff t (done ++ [i]) (seen ++ [oth x v]) (oth x v)]
              show _ ↔ i :: t ≠ [] ∧ ((∃ x, l[i]? = some x ∧ (x.1 = v ∨ x.2 = v)) ∧ okw l (nx l i v) t) ∧ (i :: t).Nodup ∧ (∀ e ∈ i :: t, e ∉ done) ∧ (nds l (nx l i v) t).Nodup ∧ (∀ y ∈ nds l (nx l i v) t, y ∉ seen) ∧ fin l (nx l i v) t = s
              rw [etl, en, List.nodup_cons, List.nodup_cons]
              constructor
              · rintro ⟨h0, h1, h2, h3, h4, h5, h6⟩
                refine ⟨by simp, ⟨⟨x, hx, hv⟩, h1⟩, ⟨fun c => h3 i c (by simp), h2⟩, fun e he => ?_, ⟨fun c => h5 _ c (by simp), h4⟩, fun y hy => ?_, h6⟩
                · rcases List.mem_cons.1 he with rfl | he
                  · exact hd'
                  · exact fun c => h3 e he (List.mem_append.2 (.inl c))
                · rcases List.mem_cons.1 hy with rfl | hy
                  · exact hs'
                  · exact fun c => h5 y hy (List.mem_append.2 (.inl c))
              · rintro ⟨-, ⟨-, h1⟩, ⟨h2, h3⟩, h4, ⟨h5, h6⟩, h7, h8⟩
                refine ⟨ht, h1, h3, fun e he c => ?_, h6, fun y hy c => ?_, h8⟩
                · rcases List.mem_append.1 c with c | c
                  · exact h4 e (List.mem_cons_of_mem _ he) c
                  · rw [List.mem_singleton.1 c] at he; exact h2 he
                · rcases List.mem_append.1 c with c | c
                  · exact h7 y (List.mem_cons_of_mem _ hy) c
                  · rw [List.mem_singleton.1 c] at hy; exact h5 hy
            · have hs' : oth x v ∈ seen := by unfold hasS at hs; simpa using hs
              simp only [if_true, Bool.false_eq_true, false_iff]
              rintro ⟨-, -, -, -, -, h, -⟩
              have h : ∀ y ∈ nds l (nx l i v) t, y ∉ seen := h
              exact h (oth x v) (by rw [etl]; simp) hs'
    · simp only [if_true, Bool.false_eq_true, false_iff]
      rintro ⟨-, -, -, h, -⟩
      have hd' : i ∈ done := by unfold hasS at hd; simpa using hd
      exact h i (by simp) hd'
end Go.Proofs.Ytampfciacjifgaa
namespace Go.Proofs.Ytampfciacjifgaa
open Go.ChangeShapes Go.WideShapes Go.ChangeAt Go.RowKit
set_option linter.unusedVariables false
set_option linter.unusedSimpArgs false

theorem rnd_cls {l : List (Nat × Nat)} {s : Nat} {xs : List Nat} (hx : xs ≠ []) : rnd l s [] xs [s] s = true ↔ xs.Nodup ∧ cls l s xs [] s = true := by
  rw [rnd_iff, cls_iff]
  cases xs with
  | nil => exact absurd rfl hx
  | cons i t =>
    show _ ↔ _ ∧ okw l s (i :: t) ∧ (∀ y ∈ nds l s (i :: t), y ∉ []) ∧ (s :: nds l (nx l i s) t).Nodup ∧ fin l s (i :: t) = s
    rw [List.nodup_cons (a := s)]
    constructor
    · rintro ⟨-, h1, h2, -, h3, h4, h5⟩
      exact ⟨h2, h1, by simp, ⟨fun c => h4 s c (by simp), h3⟩, h5⟩
    · rintro ⟨h2, h1, -, ⟨h3, h4⟩, h5⟩
      exact ⟨by simp, h1, h2, by simp, h4, fun y hy c => by rw [List.mem_singleton.1 c] at hy; exact h3 hy, h5⟩
theorem closed_nodup {l : List (Nat × Nat)} {n s i j : Nat} {r : List Nat} (hl : Ok l n) (h : cls l s (i :: j :: r) [] s = true) (hij : i ≠ j) : (i :: j :: r).Nodup := by
  obtain ⟨⟨hi, ho⟩, -, hd, hf⟩ := cls_iff _ _ _ |>.1 h
  have hf : fin l (nx l i s) (j :: r) = s := hf
  have hd := List.nodup_cons.1 (show (s :: nds l (nx l i s) (j :: r)).Nodup from hd)
  have hd2 : (nds l (nx l i s) (j :: r) ++ [fin l (nx l i s) (j :: r)]).Nodup := by
    rw [hf]
    exact (List.perm_append_singleton _ _).nodup_iff.2 (List.nodup_cons.2 hd)
  refine List.nodup_cons.2 ⟨fun hm => ?_, okw_nodup hl _ _ ho hd2⟩
  rcases List.mem_cons.1 hm with e | hm
  · exact hij e
  · obtain ⟨a, b, rfl⟩ := List.append_of_mem hm
    have e1 : j :: (a ++ i :: b) = (j :: a) ++ i :: b := rfl
    rw [e1] at ho hd
    have o2 := ((okw_app l (j :: a) (i :: b) _).1 ho).2
    have hy : Ic l i (fin l (nx l i s) (j :: a)) := o2.1
    rw [nds_app] at hd
    have hmem : fin l (nx l i s) (j :: a) ∈ nds l (fin l (nx l i s) (j :: a)) (i :: b) := by simp [nds]
    have hfirst : nx l i s ∈ nds l (nx l i s) (j :: a) := by simp [nds]
    generalize fin l (nx l i s) (j :: a) = y at *
    rcases ic_two hl hy hi with e | e
    · subst e
      exact hd.1 (List.mem_append.2 (.inr hmem))
    · have h3 := (List.nodup_append.1 hd.2).2.2 (nx l i s) hfirst _ hmem
      exact h3 e.symm
theorem rcy_cyB {l : List (Nat × Nat)} {n : Nat} {xs : List Nat} {x : Nat × Nat} (hl : Ok l n) (h2 : 2 ≤ xs.length) (hx : l[xs[0]]? = some x) : (rnd l x.1 [] xs [x.1] x.1 || rnd l x.2 [] xs [x.2] x.2) = cyB l xs := by
  rcases xs with _ | ⟨i, _ | ⟨j, r⟩⟩
  · simp at h2
  · simp at h2
  · have side : ∀ s, rnd l s [] (i :: j :: r) [s] s = (decide (i ≠ j) && cls l s (i :: j :: r) [] s) := fun s => by
      have hk := rnd_cls (l := l) (s := s) (xs := i :: j :: r) (by simp)
      by_cases e : i = j
      · have : ¬ (i :: j :: r).Nodup := by rw [e]; simp
        rw [decide_eq_false (by simpa using e), Bool.false_and]
        cases hr : rnd l s [] (i :: j :: r) [s] s
        · rfl
        · exact absurd (hk.1 hr).1 this
      · rw [decide_eq_true (by simpa using e), Bool.true_and]
        cases hc : cls l s (i :: j :: r) [] s
        · cases hr : rnd l s [] (i :: j :: r) [s] s
          · rfl
          · have := (hk.1 hr).2; rw [hc] at this; cases this
        · exact hk.2 ⟨closed_nodup hl hc e, hc⟩
    rw [side, side]
    have hx : l[i]? = some x := hx
    by_cases e : i = j
    · rw [decide_eq_false (by simpa using e)]; simp [cyB, e]
    · rw [decide_eq_true (by simpa using e)]; simp [cyB, e, hx]
theorem rnd_used {l : List (Nat × Nat)} {s i v : Nat} {done t seen : List Nat} (h : hasS done i = true) : rnd l s done (i :: t) seen v = false := by rw [rnd, if_pos h]
theorem rnd_off {l : List (Nat × Nat)} {s i v : Nat} {done t seen : List Nat} {x : Nat × Nat} (h : hasS done i = false) (hx : l[i]? = some x) (ha : at2 x.1 x.2 v = false) : rnd l s done (i :: t) seen v = false := by
  rw [rnd, if_neg (by simp [h]), hx]; simp [ha]
theorem rnd_last {l : List (Nat × Nat)} {s i v : Nat} {done seen : List Nat} {x : Nat × Nat} (h : hasS done i = false) (hx : l[i]? = some x) (ha : at2 x.1 x.2 v = true) : rnd l s done [i] seen v = decide (oth x v = s) := by
  rw [rnd, if_neg (by simp [h]), hx]; simp [ha]
theorem rnd_seen {l : List (Nat × Nat)} {s i v : Nat} {done t seen : List Nat} {x : Nat × Nat} (h : hasS done i = false) (hx : l[i]? = some x) (ha : at2 x.1 x.2 v = true) (ht : t ≠ []) (hs : hasS seen (oth x v) = true) : rnd l s done (i :: t) seen v = false := by
  rw [rnd, if_neg (by simp [h]), hx]; simp [ha, ht, hs]
theorem rnd_on {l : List (Nat × Nat)} {s i v : Nat} {done t seen : List Nat} {x : Nat × Nat} (h : hasS done i = false) (hx : l[i]? = some x) (ha : at2 x.1 x.2 v = true) (ht : t ≠ []) (hs : hasS seen (oth x v) = false) : rnd l s done (i :: t) seen v = rnd l s (done ++ [i]) t (seen ++ [oth x v]) (oth x v) := by
  rw [rnd, if_neg (by simp [h]), hx]; simp [ha, ht, hs]
theorem at2_yes {x1 x2 v : Nat} (h : at2 x1 x2 v = true) : ot x1 x2 v = ((oth (x1, x2) v : Nat) : Int) := ot_in (by unfold at2 at h; simpa using h)
theorem at2_no {x1 x2 v : Nat} (h : at2 x1 x2 v = false) : ot x1 x2 v = -1 := ot_out (by unfold at2 at h; simpa using h)
theorem hasS_take {xs : List Nat} {k : Nat} (hk : k ≤ xs.length) {i : Nat} (h : ∀ j (hj : j < xs.length), j < k → xs[j] ≠ i) : hasS (xs.take k) i = false := by
  unfold hasS
  cases hc : (xs.take k).contains i
  · rfl
  · have hm : i ∈ xs.take k := by simpa using hc
    obtain ⟨j, hj, e⟩ := List.mem_iff_getElem.1 hm
    rw [List.length_take] at hj
    have hj2 : j < xs.length := by omega
    have e2 : xs[j] = i := by simpa using e
    exact absurd e2 (h j hj2 (by omega))
theorem hasS_take_yes {xs : List Nat} {k j : Nat} (hj : j < xs.length) (hjk : j < k) : hasS (xs.take k) xs[j] = true := by
  unfold hasS
  rw [List.contains_iff_mem]
  exact List.mem_iff_getElem.2 ⟨j, by simp; omega, by simp⟩
end Go.Proofs.Ytampfciacjifgaa
namespace Go.Proofs.Ytampfciacjifgaa
open Go.ChangeShapes Go.WideShapes Go.ChangeAt Go.RowKit
set_option linter.unusedVariables false
set_option linter.unusedSimpArgs false

set_option maxRecDepth 100000 in
set_option maxHeartbeats 8000000 in
theorem round_any (p : Option Addr) (n : Nat) (l : List (Nat × Nat)) (cap : Nat) (u : Value) (xs : List Nat) (s : Nat) (w : World) (hG : Gr w p n l) (hR : Rdy w u xs) (hx : ∀ i ∈ xs, i < l.length) (hxl : xs.length ≤ 1000) (hs : s < n) :
    Calls Try.prog 51 #[.slice p l.length cap, u, .int .i64 s] w fun e w' => e = .returned (.bool (rnd l s [] xs [s] s)) ∧ Below w.heap.size w w' := by
  have hm := hG.2.1
  have hn := hG.2.2.1
  obtain ⟨i0, hi, hz0, hz1, hz2⟩ := info_parts info3
  obtain ⟨q, c, rfl, hq⟩ := hR
  have HQ := Lib.hid hq
  have hO0 : Own w.heap.size (w.alloc (.cells #[.int .i64 (s : Int)] 3)) (.slice (some ⟨w.heap.size, 0, none⟩) 1 1) [s] := World.ownsRow_lit w #[.int .i64 (s : Int)] 1 (Nat.le_refl _) (by unfold maxLen; omega) rfl
  have b0 := al1 w (.cells #[.int .i64 (s : Int)] 3)
  have HO0 := Lib.hid hO0
  have WL : IntKind.i64.wrap ((xs.length : Int) - 1) = (xs.length : Int) - 1 := by rw [IntWalk.i64_in _ (by omega)]
  clear hq hO0
  go_enter Try.func51, Try.ntmps51
  go_wp2
  go_loopw [7, 8, 9] (fun v7 v8 v9 wr => ∃ (k v : Nat) (seen : List Nat), v9 = .int .i64 k ∧ v8 = .int .i64 v ∧ k ≤ xs.length ∧ v < n ∧ Hid (seen.length = k + 1) ∧ Hid (Own w.heap.size wr v7 seen) ∧ Hid (rnd l s [] xs [s] s = rnd l s (xs.take k) (xs.drop k) seen v) ∧ Below w.heap.size w wr) (fun _ _ v _ => xs.length - (intOf v).toNat)
  case atStart => exact ⟨0, s, [s], rfl, rfl, Nat.zero_le _, hs, Lib.hid rfl, HO0, Lib.hid (by simp), b0⟩
  case round =>
    clear HO0 b0
    obtain ⟨k, v, seen, rfl, rfl, hk, hv, hsl, hO, hC, hB⟩ := hrel
    by_cases hlt : k < xs.length
    · have g1 : decide ((k : Int) < (xs.length : Int)) = true := by simp [hlt]
      have W1 : IntKind.i64.wrap ((k : Int) + 1) = ((k + 1 : Nat) : Int) := by rw [IntWalk.i64_in _ (by omega)]; omega
      obtain ⟨aq, rfl, cj0⟩ := HQ.out k hlt
      have cj := cell_later hB cj0
      have hik := hx _ (List.getElem_mem hlt)
      have hCo := hC.out
      rw [List.drop_eq_getElem_cons hlt] at hCo
      obtain ⟨i, hie⟩ : ∃ i, i = xs[k] := ⟨_, rfl⟩
      rw [← hie] at cj hik hCo
      have hxe : l[i]? = some l[i] := List.getElem?_eq_getElem hik
      have hlm := hG.2.2.2 _ (List.getElem_mem hik)
      obtain ⟨x, hxx⟩ : ∃ x, x = l[i] := ⟨_, rfl⟩
      have hat := fun W (h : Below w.heap.size w W) => (hG.on h).at hik
      rw [← hxx] at hxe hlm
      simp only [← hxx] at hat
      obtain ⟨x1, x2⟩ := x
      simp only [] at hlm hat
      have hu : oth (x1, x2) v < n := by unfold oth; split <;> simp only [] <;> omega
      obtain ⟨q7, c7, e7, -⟩ := own_form hO.out
      subst e7
      have q1 : (0 : Int) ≤ (k : Int) := by omega
      have q2 : (k : Int) < (xs.length : Int) := by omega
      have q3 : (0 : Int) ≤ (i : Int) := by omega
      have q4 : (i : Int) < (l.length : Int) := by omega
      have HXE := Lib.hid hxe
      have HC := Lib.hid hCo
      have HIE := Lib.hid hie
      clear hxe hxx hCo hC hie cj0
      go_wp2
      -- no edge twice
      go_loopw [10] (fun v10 wr2 => ∃ y : Nat, v10 = .int .i64 y ∧ y ≤ k ∧ Hid (∀ j (hj : j < xs.length), j < y → xs[j] ≠ i) ∧ ∃ nd, wr2 = wr.drewN nd) (fun v _ => k - (intOf v).toNat)
      case atStart => exact ⟨0, rfl, Nat.zero_le _, Lib.hid (fun j _ h => absurd h (Nat.not_lt_zero j)), 0, rfl⟩
      case round =>
        obtain ⟨y, rfl, hy, hN, nd, rfl⟩ := hrel
        by_cases hyk : y < k
        · have g2 : decide ((y : Int) < (k : Int)) = true := by simp [hyk]
          have W2 : IntKind.i64.wrap ((y : Int) + 1) = ((y + 1 : Nat) : Int) := by rw [IntWalk.i64_in _ (by omega)]; omega
          obtain ⟨aq2, eq2, cy0⟩ := HQ.out y (by omega)
          cases eq2
          have cy := cell_later hB cy0
          obtain ⟨z, hz⟩ : ∃ z, z = xs[y]'(by omega) := ⟨_, rfl⟩
          rw [← hz] at cy
          have q5 : (0 : Int) ≤ (y : Int) := by omega
          have q6 : (y : Int) < (xs.length : Int) := by omega
          have HZ := Lib.hid hz
          clear hz cy0
          by_cases e : z = i
          · subst e
            have t2 : ((z : Int) == (z : Int)) = true := by simp
            have hf : rnd l s (xs.take k) (z :: xs.drop (k + 1)) seen v = false := rnd_used (by rw [HZ.out]; exact hasS_take_yes (by omega) hyk)
            have HF := Lib.hid (HC.out.trans hf)
            clear hf
            go_wp2_with fail
            go_quiet (fail)
            go_wp2
            go_ret
            exact ⟨by rw [HF.out]; rfl, below_drewN (below_drewN hB nd) _⟩
          · have t2 : ((z : Int) == (i : Int)) = false := by simp; omega
            have HE : Hid (∀ j (hj : j < xs.length), j < y + 1 → xs[j] ≠ i) := Lib.hid fun j hj h => by
              rcases Nat.lt_or_ge j y with a | a
              · exact hN.out j hj a
              · have : j = y := by omega
                subst this
                rw [← HZ.out]; exact e
            clear e hN
            go_wp2_with fail
            go_quiet (fail)
            go_wp2
            exact ⟨⟨y + 1, rfl, hyk, HE, _, rfl⟩, by simp [intOf]; omega⟩
        · have g2 : decide ((y : Int) < (k : Int)) = false := by simp; omega
          have hus : hasS (xs.take k) i = false := hasS_take hk fun j hj hjk => hN.out j hj (by omega)
          have HU := Lib.hid hus
          have BW := below_drewN hB nd
          have OW := Lib.hid (own_on hO.out (below_drewN (Below.refl _ wr) nd))
          have cW := cell_later (below_drewN (Below.refl _ wr) nd) cj
          clear hus hN hB hO cj
          have g3 : decide ((y : Int) < (k : Int)) = false := g2
          clear g3
          generalize wr.drewN nd = W at *
          obtain ⟨a, rfl, d0, d1, -⟩ := hat W BW
          have hOt := fun W => other_any x1 x2 v W
          cases ha : at2 x1 x2 v
          · have hf := HC.out.trans (rnd_off (t := xs.drop (k + 1)) (seen := seen) (s := s) HU.out HXE.out ha)
            have HF := Lib.hid hf
            rw [at2_no ha] at hOt
            clear hf ha
            go_wp2_with (go_at_call 70; (with_reducible refine (hOt _).mono ?_); rintro e w5 ⟨rfl, hb5⟩)
            go_ret
            exact ⟨by rw [HF.out]; rfl, belows BW hb5⟩
          · rw [at2_yes ha] at hOt
            obtain ⟨z, hz⟩ : ∃ z, z = oth (x1, x2) v := ⟨_, rfl⟩
            rw [← hz] at hOt hu
            have HZ := Lib.hid hz
            have HA := Lib.hid ha
            clear hz ha
            have p1 : ¬ (z : Int) < 0 := by omega
            by_cases hlast : k + 1 = xs.length
            · have t3 : ((k : Int) == (xs.length : Int) - 1) = true := by simp; omega
              have hdr : xs.drop (k + 1) = [] := List.drop_of_length_le (by omega)
              have hf := HC.out
              rw [hdr, rnd_last (s := s) (seen := seen) HU.out HXE.out HA.out, ← HZ.out] at hf
              have HF := Lib.hid hf
              clear hf hdr
              by_cases e : z = s
              · subst e
                have t4 : ((z : Int) == (z : Int)) = true := by simp
                have HF2 := Lib.hid (HF.out.trans (decide_eq_true rfl))
                go_wp2_with (go_at_call 70; (with_reducible refine (hOt _).mono ?_); rintro e w5 ⟨rfl, hb5⟩)
                go_ret
                exact ⟨by rw [HF2.out]; rfl, belows BW hb5⟩
              · have t4 : ((z : Int) == (s : Int)) = false := by simp; omega
                have HE := Lib.hid e
                clear e
                go_wp2_with (go_at_call 70; (with_reducible refine (hOt _).mono ?_); rintro e w5 ⟨rfl, hb5⟩)
                go_ret
                exact ⟨by rw [HF.out, decide_eq_false HE.out]; rfl, belows BW hb5⟩
            · have t3 : ((k : Int) == (xs.length : Int) - 1) = false := by simp; omega
              have hdr : xs.drop (k + 1) ≠ [] := fun e => by
                have := congrArg List.length e
                rw [List.length_drop] at this
                simp at this; omega
              have HD := Lib.hid hdr
              have HK1 : Hid (k + 1 < xs.length) := Lib.hid (by omega)
              clear hdr hlast
              go_wp2_with (go_at_call 70; (with_reducible refine (hOt _).mono ?_); rintro e w5 ⟨rfl, hb5⟩)
              have B5 := belows BW hb5
              have O5 := Lib.hid (own_on OW.out hb5)
              clear OW BW hb5 cW d0 d1
              go_loopw [11] (fun v11 wr2 => ∃ y : Nat, v11 = .int .i64 y ∧ y ≤ seen.length ∧ Hid (∀ j (hj : j < seen.length), j < y → seen[j] ≠ z) ∧ w5 = wr2) (fun v _ => seen.length - (intOf v).toNat)
              case atStart => exact ⟨0, rfl, Nat.zero_le _, Lib.hid (fun j _ h => absurd h (Nat.not_lt_zero j)), rfl⟩
              case round =>
                obtain ⟨m, rfl, hm2, hN, rfl⟩ := hrel
                by_cases hmk : m < seen.length
                · have g4 : decide ((m : Int) < (seen.length : Int)) = true := by simp [hmk]
                  have W2 : IntKind.i64.wrap ((m : Int) + 1) = ((m + 1 : Nat) : Int) := by have := hsl.out; rw [IntWalk.i64_in _ (by omega)]; omega
                  obtain ⟨qq, cc, e8, k8⟩ := Own.rd O5.out
                  simp only [Value.slice.injEq, true_and] at e8
                  obtain ⟨rfl, rfl⟩ := e8
                  obtain ⟨g8, rfl, cy⟩ := k8 m hmk
                  obtain ⟨t, ht⟩ : ∃ t, t = seen[m] := ⟨_, rfl⟩
                  rw [← ht] at cy
                  have HT := Lib.hid ht
                  have q5 : (0 : Int) ≤ (m : Int) := by omega
                  have q6 : (m : Int) < (seen.length : Int) := by omega
                  clear ht k8
                  by_cases e : t = z
                  · subst e
                    have t5 : ((t : Int) == (t : Int)) = true := by simp
                    have hss : hasS seen (oth (x1, x2) v) = true := by
                      rw [← HZ.out, HT.out]
                      unfold hasS
                      rw [List.contains_iff_mem]
                      exact List.getElem_mem hmk
                    have HF := Lib.hid (HC.out.trans (rnd_seen (s := s) HU.out HXE.out HA.out HD.out hss))
                    clear hss
                    go_wp2
                    go_ret
                    exact ⟨by rw [HF.out]; rfl, B5⟩
                  · have t5 : ((t : Int) == (z : Int)) = false := by simp; omega
                    have HE : Hid (∀ j (hj : j < seen.length), j < m + 1 → seen[j] ≠ z) := Lib.hid fun j hj h => by
                      rcases Nat.lt_or_ge j m with a | a
                      · exact hN.out j hj a
                      · have : j = m := by omega
                        subst this
                        rw [← HT.out]; exact e
                    clear e hN
                    go_wp2
                    exact ⟨⟨m + 1, rfl, hmk, HE, trivial⟩, by simp [intOf]; omega⟩
                · have g4 : decide ((m : Int) < (seen.length : Int)) = false := by simp; omega
                  have hss : hasS seen (oth (x1, x2) v) = false := by
                    rw [← HZ.out]
                    have := hasS_take (xs := seen) (k := seen.length) (Nat.le_refl _) (i := z) fun j hj hjk => hN.out j hj (by omega)
                    rwa [List.take_length] at this
                  have htk : xs.take (k + 1) = xs.take k ++ [i] := by rw [List.take_succ_eq_append_getElem hlt, HIE.out]
                  have HF : Hid (rnd l s [] xs [s] s = rnd l s (xs.take (k + 1)) (xs.drop (k + 1)) (seen ++ [z]) z) := Lib.hid (by
                    rw [HC.out, rnd_on (s := s) HU.out HXE.out HA.out HD.out hss, htk, ← HZ.out])
                  clear hss htk hN
                  go_wp2_with (at_builtin; refine wpList_append_own_at _ rfl _ _ 29 rfl w.heap.size 3 i0 _ 1 8 Try.underlying29 hi hz0 hz1 hz2 rfl (by decide) _ seen.length (ints seen) rfl (own_on O5.out (al1 _ _)) ⟨_, 0, none⟩ 1 1 [.int .i64 (z : Int)] rfl rfl (cell_one_new _ _ _) (by simp [Value.oneCell']) (by have := hsl.out; unfold maxLen; omega) (by have := hsl.out; omega) (Nat.le_trans B5.size (al1 _ _).size) ?_)
                  intro v' w6 o1 o2 o3 o4
                  have O6 : Own w.heap.size w6 v' (seen ++ [z]) := by
                    unfold Own
                    rw [ints_app, List.length_append]
                    exact o1
                  have B6 : Below w.heap.size w w6 := (B5.alloc B5.size _).grown o2 (Nat.le_trans B5.size (al1 _ _).size) (fun j hj => (World.ownsRow.lt O5.out _ hj).1)
                  have O7 := Lib.hid O6
                  clear o1 o2 o3 o4 O6
                  have hlen : (seen ++ [z]).length = k + 1 + 1 := by rw [List.length_append, hsl.out]; rfl
                  have HLn := Lib.hid hlen
                  clear hlen
                  go_wp2
                  exact ⟨⟨k + 1, z, seen ++ [z], rfl, rfl, hlt, hu, HLn.out, O7, HF, B6⟩, by simp [intOf]; omega⟩
    · have g1 : decide ((k : Int) < (xs.length : Int)) = false := by simp; omega
      have hCo := hC.out
      rw [List.drop_of_length_le (by omega)] at hCo
      have HC := Lib.hid hCo
      clear hCo hC
      go_wp2
      go_ret
      exact ⟨by rw [HC.out, rnd]; rfl, hB⟩
end Go.Proofs.Ytampfciacjifgaa
namespace Go.Proofs.Ytampfciacjifgaa
open Go.ChangeShapes Go.WideShapes Go.ChangeAt Go.RowKit
set_option linter.unusedVariables false
set_option linter.unusedSimpArgs false

set_option maxRecDepth 100000 in
set_option maxHeartbeats 4000000 in
theorem rcycle_any (p : Option Addr) (n : Nat) (l : List (Nat × Nat)) (cap : Nat) (u : Value) (xs : List Nat) (w : World) (hG : Gr w p n l) (hR : Rdy w u xs) (hx : ∀ i ∈ xs, i < l.length) (hxl : xs.length ≤ 1000) :
    Calls Try.prog 24 #[.slice p l.length cap, u] w fun e w' => e = .returned (.bool (cyB l xs)) ∧ Below w.heap.size w w' := by
  have hOk : Ok l n := hG.2.2.2
  have hR0 := hR
  obtain ⟨q, c, rfl, hq⟩ := hR
  by_cases h2 : xs.length < 2
  · have g1 : decide ((xs.length : Int) < 2) = true := decide_eq_true (by omega)
    rw [cyB_lt h2]
    clear hq h2
    go_enter Try.func24, Try.ntmps24
    go_wp2
    go_ret
    exact ⟨rfl, Below.refl _ _⟩
  have g1 : decide ((xs.length : Int) < 2) = false := decide_eq_false (by omega)
  have k2 : 2 ≤ xs.length := by omega
  have g3 : (0 : Int) < (xs.length : Int) := by omega
  have g3n : 0 < xs.length := by omega
  obtain ⟨a, rfl, d0⟩ := hq 0 (by omega)
  rw [show a.add 0 = a by simp [Addr.add]] at d0
  have hik := hx _ (List.getElem_mem g3n)
  have hxe : l[xs[0]]? = some l[xs[0]] := List.getElem?_eq_getElem hik
  have hlm := hG.2.2.2 _ (List.getElem_mem hik)
  have hN := rcy_cyB hOk k2 hxe
  have hat := fun W (h : Below w.heap.size w W) => (hG.on h).at hik
  obtain ⟨x, hxx⟩ : ∃ x, x = l[xs[0]] := ⟨_, rfl⟩
  rw [← hxx] at hN hlm
  simp only [← hxx] at hat
  obtain ⟨x1, x2⟩ := x
  simp only [] at hlm hN hat
  obtain ⟨i, hi⟩ : ∃ i, i = xs[0] := ⟨_, rfl⟩
  rw [← hi] at d0 hik
  simp only [← hi] at hat
  have q1 : (0 : Int) ≤ (i : Int) := by omega
  have q2 : (i : Int) < (l.length : Int) := by omega
  have C1 := fun W g r => round_any p n l cap (.slice (some a) xs.length c) xs x1 W g r hx hxl hlm.1
  have C2 := fun W g r => round_any p n l cap (.slice (some a) xs.length c) xs x2 W g r hx hxl hlm.2.1
  have HN := Lib.hid hN
  clear hxe hxx hi hq hN
  obtain ⟨ae, rfl, f0, f1, -⟩ := hat w (Below.refl _ _)
  cases hc1 : rnd l x1 [] xs [x1] x1
  · rw [hc1] at C1 HN
    rw [Bool.false_or] at HN
    go_enter Try.func24, Try.ntmps24
    go_wp2_with (go_at_call 51; first
      | ((with_reducible refine (C1 _ hG hR0).mono ?_); rintro e w3 ⟨rfl, b3⟩; have g3' := hG.on b3; have r3 := hR0.on b3; have d3 := cell_later b3 d0; have f13 := cell_later b3 f1)
      | ((with_reducible refine (C2 w3 g3' r3).mono ?_); rintro e w4 ⟨rfl, b4⟩))
    go_ret
    exact ⟨by rw [← HN.out]; rfl, belows b3 b4⟩
  · rw [hc1] at C1 HN
    rw [Bool.true_or] at HN
    go_enter Try.func24, Try.ntmps24
    go_wp2_with (go_at_call 51; ((with_reducible refine (C1 _ hG hR0).mono ?_); rintro e w3 ⟨rfl, b3⟩))
    go_ret
    exact ⟨by rw [← HN.out]; rfl, b3⟩
set_option maxRecDepth 100000 in
theorem indices_rd (p : Option Addr) (m cap : Nat) (u : Value) (zs : List Int) (w : World) (hR : Rdz w u zs) (hl : zs.length ≤ 100000) :
    Calls Try.prog 23 #[.slice p m cap, u] w fun e w' => e = .returned (.bool (allR m zs)) ∧ w = w' := by
  obtain ⟨q, c, rfl, hq⟩ := hR
  go_enter Try.func23, Try.ntmps23
  go_wp2
  go_loopw [5] (fun v wr => ∃ k : Nat, v = .int .i64 k ∧ k ≤ zs.length ∧ Hid (∀ x ∈ zs.take k, inR m x = true) ∧ w = wr) (fun v _ => zs.length - (intOf v).toNat)
  case atStart => exact ⟨0, rfl, Nat.zero_le _, Lib.hid (by simp), rfl⟩
  case round =>
    obtain ⟨k, rfl, hk, hG, rfl⟩ := hrel
    by_cases hlt : k < zs.length
    · have g1 : decide ((k : Int) < (zs.length : Int)) = true := by simp [hlt]
      obtain ⟨a, rfl, cu⟩ := hq k hlt
      have W1 : IntKind.i64.wrap ((k : Int) + 1) = ((k + 1 : Nat) : Int) := by rw [IntWalk.i64_in _ (by omega)]; omega
      have q1 : (0 : Int) ≤ (k : Int) := by omega
      have q2 : (k : Int) < (zs.length : Int) := by omega
      obtain ⟨z, hz⟩ : ∃ z, z = zs[k] := ⟨_, rfl⟩
      rw [← hz] at cu
      have HZ := Lib.hid hz
      clear hz
      have no : inR m z = false → allR m zs = false := fun h => List.all_eq_false.2 ⟨_, List.getElem_mem hlt, by rw [← HZ.out, h]; simp⟩
      have HNo := Lib.hid no
      clear no
      by_cases h1 : z < 0
      · have HF := Lib.hid (HNo.out (by unfold inR wi; rw [decide_eq_false (by omega)]; rfl))
        go_wp2
        go_ret
        exact ⟨by rw [HF.out]; rfl, rfl⟩
      by_cases h2 : (m : Int) ≤ z
      · have HF := Lib.hid (HNo.out (by unfold inR wi; rw [decide_eq_false (show ¬ z < (m : Int) by omega), Bool.and_false]))
        go_wp2
        go_ret
        exact ⟨by rw [HF.out]; rfl, rfl⟩
      · have hv : inR m z = true := by unfold inR wi; rw [decide_eq_true (by omega), decide_eq_true (by omega)]; rfl
        have HV := Lib.hid hv
        clear hv
        go_wp2
        refine ⟨⟨k + 1, rfl, hlt, Lib.hid ?_, trivial⟩, by simp [intOf]; omega⟩
        intro x hx'
        rw [List.take_succ_eq_append_getElem hlt, List.mem_append] at hx'
        rcases hx' with hx' | hx'
        · exact hG.out x hx'
        · rw [List.mem_singleton.1 hx', ← HZ.out]; exact HV.out
    · have g1 : decide ((k : Int) < (zs.length : Int)) = false := by simp; omega
      have hGo := hG.out
      rw [List.take_of_length_le (by omega)] at hGo
      have e : allR m zs = true := List.all_eq_true.2 hGo
      have HE := Lib.hid e
      clear e hGo hG
      go_wp2
      go_ret
      exact ⟨by rw [HE.out]; rfl, rfl⟩
set_option maxRecDepth 100000 in
theorem cycles_no (p : Option Addr) (n : Int) (l : List (Int × Int)) (cap : Nat) (w : World) (hS : Sl w p l) (h : vG n l = false) :
    Calls Try.prog 19 #[.int .i64 n, .slice p l.length cap] w fun e w' => e = .returned (.tuple #[.slice none 0 0, .int .i64 1]) ∧ Below w.heap.size w w' := by
  have hv := valid_any p l cap n w hS
  rw [h] at hv
  go_enter Try.func19, Try.ntmps19
  go_wp2_with (go_at_call 14; (with_reducible refine hv.mono ?_); rintro e w1 ⟨rfl, b1⟩)
  exact bodyPost_ret (v := .tuple #[.slice none 0 0, .int .i64 1]) (by simp [results, Try.results19, go_sem]) rfl ⟨rfl, b1⟩
set_option maxRecDepth 100000 in
theorem cycle_no (p : Option Addr) (n : Int) (l : List (Int × Int)) (cap : Nat) (u : Value) (w : World) (hS : Sl w p l) (h : vG n l = false) :
    Calls Try.prog 21 #[.int .i64 n, .slice p l.length cap, u] w fun e w' => e = .returned (.tuple #[.bool false, .int .i64 1]) ∧ Below w.heap.size w w' := by
  have r0 : (w.alloc (.cells #[.slice p l.length cap] 22)).cell? ⟨w.heap.size, 0, none⟩ = some (.slice p l.length cap) := (Has.new_ w 22 #[.slice p l.length cap]).read 0
  have hv := valid_any p l cap n _ (hS.on (al1 w (.cells #[.slice p l.length cap] 22)))
  rw [h] at hv
  go_enter Try.func21, Try.ntmps21
  go_wp2_with (go_at_call 14; (with_reducible refine hv.mono ?_); rintro e w1 ⟨rfl, b1⟩)
  exact bodyPost_ret (v := .tuple #[.bool false, .int .i64 1]) (by simp [results, Try.results21, go_sem]) rfl ⟨rfl, belows (al1 _ _) b1⟩
set_option maxRecDepth 100000 in
theorem cycle_range (p : Option Addr) (n : Nat) (l : List (Nat × Nat)) (cap : Nat) (u : Value) (zs : List Int) (w : World) (hG : Gr w p n l) (hR : Rdz w u zs) (hl : zs.length ≤ 100000) (h : allR l.length zs = false) :
    Calls Try.prog 21 #[.int .i64 n, .slice p l.length cap, u] w fun e w' => e = .returned (.tuple #[.bool false, .int .i64 2]) ∧ Below w.heap.size w w' := by
  have c0 : (w.alloc (.cells #[.slice p l.length cap] 22)).cell? ⟨w.heap.size, 0, none⟩ = some (.slice p l.length cap) := (Has.new_ w 22 #[.slice p l.length cap]).read 0
  have bE := al1 w (.cells #[.slice p l.length cap] 22)
  have hG0 := hG.on bE
  have hR0 := hR.on bE
  have hO := fun W v k => outs_any u zs p l.length cap w.heap.size W v hl k
  rw [h] at hO
  go_enter Try.func21, Try.ntmps21
  go_wp2_with (first
    | (go_at_call 14; (with_reducible refine (valid_ok cap hG0).mono ?_); rintro e w1 ⟨rfl, b1⟩; have hR1 := hR0.on b1; have c1 := cell_later b1 c0)
    | (go_at_call 47; (with_reducible refine (hO _ hR1 c1).mono ?_); rintro e w2 ⟨rfl, rfl⟩))
  exact bodyPost_ret (v := .tuple #[.bool false, .int .i64 2]) (by simp [results, Try.results21, go_sem]) rfl ⟨rfl, belows bE b1⟩
end Go.Proofs.Ytampfciacjifgaa
namespace Go.Proofs.Ytampfciacjifgaa
open Go.ChangeShapes Go.WideShapes Go.ChangeAt Go.RowKit
set_option linter.unusedVariables false
set_option linter.unusedSimpArgs false

/-- Each edge beside the forest has its simple way back over the forest. -/
def Pc (l : List (Nat × Nat)) (h : Nat → List Nat) : Prop := ∀ i (hi : i < l.length), joins l i = false → ∃ t, h i = i :: t ∧ Sw l l[i].2 l[i].1 t ∧ t.length ≤ 2000
theorem pcycles (p : Option Addr) (n : Nat) (l : List (Nat × Nat)) (cap : Nat) (w : World) (hG : Gr w p n l) :
    Calls Try.prog 19 #[.int .i64 n, .slice p l.length cap] w fun e w' => ∃ v h, e = .returned (.tuple #[v, .int .i64 0]) ∧ Pc l h ∧ Nest w.heap.size w' v ((outF l l.length).map h) ∧ Below w.heap.size w w' := by
  refine (cycles_ok p n l cap w hG).mono ?_
  rintro e w' ⟨v, f, ro, he, hF, hN, hb⟩
  have hl : Ok l n := hG.2.2.2
  have hn := hG.2.2.1
  refine ⟨v, cyc l f, he, fun i hi hj => ?_, hN, hb⟩
  obtain ⟨t, h1, h2, h3⟩ := cyc_sw hl hF hi hj
  exact ⟨t, h1, h2, by omega⟩
theorem okw_wlk {l : List (Nat × Nat)} {n : Nat} (hl : Ok l n) {xs : List Nat} : ∀ (t : List Nat) (v : Nat), okw l v t → (∀ e ∈ t, e ∈ xs) → ∃ k, Wlk (nbr l n (adj l xs)) k v (fin l v t)
  | [], v, _, _ => ⟨0, .nil v⟩
  | i :: t, v, ⟨hv, ho⟩, he => by
    obtain ⟨k, w⟩ := okw_wlk hl t _ ho fun e h => he e (List.mem_cons_of_mem _ h)
    have hv' := hv
    obtain ⟨x, hx, hxv⟩ := hv
    refine ⟨k + 1, .cons ⟨ic_lt hl hv', i, List.mem_filter.2 ⟨he i (by simp), ?_⟩, x, hx, (nx_is hx).symm⟩ w⟩
    unfold inc; rw [hx]; simpa using hxv
/-- The way over the forest. -/
theorem way_forest (p : Option Addr) (n : Nat) (l : List (Nat × Nat)) (cap : Nat) (u : Value) (a b : Nat) (t : List Nat) (w : World) (hG : Gr w p n l) (hR : Rdl w u (inF l l.length)) (ha : a < n) (hb : b < n) (hs : Sw l a b t) :
    Calls Try.prog 50 #[.int .i64 n, .slice p l.length cap, u, .int .i64 a, .int .i64 b] w fun e w' => ∃ v, e = .returned (.tuple #[v, .bool true]) ∧ Own w.heap.size w' v t ∧ Below w.heap.size w w' := by
  have hl : Ok l n := hG.2.2.2
  have sy : ∀ u v, nbr l n (adj l (inF l l.length)) u v → nbr l n (adj l (inF l l.length)) v u := fun u v h => nbr_symm hl h
  refine (way_any p n l cap u (inF l l.length) a b w hG hR (fun i hi => (inF_mem.1 hi).1) (Nat.le_trans (inF_len l _) hG.2.1) ha hb).mono ?_
  rintro e w' ⟨g, hS, hB, hno, hyes⟩
  obtain ⟨k, wl⟩ := okw_wlk hl t a hs.o hs.e
  rw [hs.f] at wl
  have h0 := (sp_least sy hS wl).1
  obtain ⟨v, he, ho⟩ := hyes h0
  have W := (gp_sw hl hS (g a).toNat a ha (by omega)).1
  rw [sw_uniq hl _ _ a W hs] at ho
  exact ⟨v, he, ho, hB⟩
set_option maxRecDepth 100000 in
set_option maxHeartbeats 8000000 in
theorem rcycles_any (p : Option Addr) (n : Nat) (l : List (Nat × Nat)) (cap : Nat) (h : Nat → List Nat) (w : World) (hG : Gr w p n l) (hh : Pc l h) :
    Calls Try.prog 22 #[.int .i64 n, .slice p l.length cap] w fun e w' => ∃ v, e = .returned v ∧ Nest w.heap.size w' v ((outF l l.length).map h) ∧ Below w.heap.size w w' := by
  have hm := hG.2.1
  have hn := hG.2.2.1
  obtain ⟨i0, hi, hz0, hz1, hz2⟩ := info_parts info3
  obtain ⟨j0, hj, hy0, hy1, hy2⟩ := info_parts info29
  go_enter Try.func22, Try.ntmps22
  go_wp2_with (go_at_call 18; (with_reducible refine (rforest_any p n l cap _ hG).mono ?_); rintro e w1 ⟨v5, rfl, o5, b1⟩; have G1 := hG.on b1; have r5 := Own.rd o5)
  have HR := Lib.hid r5
  clear o5 r5 hG
  go_loopw [6, 7] (fun v6 v7 wr => ∃ k : Nat, v7 = .int .i64 k ∧ k ≤ l.length ∧ Hid (Nest w1.heap.size wr v6 ((outF l k).map h)) ∧ Below w1.heap.size w1 wr) (fun _ v _ => l.length - (intOf v).toNat)
  case atStart => exact ⟨0, rfl, Nat.zero_le _, Lib.hid (Nest.nil _ _), Below.refl _ _⟩
  case round =>
    obtain ⟨k, rfl, hk, hN, hB⟩ := hrel
    by_cases hlt : k < l.length
    · have g1 : decide ((k : Int) < (l.length : Int)) = true := by simp [hlt]
      have W1 : IntKind.i64.wrap ((k : Int) + 1) = ((k + 1 : Nat) : Int) := by rw [IntWalk.i64_in _ (by omega)]; omega
      have hI := fun w g => inforest_any p n k l cap w g hlt
      have Gr1 := G1.on hB
      have e1 := outF_next l k
      cases hjk : joins l k
      rotate_left
      · rw [hjk] at hI e1
        simp only [if_true, List.append_nil] at e1
        have E1 := Lib.hid e1
        clear e1
        go_wp2_with (go_at_call 45; (with_reducible refine (hI _ Gr1).mono ?_); rintro e w2 ⟨rfl, hb⟩)
        exact ⟨⟨k + 1, rfl, hlt, Lib.hid (by rw [E1.out]; exact Nest.on hN.out hb), belows hB hb⟩, by simp [intOf]; omega⟩
      · obtain ⟨t, ht, hs, htl⟩ := hh k hlt hjk
        rw [hjk] at hI e1
        simp only [Bool.false_eq_true, if_false] at e1
        have e2 : (outF l (k + 1)).map h = (outF l k).map h ++ [k :: t] := by rw [e1, List.map_append]; simp [ht]
        have E2 := Lib.hid e2
        have hol := outF_len l k
        clear e1 e2 ht
        have hlm := G1.2.2.2 _ (List.getElem_mem hlt)
        have tp : 0 < t.length := by
          cases t with
          | nil => exact absurd hs.f (Ne.symm hlm.2.2)
          | cons a b => simp
        obtain ⟨x1, hx1⟩ : ∃ x, x = l[k].1 := ⟨_, rfl⟩
        obtain ⟨x2, hx2⟩ : ∃ x, x = l[k].2 := ⟨_, rfl⟩
        have hat := fun W (g : Below w1.heap.size w1 W) => (G1.on g).at hlt
        rw [← hx1, ← hx2] at hs hlm
        simp only [← hx1, ← hx2] at hat
        have hW := fun u W g r => way_forest p n l cap u x2 x1 t W g r hlm.2.1 hlm.1 hs
        have HLM := Lib.hid hlm
        clear hx1 hx2 hs hlm
        have q1 : (0 : Int) ≤ (k : Int) := by omega
        have q2 : (k : Int) < (l.length : Int) := by omega
        go_upto_region 7 with (go_at_call 45; (with_reducible refine (hI _ Gr1).mono ?_); rintro e w2 ⟨rfl, hb⟩)
        have B2 := belows hB hb
        have N2 := Lib.hid (Nest.on hN.out hb)
        obtain ⟨a, rfl, d0, d1, -⟩ := hat w2 B2
        have R2 := HR.out.on B2
        have G2 := G1.on B2
        clear hB hb hN hI Gr1 hat
        go_cut [8] (fun s wx => Own w2.heap.size wx s t ∧ Below w2.heap.size w2 wx)
        case first =>
          have B0 := Below.refl w2.heap.size w2
          go_region_law (go_simp; go_at_call 50; (refine (hW v5 _ (G2.on (show Below w2.heap.size w2 _ from (by repeat' (first | exact B0 | refine below_al ?_ _ | refine below_dr ?_)))) (R2.on (show Below w2.heap.size w2 _ from (by repeat' (first | exact B0 | refine below_al ?_ _ | refine below_dr ?_))))).mono ?_); rintro e w5 ⟨v8, rfl, o8, b8⟩; have B8 : Below w2.heap.size w2 w5 := belows (show Below w2.heap.size w2 _ from (by repeat' (first | exact B0 | refine below_al ?_ _ | refine below_dr ?_))) b8; have O8 : Own w2.heap.size w5 v8 t := Own.mono o8 (Below.size (show Below w2.heap.size w2 _ from (by repeat' (first | exact B0 | refine below_al ?_ _ | refine below_dr ?_)))))
          all_goals (go_wp2_with fail)
          all_goals go_meet
          all_goals exact ⟨O8, B8⟩
        case rest =>
          obtain ⟨ot, bx⟩ := hcut
          obtain ⟨gz, cz, rfl, gz1, gz2⟩ := World.ownsRow.form ot tp
          have BX : Below w1.heap.size w1 wc := B2.trans (bx.mono B2.size)
          obtain ⟨vs, hb9⟩ := Nst.start (Nest.on N2.out bx)
          have hls : ((outF l k).map h).length = (outF l k).length := List.length_map _
          generalize (outF l k).map h = ls at *
          have hlk : ls.length ≤ k := by rw [hls]; exact hol
          have HB9 := Lib.hid hb9
          have OT := Lib.hid ot
          clear hb9 ot N2 hls bx hol d0 d1 R2 G2
          go_wp2_with (first
            | (at_builtin; refine wpList_append_own_at _ rfl (.tmp 43) (.tmp 44) 29 rfl w1.heap.size 3 i0 _ 1 8 Try.underlying29 hi hz0 hz1 hz2 rfl (by decide) (.slice (some ⟨wc.heap.size, 0, none⟩) 1 1) 1 [.int .i64 (k : Int)] rfl (World.ownsRow_lit wc #[.int .i64 (k : Int)] 1 BX.size (by unfold maxLen; omega) rfl) ⟨gz, 0, none⟩ t.length cz (ints t) rfl (by simp [ints]) (own_news (own_on OT.out (al1 wc (.cells #[.int .i64 (k : Int)] 3)))) (ints_one t) (by unfold maxLen; omega) (by omega) (Nat.le_trans BX.size (al1 wc _).size) ?_; intro v6 w6 h6 g6 n6 at6; obtain ⟨gg, cap6, e6, -, -⟩ := World.ownsRow.form h6 (by omega); subst e6; have Q6 : Below wc.heap.size wc w6 := below_grown' (al1 wc (.cells #[.int .i64 (k : Int)] 3)) g6 (fun j hj => by simp [Value.ownBlock] at hj; omega); have gd : wc.heap.size ≤ gg := (by rcases at6 with e | e <;> simp [Value.ownBlock] at e <;> omega); have B6 : Below w1.heap.size w1 w6 := BX.trans (Q6.mono BX.size); have U6 := own_cons h6)
            | (at_builtin; refine wpList_append_own_at _ rfl (.tmp 41) (.tmp 46) 25 rfl w1.heap.size 29 j0 _ 1 24 Try.underlying25 hj hy0 hy1 hy2 rfl (by decide) u6 ls.length vs rfl (own_on HB9.out.o (below_al Q6 (.cells #[.slice (some ⟨gg, 0, none⟩) (1 + t.length) cap6] 29))) ⟨w6.heap.size, 0, none⟩ 1 1 [.slice (some ⟨gg, 0, none⟩) (1 + t.length) cap6] rfl rfl (cell_one_new _ _ _) (by simp [Value.oneCell']) (by unfold maxLen; omega) (by omega) (Nat.le_trans B6.size (al1 w6 _).size) ?_; intro v8 w8 h8 g8 n8 at8; have N8 : Hid (Nest w1.heap.size w8 v8 (ls ++ [k :: t])) := Lib.hid (cyc_end HB9.out (below_al Q6 (.cells #[.slice (some ⟨gg, 0, none⟩) (1 + t.length) cap6] 29)) (own_on U6 (al1 w6 _)) gd (by rw [Nat.add_comm 1 t.length] at h8; exact h8) g8 at8); have B8 : Below w1.heap.size w1 w8 := below_grown' (below_al B6 _) g8 (fun j hj => (HB9.out.o.lt _ hj).1)))
          exact ⟨⟨k + 1, rfl, hlt, by rw [E2.out]; exact N8, B8⟩, by simp [intOf]; omega⟩
    · have g1 : decide ((k : Int) < (l.length : Int)) = false := by simp; omega
      have e : k = l.length := by omega
      subst e
      go_wp2
      go_ret
      exact ⟨_, rfl, hN.out.mono b1.size, belows b1 hB⟩
end Go.Proofs.Ytampfciacjifgaa
namespace Go.Proofs.Ytampfciacjifgaa
open Go.ChangeShapes Go.WideShapes Go.ChangeAt Go.RowKit
set_option linter.unusedVariables false
set_option linter.unusedSimpArgs false

theorem allR_nat {m : Nat} {zs : List Int} (h : allR m zs = true) : ∃ xs : List Nat, zs = toZ xs ∧ zs.length = xs.length ∧ ∀ i ∈ xs, i < m := by
  have hz : ∀ z ∈ zs, 0 ≤ z ∧ z < m := fun z hz => by
    have := List.all_eq_true.1 h z hz
    simpa [inR, wi] using this
  refine ⟨zs.map Int.toNat, ?_, by simp, fun i hi => ?_⟩
  · unfold toZ
    rw [List.map_map]
    conv => lhs; rw [← List.map_id zs]
    exact List.map_congr_left fun z h1 => by have := hz z h1; simp; omega
  · obtain ⟨z, h1, rfl⟩ := List.mem_map.1 hi
    have := hz z h1; omega
theorem rvalid_yes {p : Option Addr} {n : Nat} {l : List (Nat × Nat)} {w : World} (cap : Nat) (h : Gr w p n l) :
    Calls Try.prog 13 #[.int .i64 n, .slice p l.length cap] w fun e w' => e = .returned (.bool true) ∧ Below w.heap.size w w' := by
  have k := rvalid_any p (cast2 l) cap n w h.1
  rw [valid_gr h, cast2_len] at k
  exact k
theorem gcount_len {l : List (Nat × Nat)} {h : Nat → List Nat} (hh : Pc l h) : ∀ x ∈ (outF l l.length).map h, x.length ≤ 100000 := fun x hx => by
  obtain ⟨i, hi, rfl⟩ := List.mem_map.1 hx
  obtain ⟨hil, hj⟩ := outF_mem.1 hi
  obtain ⟨t, e, -, ht⟩ := hh i hil hj
  rw [e, List.length_cons]; omega
set_option maxRecDepth 100000 in
set_option maxHeartbeats 8000000 in
theorem gcycles_walk (p : Option Addr) (l : List (Int × Int)) (cap : Nat) (u : Value) (zs : List Int) (n : Int) (w : World) (hS : Sl w p l) (hR : Rdz w u zs) :
    Calls Try.prog 4 #[.int .i64 n, .slice p l.length cap, u] w fun e w' => e = .returned (.bool true) ∧ Below w.heap.size w w' := by
  have hL := fun W => large_any p l.length cap n W
  obtain ⟨q0, c0, rfl, -⟩ := (show Rdz w u zs from hR)
  cases hl : lg n l.length
  rotate_left
  · rw [hl] at hL
    go_enter Try.func4, Try.ntmps4
    go_wp2_with (first
      | (go_at_call 9; (with_reducible refine (awake_any _).mono ?_); rintro e w1 ⟨rfl, b1⟩)
      | (go_at_call 10; (with_reducible refine (hL _).mono ?_); rintro e w2 ⟨rfl, rfl⟩))
    go_ret
    exact ⟨rfl, b1⟩
  rw [hl] at hL
  by_cases h60 : (60 : Int) < zs.length
  · have g60 : decide ((60 : Int) < zs.length) = true := decide_eq_true h60
    go_enter Try.func4, Try.ntmps4
    go_wp2_with (first
      | (go_at_call 9; (with_reducible refine (awake_any _).mono ?_); rintro e w1 ⟨rfl, b1⟩)
      | (go_at_call 10; (with_reducible refine (hL _).mono ?_); rintro e w2 ⟨rfl, rfl⟩))
    go_ret
    exact ⟨rfl, b1⟩
  have h60n : ¬ 60 < zs.length := by omega
  have hz : zs.length ≤ 60 := by omega
  cases hv : vG n l
  · have f13 := fun W h => rvalid_any p l cap n W h
    have f19 := fun W h => cycles_no p n l cap W h hv
    have f20 := fun W h => count_no p n l cap W h hv
    have f21 := fun W h => cycle_no p n l cap (.slice q0 zs.length c0) W h hv
    rw [hv] at f13
    go_enter Try.func4, Try.ntmps4
    go_wp2_with (first
      | (go_at_call 9; (with_reducible refine (awake_any _).mono ?_); rintro e w1 ⟨rfl, b1⟩; have S1 := hS.on b1)
      | (go_at_call 10; (with_reducible refine (hL _).mono ?_); rintro e w2 ⟨rfl, rfl⟩)
      | (go_at_call 19; (with_reducible refine (f19 _ S1).mono ?_); rintro e w2 ⟨rfl, b2⟩; have S2 := S1.on b2)
      | (go_at_call 20; (with_reducible refine (f20 _ S2).mono ?_); rintro e w3 ⟨rfl, b3⟩; have S3 := S2.on b3)
      | (go_at_call 21; (with_reducible refine (f21 _ S3).mono ?_); rintro e w4 ⟨rfl, b4⟩; have S4 := S3.on b4)
      | (go_at_call 13; (with_reducible refine (f13 _ S4).mono ?_); rintro e w5 ⟨rfl, b5⟩))
    go_ret
    exact ⟨rfl, belows (belows (belows (belows b1 b2) b3) b4) b5⟩
  obtain ⟨m, k, rfl, rfl, hlen, hG⟩ := gr_of_valid hS hv
  rw [hlen] at hL ⊢
  have hk := hG.2.1
  have hol := outF_len k k.length
  have f19 := fun W h => pcycles p m k cap W h
  have f20 := fun W h => count_ok p m k cap W h
  have f22 := fun hf W g hh => rcycles_any p m k cap hf W g hh
  have f23 := fun W r => indices_rd p k.length cap (.slice q0 zs.length c0) zs W r (by omega)
  clear hv hlen hl
  cases hr : allR k.length zs
  · have f21 := fun W g r => cycle_range p m k cap (.slice q0 zs.length c0) zs W g r (by omega) hr
    rw [hr] at f23
    go_enter Try.func4, Try.ntmps4
    go_wp2_with (first
      | (go_at_call 9; (with_reducible refine (awake_any _).mono ?_); rintro e w1 ⟨rfl, b1⟩; have G1 := hG.on b1; have R1 := hR.on b1)
      | (go_at_call 10; (with_reducible refine (hL _).mono ?_); rintro e w2 ⟨rfl, rfl⟩)
      | (go_at_call 19; (with_reducible refine (f19 _ G1).mono ?_); rintro e w2 ⟨v2, h, rfl, hh, o2, b2⟩; have G2 := G1.on b2; have R2 := R1.on b2; have r2 := o2.rd; have hcl := gcount_len hh; have hle : ((outF k k.length).map h).length = (outF k k.length).length := List.length_map _)
      | (go_at_call 20; (with_reducible refine (f20 _ G2).mono ?_); rintro e w3 ⟨rfl, b3⟩; have G3 := G2.on b3; have R3 := R2.on b3; have r3 := Rdn.on r2 b3)
      | (go_at_call 21; (with_reducible refine (f21 _ G3 R3).mono ?_); rintro e w4 ⟨rfl, b4⟩; have G4 := G3.on b4; have R4 := R3.on b4; have r4 := Rdn.on r3 b4)
      | (go_at_call 13; (with_reducible refine (rvalid_yes cap G4).mono ?_); rintro e w5 ⟨rfl, b5⟩; have G5 := G4.on b5; have R5 := R4.on b5; have r5 := Rdn.on r4 b5)
      | (go_at_call 22; (with_reducible refine (f22 h _ G5 hh).mono ?_); rintro e w6 ⟨v6, rfl, o6, b6⟩; have G6 := G5.on b6; have R6 := R5.on b6; have r6 := Rdn.on r5 b6; have s6 := o6.rd; obtain ⟨q6, c6, e6, -⟩ := (show Rdn w6 v6 ((outF k k.length).map h) from s6); rw [hle] at e6; subst e6)
      | (go_at_call 15; (with_reducible refine (same_any v2 _ _ _ w6 r6 s6 (by rw [hle]; omega) hcl).mono ?_); rintro e w7 ⟨rfl, b7⟩; have B7 := drewN_below b7; have R7 := R6.on B7)
      | (go_at_call 23; (with_reducible refine (f23 _ R7).mono ?_); rintro e w8 ⟨rfl, rfl⟩))
    go_ret
    exact ⟨by simp, belows (belows (belows (belows (belows (belows b1 b2) b3) b4) b5) b6) B7⟩
  · obtain ⟨xs, rfl, hxl, hxi⟩ := allR_nat hr
    have f21 := fun W g r => cycle_yes p m k cap (.slice q0 (toZ xs).length c0) xs W g (Rdz.y r) hxi (by omega)
    have f24 := fun W g r => rcycle_any p m k cap (.slice q0 (toZ xs).length c0) xs W g (Rdz.y r) hxi (by omega)
    rw [hr] at f23
    have HX := Lib.hid (And.intro hxl hxi)
    clear hxl hxi hr
    cases hb : cyB k xs
    all_goals (
      rw [hb] at f21 f24
      go_enter Try.func4, Try.ntmps4
      go_wp2_with (first
        | (go_at_call 9; (with_reducible refine (awake_any _).mono ?_); rintro e w1 ⟨rfl, b1⟩; have G1 := hG.on b1; have R1 := hR.on b1)
        | (go_at_call 10; (with_reducible refine (hL _).mono ?_); rintro e w2 ⟨rfl, rfl⟩)
        | (go_at_call 19; (with_reducible refine (f19 _ G1).mono ?_); rintro e w2 ⟨v2, h, rfl, hh, o2, b2⟩; have G2 := G1.on b2; have R2 := R1.on b2; have r2 := o2.rd; have hcl := gcount_len hh; have hle : ((outF k k.length).map h).length = (outF k k.length).length := List.length_map _)
        | (go_at_call 20; (with_reducible refine (f20 _ G2).mono ?_); rintro e w3 ⟨rfl, b3⟩; have G3 := G2.on b3; have R3 := R2.on b3; have r3 := Rdn.on r2 b3)
        | (go_at_call 21; (with_reducible refine (f21 _ G3 R3).mono ?_); rintro e w4 ⟨rfl, b4⟩; have G4 := G3.on b4; have R4 := R3.on b4; have r4 := Rdn.on r3 b4)
        | (go_at_call 13; (with_reducible refine (rvalid_yes cap G4).mono ?_); rintro e w5 ⟨rfl, b5⟩; have G5 := G4.on b5; have R5 := R4.on b5; have r5 := Rdn.on r4 b5)
        | (go_at_call 22; (with_reducible refine (f22 h _ G5 hh).mono ?_); rintro e w6 ⟨v6, rfl, o6, b6⟩; have G6 := G5.on b6; have R6 := R5.on b6; have r6 := Rdn.on r5 b6; have s6 := o6.rd; obtain ⟨q6, c6, e6, -⟩ := (show Rdn w6 v6 ((outF k k.length).map h) from s6); rw [hle] at e6; subst e6)
        | (go_at_call 15; (with_reducible refine (same_any v2 _ _ _ w6 r6 s6 (by rw [hle]; omega) hcl).mono ?_); rintro e w7 ⟨rfl, b7⟩; have B7 := drewN_below b7; have R7 := R6.on B7; have G7 := G6.on B7)
        | (go_at_call 23; (with_reducible refine (f23 _ R7).mono ?_); rintro e w8 ⟨rfl, rfl⟩)
        | (go_at_call 24; (with_reducible refine (f24 _ G7 R7).mono ?_); rintro e w9 ⟨rfl, b9⟩))
      go_ret
      exact ⟨by simp, belows (belows (belows (belows (belows (belows (belows b1 b2) b3) b4) b5) b6) B7) b9⟩)
end Go.Proofs.Ytampfciacjifgaa
