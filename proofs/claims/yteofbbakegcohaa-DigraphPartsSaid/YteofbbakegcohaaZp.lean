/- Pure: the reference's rounds of Reach mark just the nodes that are reached. The reference's Reach. Pure: the distances are the least ones; the reference's rounds find them. Pure: the reference's loop is the program's. The reference's Far. The reference's Loop. Pure: the reference's parts are the parts. The reference's Parts. DigraphParts: the walk. -/
import Derived.Test.YteofbbakegcohaaRx
import Derived.Test.YteofbbakegcohaaRo
import Derived.Test.YteofbbakegcohaaEk
import Derived.Test.YteofbbakegcohaaRw
import Derived.Test.YteofbbakegcohaaTq
import Derived.Test.YteofbbakegcohaaTp
import Derived.Test.YteofbbakegcohaaPl
import Derived.Test.YteofbbakegcohaaRy
namespace Go.Proofs.Yteofbbakegcohaa
set_option linter.unusedVariables false
set_option linter.unusedSimpArgs false

/-- What an edge does to the marks. -/
def est (f : Nat → Bool) (e : Nat × Nat) : Nat → Bool := if f e.1 = true then upd f e.2 true else f
def rstep (l : List (Nat × Nat)) (f : Nat → Bool) : Nat → Bool := l.foldl est f
def rrd (l : List (Nat × Nat)) (v : Nat) : Nat → Nat → Bool
  | 0 => upd (fun _ => false) v true
  | k + 1 => rstep l (rrd l v k)
theorem est_mono {f : Nat → Bool} {e : Nat × Nat} {x : Nat} (h : f x = true) : est f e x = true := by
  unfold est
  split
  · unfold upd; split
    · rfl
    · exact h
  · exact h
theorem rstep_mono : ∀ (l : List (Nat × Nat)) (f : Nat → Bool) (x : Nat), f x = true → rstep l f x = true
  | [], _, _, h => h
  | e :: l, f, x, h => rstep_mono l (est f e) x (est_mono h)
theorem rstep_edge : ∀ (l : List (Nat × Nat)) (f : Nat → Bool) (a b : Nat), (a, b) ∈ l → f a = true → rstep l f b = true
  | e :: l, f, a, b, hm, h => by
    show rstep l (est f e) b = true
    rcases List.mem_cons.1 hm with rfl | hm
    · refine rstep_mono l _ b ?_
      unfold est
      rw [if_pos h]
      exact upd_same _ _ _
    · exact rstep_edge l _ a b hm (est_mono h)
theorem rstep_sound (P : Nat → Prop) : ∀ (l : List (Nat × Nat)) (f : Nat → Bool), (∀ x, f x = true → P x) → (∀ e ∈ l, P e.1 → P e.2) → ∀ x, rstep l f x = true → P x
  | [], _, h, _, x, hx => h x hx
  | e :: l, f, h, he, x, hx => by
    refine rstep_sound P l (est f e) (fun y hy => ?_) (fun e' h' => he e' (List.mem_cons_of_mem _ h')) x hx
    unfold est at hy
    split at hy
    · rename_i h1
      unfold upd at hy
      split at hy
      · rename_i h2; rw [h2]; exact he e (List.mem_cons_self ..) (h _ h1)
      · exact h y hy
    · exact h y hy
theorem upd_id {f : Nat → Bool} {v : Nat} (h : f v = true) : upd f v true = f := by
  funext x
  unfold upd
  split
  · rename_i e; rw [e, h]
  · rfl
theorem rstep_cnt {n : Nat} : ∀ (l : List (Nat × Nat)) (f : Nat → Bool), (∀ e ∈ l, e.1 < n ∧ e.2 < n) → zb n (rstep l f) ≤ zb n f ∧ (zb n (rstep l f) = zb n f → rstep l f = f)
  | [], f, _ => ⟨Nat.le_refl _, fun _ => rfl⟩
  | e :: l, f, h => by
    have hr : rstep (e :: l) f = rstep l (est f e) := rfl
    have ih := rstep_cnt l (est f e) (fun e' h' => h e' (List.mem_cons_of_mem _ h'))
    rw [hr]
    by_cases h1 : f e.1 = true
    · by_cases h2 : f e.2 = true
      · have e1 : est f e = f := by unfold est; rw [if_pos h1, upd_id h2]
        rw [e1] at ih ⊢; exact ih
      · have e1 : est f e = upd f e.2 true := by unfold est; rw [if_pos h1]
        have z := zb_upd (f := f) (h e (List.mem_cons_self ..)).2 (by simpa using h2)
        rw [e1] at ih ⊢
        exact ⟨by omega, fun k => by omega⟩
    · have e1 : est f e = f := by unfold est; rw [if_neg h1]
      rw [e1] at ih ⊢; exact ih
theorem rrd_fix {l : List (Nat × Nat)} {n v : Nat} (h : ∀ e ∈ l, e.1 < n ∧ e.2 < n) (hv : v < n) : ∀ k, rstep l (rrd l v k) = rrd l v k ∨ zb n (rrd l v k) + k + 1 ≤ n
  | 0 => by
    right
    have z := zb_upd (f := fun _ => false) hv rfl
    have z2 : zb n (fun _ => false) ≤ n := zc_le _ n
    show zb n (upd (fun _ => false) v true) + 0 + 1 ≤ n
    omega
  | k + 1 => by
    have e : rrd l v (k + 1) = rstep l (rrd l v k) := rfl
    rcases rrd_fix h hv k with i | i
    · left; rw [e, i, i]
    · have c := rstep_cnt l (rrd l v k) h
      by_cases q : zb n (rstep l (rrd l v k)) = zb n (rrd l v k)
      · left
        have f := c.2 q
        rw [e, f, f]
      · right
        rw [e]; omega
theorem rrd_iff {l : List (Nat × Nat)} {n v : Nat} (h : ∀ e ∈ l, e.1 < n ∧ e.2 < n) (hv : v < n) (x : Nat) : rrd l v n x = true ↔ Rch (adj l) v x := by
  constructor
  · have key : ∀ k x, rrd l v k x = true → Rch (adj l) v x := by
      intro k
      induction k with
      | zero =>
        intro x hx
        unfold rrd upd at hx
        split at hx
        · rename_i e; rw [e]; exact .refl v
        · cases hx
      | succ k ih =>
        intro x hx
        exact rstep_sound (Rch (adj l) v) l (rrd l v k) ih (fun e he hp => hp.trans (.edge ((mem_adj l e.1 e.2).2 he))) x hx
    exact key n x
  · intro hx
    have fix : rstep l (rrd l v n) = rrd l v n := by
      rcases rrd_fix h hv n with i | i
      · exact i
      · omega
    refine hx.closed (P := fun x => rrd l v n x = true) (fun a ha b hb => ?_) ?_
    · have := rstep_edge l (rrd l v n) a b ((mem_adj l a b).1 hb) ha
      rwa [fix] at this
    · have key : ∀ k, rrd l v k v = true := by
        intro k
        induction k with
        | zero => exact upd_same _ _ _
        | succ k ih => exact rstep_mono l _ v ih
      exact key n
theorem rrd_rmk {l : List (Nat × Nat)} {n v : Nat} (h : ∀ e ∈ l, e.1 < n ∧ e.2 < n) (hv : v < n) : rrd l v n = rmk (adj l) n v := by
  funext x
  rw [Bool.eq_iff_iff, rrd_iff h hv, rmk_iff (fun a _ b hb => (h _ ((mem_adj l a b).1 hb)).2) hv]
end Go.Proofs.Yteofbbakegcohaa
namespace Go.Proofs.Yteofbbakegcohaa
open Go.ChangeShapes Go.WideShapes Go.ChangeAt Go.RowKit
set_option linter.unusedVariables false
set_option linter.unusedSimpArgs false

set_option maxHeartbeats 8000000 in
set_option maxRecDepth 100000 in
theorem rreach_any (p : Option Addr) (n : Nat) (l : List (Nat × Nat)) (cap v : Nat) (w : World) (hG : Gr w p n l) (hv : v < n) :
    Calls Try.prog 39 #[.int .i64 n, .slice p l.length cap, .int .i64 v] w fun e w' => ∃ u, e = .returned u ∧ Own w.heap.size w' u (rch (adj l) n v) ∧ Below w.heap.size w w' := by
  have hn := hG.2.2.1
  have hl := hG.2.1
  obtain ⟨i0, hi, hz0, hz1, hz2⟩ := info_parts info3
  obtain ⟨b0, hb, hb0, hb1, hb2⟩ := info_parts info4
  have er : rch (adj l) n v = (List.range n).filter (rrd l v n) := by rw [rrd_rmk hG.2.2.2 hv]; rfl
  rw [er]
  clear er
  have HG := Lib.hid hG
  clear hG
  go_enter Try.func39, Try.ntmps39
  go_wp2_with (at_make; refine wpList_make_full _ rfl _ _ 65 rfl w.heap.size 4 b0 _ 1 Try.underlying65 hb hb0 hb1 _ _ _ _ n rfl rfl rfl rfl (by rw [hb2]; omega) (by unfold maxLen; omega) (Nat.le_refl _) ?_)
  intro w1 hown hgrow
  have hR := rowb_zero hown
  have hRs := hR.size_
  have x1 := below_grown (Below.refl _ w) hgrow (Nat.le_refl _)
  have o1 := Has.open_ hR v
  have q1 : (0 : Int) ≤ (v : Int) := by omega
  have q2 : (v : Int) < (n : Int) := by omega
  have d1 := hR.read hv
  have R2 := Lib.hid (RowB.put hR v true)
  have X2 := Lib.hid (x1.setCell (p := ⟨w.heap.size, v, none⟩) (Nat.le_refl _) (.bool true))
  clear hown hgrow hR x1
  go_wp2
  go_loopw [8] (fun v8 wr => ∃ k : Nat, v8 = .int .i64 k ∧ k ≤ n ∧ Hid (RowB wr w.heap.size n (rrd l v k)) ∧ Hid (Below w.heap.size w wr)) (fun x _ => n - (intOf x).toNat)
  case atStart => exact ⟨0, rfl, Nat.zero_le _, R2, X2⟩
  case round =>
    clear R2 X2
    obtain ⟨k, rfl, hk, hR, hX⟩ := hrel
    by_cases hlt : k < n
    · have g1 : decide ((k : Int) < (n : Int)) = true := by simp [hlt]
      have W1 : IntKind.i64.wrap ((k : Int) + 1) = ((k + 1 : Nat) : Int) := by rw [IntWalk.i64_in _ (by omega)]; omega
      go_wp2
      go_loopw [9] (fun v9 wq => ∃ i : Nat, v9 = .int .i64 i ∧ i ≤ l.length ∧ Hid (RowB wq w.heap.size n ((l.take i).foldl est (rrd l v k))) ∧ Hid (Below w.heap.size w wq)) (fun x _ => l.length - (intOf x).toNat)
      case atStart => exact ⟨0, rfl, Nat.zero_le _, hR, hX⟩
      case round =>
        clear hR hX
        obtain ⟨i, rfl, hi2, hR, hX⟩ := hrel
        by_cases hlt2 : i < l.length
        · have g2 : decide ((i : Int) < (l.length : Int)) = true := by simp [hlt2]
          have W2 : IntKind.i64.wrap ((i : Int) + 1) = ((i + 1 : Nat) : Int) := by rw [IntWalk.i64_in _ (by omega)]; omega
          have p1 : (0 : Int) ≤ (i : Int) := by omega
          have p2 : (i : Int) < (l.length : Int) := by omega
          obtain ⟨a, rfl, c0, c1, e1, e2⟩ := (HG.out.on hX.out).at hlt2
          have hT : (l.take (i + 1)).foldl est (rrd l v k) = est ((l.take i).foldl est (rrd l v k)) l[i] := by rw [List.take_succ_eq_append_getElem hlt2, List.foldl_append]; rfl
          have HT := Lib.hid hT
          clear hT
          generalize (l.take i).foldl est (rrd l v k) = f at *
          obtain ⟨⟨x, y⟩, hxy⟩ : ∃ z, Hid (l[i] = z) := ⟨_, Lib.hid rfl⟩
          rw [hxy.out] at c0 c1 e1 e2
          dsimp only at c0 c1 e1 e2
          have d0 := hR.out.read e1
          have o2 := Has.open_ hR.out y
          have p3 : (0 : Int) ≤ (x : Int) := by omega
          have p4 : (x : Int) < (n : Int) := by omega
          have p5 : (0 : Int) ≤ (y : Int) := by omega
          have p6 : (y : Int) < (n : Int) := by omega
          have dy := hR.out.read e2
          have R3 := Lib.hid (RowB.put hR.out y true)
          have X3 := Lib.hid (hX.out.setCell (p := ⟨w.heap.size, y, none⟩) (Nat.le_refl _) (.bool true))
          cases hf : f x
          · rw [hf] at d0
            have HE : Hid ((l.take (i + 1)).foldl est (rrd l v k) = f) := Lib.hid (by rw [HT.out, hxy.out]; unfold est; rw [if_neg (by dsimp only; rw [hf]; decide)])
            clear R3 X3 hf
            go_wp2
            exact ⟨⟨i + 1, rfl, hlt2, by rw [HE.out]; exact hR, hX⟩, by simp [intOf]; omega⟩
          · rw [hf] at d0
            have HE : Hid ((l.take (i + 1)).foldl est (rrd l v k) = upd f y true) := Lib.hid (by rw [HT.out, hxy.out]; unfold est; rw [if_pos (by dsimp only; rw [hf])])
            clear hR hX hf
            go_wp2
            exact ⟨⟨i + 1, rfl, hlt2, by rw [HE.out]; exact R3, X3⟩, by simp [intOf]; omega⟩
        · have g2 : decide ((i : Int) < (l.length : Int)) = false := by simp; omega
          have e : (l.take i).foldl est (rrd l v k) = rrd l v (k + 1) := by rw [List.take_of_length_le (by omega)]; rfl
          rw [e] at hR
          go_wp2
          exact ⟨⟨k + 1, rfl, hlt, hR, hX⟩, by simp [intOf]; omega⟩
    · have g1 : decide ((k : Int) < (n : Int)) = false := by simp; omega
      obtain rfl : k = n := by omega
      rename World => wo
      have HBW := hX
      have HR3 := hR
      have O0 : Own wo.heap.size wo (.slice none 0 0) [] := World.ownsRow_nil _ _ _ _
      clear hR hX
      go_wp2
      go_loopw [10, 11] (fun v10 v11 wr => ∃ (i : Nat) (D : List Nat) (q : Option Addr) (c : Nat), v10 = .slice q D.length c ∧ v11 = .int .i64 i ∧ i ≤ k ∧ D.length ≤ i ∧ Hid ((List.range i).filter (rrd l v k) = D) ∧ Own wo.heap.size wr (.slice q D.length c) D ∧ Below wo.heap.size wo wr) (fun _ x _ => k - (intOf x).toNat)
      case atStart => exact ⟨0, [], none, 0, rfl, rfl, Nat.zero_le _, Nat.zero_le _, Lib.hid rfl, O0, Below.refl _ _⟩
      case round =>
        clear O0
        obtain ⟨i, D, q, c, rfl, rfl, hk, hdl, HD, O, hB⟩ := hrel
        by_cases hlt : i < k
        · have g1 : decide ((i : Int) < (k : Int)) = true := by simp [hlt]
          have W1 : IntKind.i64.wrap ((i : Int) + 1) = ((i + 1 : Nat) : Int) := by rw [IntWalk.i64_in _ (by omega)]; omega
          have q1 : (0 : Int) ≤ (i : Int) := by omega
          have q2 : (i : Int) < (k : Int) := by omega
          have c1 := (HR3.out.on hB).read hlt
          have hft := filter_next (rrd l v k) i
          rw [HD.out] at hft
          cases hm : rrd l v k i
          · rw [hm] at c1
            rw [if_neg (by rw [hm]; simp)] at hft
            have HD2 := Lib.hid hft
            clear hft hm
            go_wp2
            exact ⟨⟨i + 1, D, q, c, rfl, rfl, hlt, by omega, HD2, O, hB⟩, by simp [intOf]; omega⟩
          · rw [hm] at c1
            rw [if_pos hm] at hft
            have HD2 := Lib.hid hft
            have hdl60 : D.length ≤ 60 := by omega
            clear hft hm
            go_wp2_with (at_builtin; refine wpList_append_own_at _ rfl _ _ 23 rfl wo.heap.size 3 i0 _ 1 8 Try.underlying23 hi hz0 hz1 hz2 rfl (by decide) _ D.length (ints D) rfl (own_on O (al1 _ _)) ⟨_, 0, none⟩ 1 1 [.int .i64 (i : Int)] rfl rfl (cell_one_new _ _ _) (by simp [Value.oneCell']) (by unfold maxLen; omega) (by omega) (Nat.le_trans hB.size (al1 _ _).size) ?_)
            intro v' w4 o1 o2 o3 o4
            obtain ⟨gq, cq, rfl, -, -⟩ := World.ownsRow.form o1 (Nat.succ_pos _)
            have ob := al1 wr (.cells #[.int .i64 (i : Int)] 3)
            have el : (D ++ [i]).length = D.length + 1 := by simp
            have O4 : Own wo.heap.size w4 (.slice (some ⟨gq, 0, none⟩) (D.length + 1) cq) (D ++ [i]) := by
              unfold Own
              rw [ints_app, List.length_append]
              exact o1
            have hB4 : Below wo.heap.size wo w4 := (hB.trans (ob.mono hB.size)).grown o2 (by have := ob.size; have := hB.size; omega) (fun j hj => (O.lt _ hj).1)
            have HEL := Lib.hid el
            clear o1 o2 o3 o4 ob el
            go_wp2
            exact ⟨⟨i + 1, D ++ [i], some ⟨gq, 0, none⟩, cq, by rw [HEL.out], rfl, hlt, by rw [HEL.out]; omega, HD2, by rw [HEL.out]; exact O4, hB4⟩, by simp [intOf]; omega⟩
        · have g1 : decide ((i : Int) < (k : Int)) = false := by simp; omega
          have e : i = k := by omega
          have HE : Hid ((List.range k).filter (rrd l v k) = D) := Lib.hid (by have hh := HD.out; rw [e] at hh; exact hh)
          clear e HD
          go_wp2
          go_ret
          exact ⟨_, rfl, by rw [HE.out]; exact Own.mono O HBW.out.size, belows HBW.out hB⟩
end Go.Proofs.Yteofbbakegcohaa
namespace Go.Proofs.Yteofbbakegcohaa
set_option linter.unusedVariables false
set_option linter.unusedSimpArgs false

/-- What holds of a queue that is gone through in the order of distances. -/
structure Bm (A : Nat → List Nat) (n : Nat) (f : Nat → Nat) (qs : List Nat) : Prop where
  s : qs.Pairwise (fun a b => f a ≤ f b)
  t : ∀ x, f x ≠ n → ∀ a ∈ qs, f x ≤ f a + 1
  c : ∀ x, f x ≠ n → x ∉ qs → ∀ v, v < n → x ∈ A v → f v ≤ f x + 1
theorem bst_bm {A : Nat → List Nat} {n q v : Nat} {f : Nat → Nat} {t : List Nat} (h : Bm A n f (q :: t)) (hb : Bq n f (q :: t)) (hv : v < n) :
    Bm A n (bst A n q (f, t) v).1 (q :: (bst A n q (f, t) v).2) := by
  unfold bst
  by_cases hc : f v = n ∧ q ∈ A v
  · rw [if_pos hc]
    have hq := (hb.q q (by simp)).2
    have hb1 := hb.b q hq
    have old : ∀ u, f u ≠ n → upd f v (f q + 1) u = f u := fun u hu => upd_other (fun e => hu (by rw [e]; exact hc.1))
    have new : upd f v (f q + 1) v = f q + 1 := upd_same _ _ _
    have hmin : ∀ a ∈ q :: t, f q ≤ f a := fun a ha => by
      rcases List.mem_cons.1 ha with rfl | ha
      · exact Nat.le_refl _
      · exact (List.pairwise_cons.1 h.s).1 a ha
    simp only
    have mem : ∀ a, a ∈ q :: (t ++ [v]) → a ∈ q :: t ∨ a = v := fun a ha => by
      rcases List.mem_cons.1 ha with e | e
      · exact .inl (by simp [e])
      · rcases List.mem_append.1 e with e | e
        · exact .inl (by simp [e])
        · exact .inr (List.mem_singleton.1 e)
    refine ⟨?_, fun x hx a ha => ?_, fun x hx hxq w hw hxw => ?_⟩
    · rw [← List.cons_append, List.pairwise_append]
      refine ⟨h.s.imp_of_mem fun {a b} ha hb2 k => ?_, List.pairwise_singleton _ _, fun a ha b hb2 => ?_⟩
      · rw [old a (hb.q a ha).2, old b (hb.q b hb2).2]; exact k
      · obtain rfl := List.mem_singleton.1 hb2
        rw [old a (hb.q a ha).2, new]
        exact h.t a (hb.q a ha).2 q (by simp)
    · rcases mem a ha with hm | rfl
      · rw [old a (hb.q a hm).2]
        by_cases e : x = v
        · subst e
          rw [new]
          have := hmin a hm; omega
        · rw [upd_other e] at hx ⊢
          exact h.t x hx a hm
      · rw [new]
        by_cases e : x = a
        · subst e; rw [new]; omega
        · rw [upd_other e] at hx ⊢
          have := h.t x hx q (by simp); omega
    · have hxv : x ≠ v := fun e => hxq (by subst e; simp)
      rw [upd_other hxv] at hx ⊢
      have k := h.c x hx (fun m => hxq (by
        rcases List.mem_cons.1 m with m | m
        · simp [m]
        · simp [m])) w hw hxw
      by_cases e : w = v
      · subst e
        rw [new]; omega
      · rw [upd_other e]; exact k
  · rw [if_neg hc]
    exact h
theorem bfold_bm {A : Nat → List Nat} {n q : Nat} : ∀ (xs : List Nat) (f : Nat → Nat) (t : List Nat), (∀ x ∈ xs, x < n) → Bm A n f (q :: t) → Bq n f (q :: t) →
    Bm A n (xs.foldl (bst A n q) (f, t)).1 (q :: (xs.foldl (bst A n q) (f, t)).2)
  | [], f, t, _, h, _ => h
  | x :: xs, f, t, hx, h, hb => by
    rw [List.foldl_cons]
    obtain ⟨b1, b2⟩ := bst_inv (A := A) hb (hx x (by simp))
    exact bfold_bm xs (bst A n q (f, t) x).1 (bst A n q (f, t) x).2 (fun y hy => hx y (by simp [hy])) (bst_bm h hb (hx x (by simp))) b1
theorem bfs_bm {A : Nat → List Nat} {n last : Nat} : ∀ (k : Nat) (f : Nat → Nat) (qs : List Nat), Bm A n f qs → Bd A n last f qs → Bq n f qs → ust n f + qs.length ≤ k → Bm A n (bfs A n k f qs) []
  | 0, f, qs, h, _, hb, hk => by
    have e : qs = [] := List.length_eq_zero_iff.1 (by omega)
    subst e; exact h
  | k + 1, f, [], h, _, hb, hk => h
  | k + 1, f, q :: t, h, hd, hb, hk => by
    unfold bfs
    obtain ⟨b1, b2⟩ := bfold_inv (A := A) (List.range n) f t (fun x hx => List.mem_range.1 hx) hb
    obtain ⟨h1, h2, h3⟩ := bfold_bd (List.range n) f t (fun x hx => List.mem_range.1 hx) hd hb
    have m := bfold_bm (A := A) (List.range n) f t (fun x hx => List.mem_range.1 hx) h hb
    refine bfs_bm k _ _ ⟨(List.pairwise_cons.1 m.s).2, fun x hx a ha => m.t x hx a (by simp [ha]), fun x hx hxq v hv hxv => ?_⟩ ⟨h1.l, h1.p, fun x hx hxq v hv hxv => ?_⟩ ⟨b1.b, fun x hx => b1.q x (by simp [hx])⟩ (by simp only [List.length_cons] at hk; omega)
    · by_cases e : x = q
      · subst e
        exact m.t v (h2 v (List.mem_range.2 hv) hxv) x (by simp)
      · exact m.c x hx (fun k => (List.mem_cons.1 k).elim e hxq) v hv hxv
    · by_cases e : x = q
      · subst e; exact h2 v (List.mem_range.2 hv) hxv
      · exact h1.c x hx (fun m => (List.mem_cons.1 m).elim e hxq) v hv hxv
theorem dst_bm {A : Nat → List Nat} {n last : Nat} (hl : last < n) : Bm A n (dst A n last) [] := by
  obtain ⟨b1, b2⟩ := Bq.start hl
  have only : ∀ x, upd (fun _ => n) last 0 x ≠ n → x = last := fun x hx => by
    by_cases e : x = last
    · exact e
    · rw [upd_other e] at hx; exact absurd rfl hx
  refine bfs_bm (last := last) n _ _ ⟨List.pairwise_singleton _ _, fun x hx a ha => ?_, fun x hx hxq => ?_⟩ ⟨upd_same _ _ _, fun v hv => .inl (only v hv), fun x hx hxq => ?_⟩ b1 (by simp only [List.length_singleton]; omega)
  · obtain rfl := only x hx
    rw [upd_same]; omega
  · exact absurd (only x hx) (fun e => hxq (by simp [e]))
  · exact absurd (only x hx) (fun e => hxq (by simp [e]))
/-- What holds of the distances to a node. -/
structure Dst (A : Nat → List Nat) (n v : Nat) (f : Nat → Nat) : Prop where
  z : f v = 0
  p : ∀ x, f x ≠ n → x = v ∨ ∃ u ∈ A x, f u + 1 = f x ∧ f u ≠ n
  m : ∀ x, f x ≠ n → ∀ y, y < n → x ∈ A y → f y ≠ n ∧ f y ≤ f x + 1
  b : ∀ x, f x ≠ n → f x < n
theorem dst_all {A : Nat → List Nat} {n v : Nat} (hv : v < n) : Dst A n v (dst A n v) := by
  obtain ⟨h, hb⟩ := dst_bd (A := A) hv
  have m := dst_bm (A := A) hv
  exact ⟨h.l, h.p, fun x hx y hy hxy => ⟨h.c x hx (by simp) y hy hxy, m.c x hx (by simp) y hy hxy⟩, fun x hx => by have := hb.b x hx; omega⟩
/-- What an edge does to the reference's distances. -/
def fst2 (g : Nat → Nat) (e : Nat × Nat) : Nat → Nat := if g e.2 + 1 < g e.1 then upd g e.1 (g e.2 + 1) else g
def frnd (l : List (Nat × Nat)) (g : Nat → Nat) : Nat → Nat := l.foldl fst2 g
def fard (l : List (Nat × Nat)) (n v : Nat) : Nat → Nat → Nat
  | 0 => upd (fun _ => n + 1) v 0
  | k + 1 => frnd l (fard l n v k)
theorem fst2_le (g : Nat → Nat) (e : Nat × Nat) (x : Nat) : fst2 g e x ≤ g x := by
  unfold fst2
  split
  · unfold upd
    split
    · rename_i h1 h2; rw [h2]; omega
    · exact Nat.le_refl _
  · exact Nat.le_refl _
theorem frnd_le : ∀ (l : List (Nat × Nat)) (g : Nat → Nat) (x : Nat), frnd l g x ≤ g x
  | [], _, _ => Nat.le_refl _
  | e :: l, g, x => Nat.le_trans (frnd_le l (fst2 g e) x) (fst2_le g e x)
theorem frnd_edge : ∀ (l : List (Nat × Nat)) (g : Nat → Nat) (a b : Nat), (a, b) ∈ l → frnd l g a ≤ g b + 1
  | e :: l, g, a, b, hm => by
    rcases List.mem_cons.1 hm with rfl | hm
    · refine Nat.le_trans (frnd_le l _ a) ?_
      unfold fst2
      split
      · simp only [upd_same]; exact Nat.le_refl _
      · dsimp only at *; omega
    · refine Nat.le_trans (frnd_edge l (fst2 g e) a b hm) ?_
      have := fst2_le g e b; omega
/-- No distance of the reference is too small. -/
def Lo (n : Nat) (f g : Nat → Nat) : Prop := ∀ x, g x ≤ n + 1 ∧ (g x ≠ n + 1 → f x ≠ n ∧ f x ≤ g x)
theorem lo_step {l : List (Nat × Nat)} {n v : Nat} {f g : Nat → Nat} (hd : Dst (adj l) n v f) {e : Nat × Nat} (he : e ∈ l) (h1 : e.1 < n) (h : Lo n f g) : Lo n f (fst2 g e) := by
  intro x
  unfold fst2
  split
  · rename_i hc
    have k1 := h e.1
    have k2 := h e.2
    unfold upd
    split
    · rename_i hx
      subst hx
      obtain ⟨a, b⟩ := k2.2 (by omega)
      obtain ⟨c, d⟩ := hd.m e.2 a e.1 h1 ((mem_adj l e.1 e.2).2 he)
      exact ⟨by omega, fun _ => ⟨c, by omega⟩⟩
    · exact h x
  · exact h x
theorem lo_rnd {l : List (Nat × Nat)} {n v : Nat} {f : Nat → Nat} (hd : Dst (adj l) n v f) : ∀ (m : List (Nat × Nat)) (g : Nat → Nat), (∀ e ∈ m, e ∈ l ∧ e.1 < n) → Lo n f g → Lo n f (frnd m g)
  | [], _, _, h => h
  | e :: m, g, he, h => lo_rnd hd m (fst2 g e) (fun e' h' => he e' (List.mem_cons_of_mem _ h')) (lo_step hd (he e (List.mem_cons_self ..)).1 (he e (List.mem_cons_self ..)).2 h)
theorem fard_is {l : List (Nat × Nat)} {n v : Nat} (hl : ∀ e ∈ l, e.1 < n ∧ e.2 < n) (hv : v < n) (x : Nat) :
    fard l n v n x = if dst (adj l) n v x = n then n + 1 else dst (adj l) n v x := by
  have hd := dst_all (A := adj l) hv
  generalize dst (adj l) n v = f at hd ⊢
  have lo : ∀ k, Lo n f (fard l n v k) := by
    intro k
    induction k with
    | zero =>
      intro y
      unfold fard upd
      split
      · rename_i e; subst e
        exact ⟨by omega, fun _ => ⟨by rw [hd.z]; omega, by rw [hd.z]; omega⟩⟩
      · exact ⟨Nat.le_refl _, fun h => absurd rfl h⟩
    | succ k ih => exact lo_rnd hd l _ (fun e he => ⟨he, (hl e he).1⟩) ih
  have hi : ∀ k y, f y ≠ n → f y ≤ k → fard l n v k y ≤ f y := by
    intro k
    induction k with
    | zero =>
      intro y hy hk
      rcases hd.p y hy with rfl | ⟨u, -, e, -⟩
      · unfold fard; rw [upd_same]; omega
      · omega
    | succ k ih =>
      intro y hy hk
      rcases hd.p y hy with rfl | ⟨u, hu, e, hun⟩
      · have h0 := ih y hy (by rw [hd.z]; omega)
        exact Nat.le_trans (frnd_le l _ y) h0
      · have h0 := ih u hun (by omega)
        have := frnd_edge l (fard l n v k) y u ((mem_adj l y u).1 hu)
        show frnd l (fard l n v k) y ≤ f y
        omega
  have l0 := lo n x
  by_cases h : f x = n
  · rw [if_pos h]
    by_cases e : fard l n v n x = n + 1
    · exact e
    · exact absurd h (l0.2 e).1
  · rw [if_neg h]
    have h1 := hd.b x h
    have h2 := hi n x h (by omega)
    have h3 := l0.2 (by omega)
    omega
end Go.Proofs.Yteofbbakegcohaa
namespace Go.Proofs.Yteofbbakegcohaa
set_option linter.unusedVariables false
set_option linter.unusedSimpArgs false

/-- The last number, downwards, that has a property. -/
def pkd (P : Nat → Bool) (n a0 : Nat) : Nat → Nat
  | 0 => a0
  | m + 1 => if P (n - 1 - m) = true then n - 1 - m else pkd P n a0 m
theorem pkd_is {P : Nat → Bool} {n a0 a : Nat} (ha : a < n) (h : P a = true) (hj : ∀ j, j < a → P j = false) : pkd P n a0 n = a := by
  have key : ∀ m, n - a ≤ m → m ≤ n → pkd P n a0 m = a := by
    intro m
    induction m with
    | zero => intro h1 h2; omega
    | succ m ih =>
      intro h1 h2
      unfold pkd
      by_cases e : n - a = m + 1
      · have : n - 1 - m = a := by omega
        rw [this, if_pos h]
      · rw [hj (n - 1 - m) (by omega), if_neg (by decide)]
        exact ih (by omega) (by omega)
  exact key n (by omega) (Nat.le_refl _)
/-- The least value of those that have a property. -/
def bsk (P : Nat → Bool) (g : Nat → Nat) (n : Nat) : Nat → Nat
  | 0 => n + 1
  | k + 1 => if P k = true ∧ g k < bsk P g n k then g k else bsk P g n k
theorem bsk_le {P : Nat → Bool} {g : Nat → Nat} {n i : Nat} (h : P i = true) : ∀ k, i < k → bsk P g n k ≤ g i
  | 0, hk => by omega
  | k + 1, hk => by
    unfold bsk
    by_cases e : i = k
    · subst e
      split
      · exact Nat.le_refl _
      · rename_i hc
        exact Nat.le_of_not_lt fun hl => hc ⟨h, hl⟩
    · have := bsk_le (g := g) (n := n) h k (by omega)
      split <;> omega
theorem bsk_top (P : Nat → Bool) (g : Nat → Nat) (n : Nat) : ∀ k, bsk P g n k ≤ n + 1
  | 0 => Nat.le_refl _
  | k + 1 => by
    have := bsk_top P g n k
    unfold bsk
    split <;> omega
theorem bsk_mem (P : Nat → Bool) (g : Nat → Nat) (n : Nat) : ∀ k, bsk P g n k = n + 1 ∨ ∃ i, i < k ∧ P i = true ∧ bsk P g n k = g i
  | 0 => .inl rfl
  | k + 1 => by
    unfold bsk
    split
    · rename_i h; exact .inr ⟨k, by omega, h.1, rfl⟩
    · rcases bsk_mem P g n k with h | ⟨i, h1, h2, h3⟩
      · exact .inl h
      · exact .inr ⟨i, by omega, h2, h3⟩
theorem mnf_first (d : Nat → Nat) : ∀ {xs : List Nat}, xs.Pairwise (· ≤ ·) → ∀ y ∈ xs, y < mnf d xs → d (mnf d xs) < d y
  | [], _, _, h, _ => by cases h
  | x :: t, hs, y, hy, hlt => by
    have key : ∀ (t pre : List Nat) (m : Nat), m ∈ pre → (∀ y ∈ pre, d m ≤ d y ∧ (y < m → d m < d y)) → (∀ a ∈ pre, ∀ b ∈ t, a ≤ b) → t.Pairwise (· ≤ ·) →
        ∀ y ∈ pre ++ t, y < t.foldl (fun m y => if d y < d m then y else m) m → d (t.foldl (fun m y => if d y < d m then y else m) m) < d y := by
      intro t
      induction t with
      | nil => intro pre m hm hp _ _ y hy hl; rw [List.append_nil] at hy; exact (hp y hy).2 hl
      | cons z t ih =>
        intro pre m hm hp hle hs y hy hl
        rw [List.foldl_cons] at hl ⊢
        have hz := hle m hm z (List.mem_cons_self ..)
        refine ih (pre ++ [z]) _ ?_ ?_ ?_ (List.pairwise_cons.1 hs).2 y (by simpa using hy) hl
        · split
          · simp
          · simp [hm]
        · intro w hw
          rcases List.mem_append.1 hw with hw | hw
          · have := hp w hw
            split
            · exact ⟨by omega, fun _ => by omega⟩
            · exact this
          · obtain rfl := List.mem_singleton.1 hw
            split
            · exact ⟨Nat.le_refl _, fun h => by omega⟩
            · exact ⟨by omega, fun h => by omega⟩
        · intro a ha b hb
          rcases List.mem_append.1 ha with ha | ha
          · exact hle a ha b (List.mem_cons_of_mem _ hb)
          · obtain rfl := List.mem_singleton.1 ha
            exact (List.pairwise_cons.1 hs).1 b hb
    refine key t [x] x (by simp) (fun y hy => ?_) (fun a ha b hb => ?_) (List.pairwise_cons.1 hs).2 y (by simpa using hy) hlt
    · obtain rfl := List.mem_singleton.1 hy
      exact ⟨Nat.le_refl _, fun h => by omega⟩
    · obtain rfl := List.mem_singleton.1 ha
      exact (List.pairwise_cons.1 hs).1 b hb
/-- The nodes of the loop, one after the other. -/
def atn (A : Nat → List Nat) (d : Nat → Nat) (v : Nat) : Nat → Nat
  | 0 => v
  | t + 1 => mnf d (A (atn A d v t))
theorem mnf_dist {A : Nat → List Nat} {n v x : Nat} {d : Nat → Nat} (hd : Dst A n v d) (hx : d x ≠ n) (hxv : x ≠ v) (hxn : x < n) : d (mnf d (A x)) + 1 = d x ∧ mnf d (A x) ∈ A x := by
  obtain ⟨u, hu, e, hun⟩ := (hd.p x hx).resolve_left hxv
  have h1 := mnf_min d hu
  have h2 := mnf_mem d (List.length_pos_of_mem hu)
  have h3 := hd.b x hx
  obtain ⟨-, h4⟩ := hd.m (mnf d (A x)) (by omega) x hxn h2
  exact ⟨by omega, h2⟩
theorem dst_zero {A : Nat → List Nat} {n v x : Nat} {d : Nat → Nat} (hd : Dst A n v d) (hn : 0 < n) (h : d x = 0) : x = v := by
  rcases hd.p x (by omega) with e | ⟨u, -, e, -⟩
  · exact e
  · omega
/-- A node is on a loop: best is the distance of the next one from it. -/
structure Onl (A : Nat → List Nat) (n v : Nat) (d : Nat → Nat) (best : Nat) : Prop where
  vn : v < n
  lt : best < n
  eb : d (mnf d (A v)) = best
  mm : mnf d (A v) ∈ A v
theorem atn_dist {A : Nat → List Nat} {n v best : Nat} {d : Nat → Nat} (hA : ∀ v, v < n → ∀ u ∈ A v, u < n) (hd : Dst A n v d) (h : Onl A n v d best) : ∀ t, t ≤ best → atn A d v (t + 1) < n ∧ d (atn A d v (t + 1)) = best - t ∧ atn A d v (t + 1) ∈ A (atn A d v t)
  | 0, _ => ⟨hA v h.vn _ h.mm, by show d (mnf d (A v)) = _; rw [h.eb]; omega, h.mm⟩
  | t + 1, ht => by
    obtain ⟨h1, h2, -⟩ := atn_dist hA hd h t (by omega)
    have hx : d (atn A d v (t + 1)) ≠ n := by have := h.lt; omega
    have hv : atn A d v (t + 1) ≠ v := fun e => by rw [e, hd.z] at h2; omega
    obtain ⟨h3, h4⟩ := mnf_dist hd hx hv h1
    have e : atn A d v (t + 1 + 1) = mnf d (A (atn A d v (t + 1))) := rfl
    rw [e]
    exact ⟨hA _ h1 _ h4, by omega, h4⟩
theorem lpw_atn {A : Nat → List Nat} {n v best : Nat} {d : Nat → Nat} (hA : ∀ v, v < n → ∀ u ∈ A v, u < n) (hd : Dst A n v d) (h : Onl A n v d best) : ∀ (j f : Nat), j ≤ best → j < f → lpw A d v f (atn A d v (best + 1 - j)) = (List.range j).map fun i => atn A d v (best + 1 - j + i)
  | 0, f + 1, _, _ => by
    have h1 := (atn_dist hA hd h best (Nat.le_refl _)).2.1
    have hn : 0 < n := by have := h.lt; omega
    have e : atn A d v (best + 1 - 0) = v := dst_zero hd hn (by rw [Nat.sub_zero, h1, Nat.sub_self])
    unfold lpw
    rw [if_pos e]; rfl
  | j + 1, f + 1, hj, hf => by
    have e0 : best + 1 - (j + 1) = (best - (j + 1)) + 1 := by omega
    have h1 := (atn_dist hA hd h (best - (j + 1)) (by omega)).2.1
    have hv : atn A d v (best + 1 - (j + 1)) ≠ v := fun e => by rw [e0] at e; rw [e, hd.z] at h1; omega
    unfold lpw
    rw [if_neg hv]
    have e1 : mnf d (A (atn A d v (best + 1 - (j + 1)))) = atn A d v (best + 1 - j) := by
      rw [show best + 1 - j = (best + 1 - (j + 1)) + 1 by omega]; rfl
    rw [e1, lpw_atn hA hd h j f (by omega) (by omega), List.range_succ_eq_map, List.map_cons, List.map_map]
    congr 1
    refine List.map_congr_left fun i _ => ?_
    simp only [Function.comp]
    congr 1; omega
theorem lpl_atn {A : Nat → List Nat} {n v best : Nat} (hA : ∀ v, v < n → ∀ u ∈ A v, u < n) (h : Onl A n v (dst A n v) best) : lpl A n v = (List.range (best + 1)).map (atn A (dst A n v) v) := by
  have hd := dst_all (A := A) h.vn
  have := lpw_atn hA hd h best n (Nat.le_refl _) h.lt
  rw [show best + 1 - best = 1 by omega] at this
  unfold lpl
  have e : mnf (dst A n v) (A v) = atn A (dst A n v) v 1 := rfl
  rw [e, this, List.range_succ_eq_map, List.map_cons, List.map_map]
  congr 1
  refine List.map_congr_left fun i _ => ?_
  simp only [Function.comp]
  congr 1; omega
/-- The distances with n + 1 for none. -/
def farv (A : Nat → List Nat) (n v x : Nat) : Nat := if dst A n v x = n then n + 1 else dst A n v x
/-- The reference's choice is the program's. -/
theorem pick_is {A : Nat → List Nat} {n v best t : Nat} (hA : ∀ v, v < n → ∀ u ∈ A v, u < n) (hs : ∀ x, (A x).Pairwise (· ≤ ·)) (h : Onl A n v (dst A n v) best) (ht : t < best) (a0 : Nat) :
    pkd (fun i => (A (atn A (dst A n v) v t)).contains i && (farv A n v i == best - t)) n a0 n = atn A (dst A n v) v (t + 1) := by
  have hd := dst_all (A := A) h.vn
  obtain ⟨h1, h2, h3⟩ := atn_dist hA hd h t (by omega)
  have e : atn A (dst A n v) v (t + 1) = mnf (dst A n v) (A (atn A (dst A n v) v t)) := rfl
  have hl := h.lt
  refine pkd_is h1 ?_ fun j hj => ?_
  · rw [Bool.and_eq_true, List.contains_iff_mem, beq_iff_eq]
    refine ⟨h3, ?_⟩
    unfold farv
    rw [if_neg (by omega), h2]
  · rw [Bool.and_eq_false_iff]
    by_cases hm : (A (atn A (dst A n v) v t)).contains j = true
    · right
      have := mnf_first (dst A n v) (hs (atn A (dst A n v) v t)) j (List.contains_iff_mem.1 hm) (by rw [← e]; exact hj)
      rw [← e, h2] at this
      rw [beq_eq_false_iff_ne]
      unfold farv
      split <;> omega
    · left
      simpa using hm
theorem best_is {A : Nat → List Nat} {n v : Nat} (hA : ∀ v, v < n → ∀ u ∈ A v, u < n) (hv : v < n) :
    (bsk (fun i => (A v).contains i) (farv A n v) n n = n + 1 ∧ ∀ u ∈ A v, ¬ Rch A u v) ∨ (Onl A n v (dst A n v) (bsk (fun i => (A v).contains i) (farv A n v) n n) ∧ ∃ u ∈ A v, Rch A u v) := by
  have hd := dst_all (A := A) hv
  have hb := (dst_bd (A := A) hv).1
  rcases bsk_mem (fun i => (A v).contains i) (farv A n v) n n with h | ⟨i, h1, h2, h3⟩
  · left
    refine ⟨h, fun u hu hr => ?_⟩
    have hf := bd_of_rch hA hr _ hb (hA v hv u hu)
    have := bsk_le (P := fun i => (A v).contains i) (g := farv A n v) (n := n) (i := u) (List.contains_iff_mem.2 hu) n (hA v hv u hu)
    rw [h] at this
    unfold farv at this
    rw [if_neg hf] at this
    have := hd.b u hf; omega
  · by_cases e : dst A n v i = n
    · left
      have h4 : bsk (fun i => (A v).contains i) (farv A n v) n n = n + 1 := by rw [h3]; unfold farv; rw [if_pos e]
      refine ⟨h4, fun u hu hr => ?_⟩
      have hf := bd_of_rch hA hr _ hb (hA v hv u hu)
      have := bsk_le (P := fun i => (A v).contains i) (g := farv A n v) (n := n) (i := u) (List.contains_iff_mem.2 hu) n (hA v hv u hu)
      rw [h4] at this
      unfold farv at this
      rw [if_neg hf] at this
      have := hd.b u hf; omega
    · right
      have hi : i ∈ A v := List.contains_iff_mem.1 h2
      have h5 : bsk (fun i => (A v).contains i) (farv A n v) n n = dst A n v i := by rw [h3]; unfold farv; rw [if_neg e]
      have hm := mnf_mem (dst A n v) (List.length_pos_of_mem hi)
      have hmi := mnf_min (dst A n v) hi
      have hlt := hd.b i e
      have h6 := bsk_le (P := fun i => (A v).contains i) (g := farv A n v) (n := n) (i := mnf (dst A n v) (A v)) (List.contains_iff_mem.2 hm) n (hA v hv _ hm)
      unfold farv at h6
      rw [if_neg (by omega)] at h6
      have h7 : dst A n v (mnf (dst A n v) (A v)) = dst A n v i := by
        have : bsk (fun i => (A v).contains i) (fun x => if dst A n v x = n then n + 1 else dst A n v x) n n = dst A n v i := h5
        omega
      exact ⟨⟨hv, by rw [h5]; exact hlt, by rw [h5]; exact h7, hm⟩, i, hi, rch_of_bd hb _ i (Nat.le_refl _) e⟩
/-- Which node the loop begins at. -/
theorem first_is {A : Nat → List Nat} {n : Nat} {ls : List (List Nat)} (hA : ∀ v, v < n → ∀ u ∈ A v, u < n) (hp : Pso n A ls) :
    (ls.find? (lpy A) = none → ∀ v, v < n → ∀ u ∈ A v, ¬ Rch A u v) ∧
    (∀ q, ls.find? (lpy A) = some q → hd q < n ∧ (∃ u ∈ A (hd q), Rch A u (hd q)) ∧ ∀ v, v < hd q → ∀ u ∈ A v, ¬ Rch A u v) := by
  obtain ⟨hc, hlt⟩ := pso_cls hA hp
  have on : ∀ v, v < n → ∀ u ∈ A v, Rch A u v → ∃ p ∈ ls, v ∈ p ∧ lpy A p = true := fun v hv u hu hr => by
    obtain ⟨p, hpl, hvp⟩ := hc.p2 v hv
    obtain ⟨h1, h2, h3, h4⟩ := hc.p1 p hpl
    have hup : u ∈ p := (h4 v hvp u).2 ⟨.edge hu, hr⟩
    refine ⟨p, hpl, hvp, ?_⟩
    unfold lpy
    by_cases hl : 1 < p.length
    · rw [decide_eq_true hl]; rfl
    · match p, h3, hl with
      | [a], _, _ =>
        obtain rfl := List.mem_singleton.1 hvp
        obtain rfl := List.mem_singleton.1 hup
        have e : hd [u] = u := rfl
        rw [e, List.contains_iff_mem.2 hu, Bool.or_true]
      | a :: b :: r, _, hl => exact absurd (by simp) hl
  refine ⟨fun hf v hv u hu hr => ?_, fun q hq => ?_⟩
  · obtain ⟨p, hpl, -, hy⟩ := on v hv u hu hr
    have := List.find?_eq_none.1 hf p hpl
    exact this hy
  · have hql := List.mem_of_find?_eq_some hq
    have hqy := List.find?_some hq
    have hqn := hlt q hql _ (hd_mem (hc.p1 q hql).2.2.1)
    refine ⟨hqn, lpy_back hc hql hqy, fun v hv u hu hr => ?_⟩
    obtain ⟨p, hpl, hvp, hy⟩ := on v (by omega) u hu hr
    obtain ⟨h1, h2, h3, -⟩ := hc.p1 p hpl
    have hdp : hd p ≤ v := by
      match p, h2, hvp with
      | a :: r, h2, hvp =>
        rcases List.mem_cons.1 hvp with rfl | hr
        · exact Nat.le_refl _
        · exact (List.pairwise_cons.1 h2).1 v hr
    obtain ⟨pr, bs, e, ha⟩ := (List.find?_eq_some_iff_append.1 hq).2
    have hpin : p = q ∨ p ∈ bs := by
      rw [e] at hpl
      rcases List.mem_append.1 hpl with k | k
      · have := ha p k; rw [hy] at this; cases this
      · exact (List.mem_cons.1 k)
    have hs := hp.2
    rw [e] at hs
    rcases hpin with rfl | hpb
    · omega
    · have := (List.pairwise_cons.1 (List.pairwise_append.1 hs).2.1).1 p hpb
      omega
end Go.Proofs.Yteofbbakegcohaa
namespace Go.Proofs.Yteofbbakegcohaa
open Go.ChangeShapes Go.WideShapes Go.ChangeAt Go.RowKit
set_option linter.unusedVariables false
set_option linter.unusedSimpArgs false

def rn (f : Nat → Nat) (x : Nat) : Int := ((f x : Nat) : Int)
theorem rn_upd1 (f : Nat → Nat) (i v : Nat) : upd (rn f) i ((v : Int) + 1) = rn (upd f i (v + 1)) := by
  funext x
  unfold rn upd
  by_cases e : x = i
  · simp [e]
  · simp [e]
theorem frnd_top {n : Nat} : ∀ (l : List (Nat × Nat)) (g : Nat → Nat), (∀ x, g x ≤ n + 1) → ∀ x, frnd l g x ≤ n + 1 := fun l g h x => Nat.le_trans (frnd_le l g x) (h x)
theorem fard_top (l : List (Nat × Nat)) (n v : Nat) : ∀ k x, fard l n v k x ≤ n + 1
  | 0, x => by
    unfold fard upd
    by_cases e : x = v
    · simp [e]
    · simp [e]
  | k + 1, x => frnd_top l _ (fard_top l n v k) x
set_option maxHeartbeats 8000000 in
set_option maxRecDepth 100000 in
theorem rfar_any (p : Option Addr) (n : Nat) (l : List (Nat × Nat)) (cap v : Nat) (w : World) (hG : Gr w p n l) (hv : v < n) :
    Calls Try.prog 59 #[.int .i64 n, .slice p l.length cap, .int .i64 v] w fun e w' => e = .returned (.slice (some ⟨w.heap.size, 0, none⟩) n n) ∧ Row w' w.heap.size n (rn (farv (adj l) n v)) ∧ Below w.heap.size w w' := by
  have hn := hG.2.2.1
  have hl := hG.2.1
  obtain ⟨i0, hi, hz0, hz1, hz2⟩ := info_parts info3
  have HF : Hid (∀ x, fard l n v n x = farv (adj l) n v x) := Lib.hid fun x => fard_is hG.2.2.2 hv x
  have HT := Lib.hid (fard_top l n v)
  have HG := Lib.hid hG
  have Wn : IntKind.i64.wrap ((n : Int) + 1) = (n : Int) + 1 := IntWalk.i64_in _ (by omega)
  clear hG
  go_enter Try.func59, Try.ntmps59
  go_wp2_with (at_make; refine wpList_make_full _ rfl _ _ 23 rfl w.heap.size 3 i0 _ 1 Try.underlying23 hi hz0 hz1 _ _ _ _ n rfl rfl rfl rfl (by rw [hz2]; omega) (by unfold maxLen; omega) (Nat.le_refl _) ?_)
  intro w1 hown hgrow
  have R1 := Lib.hid (row_zero hown)
  have X1 := Lib.hid (below_grown (Below.refl _ w) hgrow (Nat.le_refl _))
  clear hown hgrow
  go_wp2
  go_loopw [8] (fun v8 wr => ∃ k : Nat, v8 = .int .i64 k ∧ k ≤ n ∧ Hid (Row wr w.heap.size n (fun x => if x < k then ((n : Int) + 1) else 0)) ∧ Hid (Below w.heap.size w wr)) (fun x _ => n - (intOf x).toNat)
  case atStart => exact ⟨0, rfl, Nat.zero_le _, Lib.hid (R1.out.cong fun i _ => by simp), X1⟩
  case round =>
    clear R1 X1
    obtain ⟨k, rfl, hk, hR, hX⟩ := hrel
    by_cases hlt : k < n
    · have g1 : decide ((k : Int) < (n : Int)) = true := by simp [hlt]
      have W1 : IntKind.i64.wrap ((k : Int) + 1) = ((k + 1 : Nat) : Int) := by rw [IntWalk.i64_in _ (by omega)]; omega
      have q1 : (0 : Int) ≤ (k : Int) := by omega
      have q2 : (k : Int) < (n : Int) := by omega
      have d1 := hR.out.read hlt
      have o1 := Has.open_ hR.out k
      have R2 := Lib.hid ((Row.put hR.out k ((n : Int) + 1)).cong (f' := fun x => if x < k + 1 then ((n : Int) + 1) else 0) fun i _ => by
        unfold upd
        by_cases e : i = k
        · rw [if_pos e, if_pos (by omega)]
        · rw [if_neg e]
          show (if i < k then _ else _) = _
          by_cases e2 : i < k
          · rw [if_pos e2, if_pos (by omega)]
          · rw [if_neg e2, if_neg (by omega)])
      have X2 := Lib.hid (hX.out.setCell (p := ⟨w.heap.size, k, none⟩) (Nat.le_refl _) (.int .i64 ((n : Int) + 1)))
      clear hR hX
      go_wp2
      exact ⟨⟨k + 1, rfl, hlt, R2, X2⟩, by simp [intOf]; omega⟩
    · have g1 : decide ((k : Int) < (n : Int)) = false := by simp; omega
      obtain rfl : k = n := by omega
      have d1 := hR.out.read hv
      have o1 := Has.open_ hR.out v
      have q1 : (0 : Int) ≤ (v : Int) := by omega
      have q2 : (v : Int) < (k : Int) := by omega
      have R2 := Lib.hid ((Row.put hR.out v 0).cong (f' := rn (fard l k v 0)) fun i hi => by
        unfold rn fard upd
        by_cases e : i = v
        · simp [e]
        · simp [e, hi])
      have X2 := Lib.hid (hX.out.setCell (p := ⟨w.heap.size, v, none⟩) (Nat.le_refl _) (.int .i64 0))
      clear hR hX
      go_wp2
      go_loopw [9] (fun v9 wr => ∃ m : Nat, v9 = .int .i64 m ∧ m ≤ k ∧ Hid (Row wr w.heap.size k (rn (fard l k v m))) ∧ Hid (Below w.heap.size w wr)) (fun x _ => k - (intOf x).toNat)
      case atStart => exact ⟨0, rfl, Nat.zero_le _, R2, X2⟩
      case round =>
        clear R2 X2 d1 o1 q1 q2 g1
        obtain ⟨m, rfl, hm, hR, hX⟩ := hrel
        by_cases hlt1 : m < k
        · have g1 : decide ((m : Int) < (k : Int)) = true := by simp [hlt1]
          have W1 : IntKind.i64.wrap ((m : Int) + 1) = ((m + 1 : Nat) : Int) := by rw [IntWalk.i64_in _ (by omega)]; omega
          have H0 : Hid (fard l k v m = (l.take 0).foldl fst2 (fard l k v m)) := Lib.hid rfl
          rw [H0.out] at hR
          clear H0
          go_wp2
          go_loopw [10] (fun v10 wq => ∃ i : Nat, v10 = .int .i64 i ∧ i ≤ l.length ∧ Hid (Row wq w.heap.size k (rn ((l.take i).foldl fst2 (fard l k v m)))) ∧ Hid (Below w.heap.size w wq)) (fun x _ => l.length - (intOf x).toNat)
          case atStart => exact ⟨0, rfl, Nat.zero_le _, hR, hX⟩
          case round =>
            clear hR hX
            obtain ⟨i, rfl, hi2, hR, hX⟩ := hrel
            by_cases hlt2 : i < l.length
            · have g2 : decide ((i : Int) < (l.length : Int)) = true := by simp [hlt2]
              have W2 : IntKind.i64.wrap ((i : Int) + 1) = ((i + 1 : Nat) : Int) := by rw [IntWalk.i64_in _ (by omega)]; omega
              have p1 : (0 : Int) ≤ (i : Int) := by omega
              have p2 : (i : Int) < (l.length : Int) := by omega
              obtain ⟨a, rfl, c0, c1, e1, e2⟩ := (HG.out.on hX.out).at hlt2
              have HT2 := Lib.hid (show (l.take (i + 1)).foldl fst2 (fard l k v m) = fst2 ((l.take i).foldl fst2 (fard l k v m)) l[i] by rw [List.take_succ_eq_append_getElem hlt2, List.foldl_append]; rfl)
              have HB2 := Lib.hid (frnd_top (l.take i) _ (HT.out m))
              unfold frnd at HB2
              generalize (l.take i).foldl fst2 (fard l k v m) = f at *
              obtain ⟨⟨x, y⟩, hxy⟩ : ∃ z, Hid (l[i] = z) := ⟨_, Lib.hid rfl⟩
              rw [hxy.out] at c0 c1 e1 e2
              dsimp only at c0 c1 e1 e2
              have dx := hR.out.read e1
              have dy := hR.out.read e2
              unfold rn at dx dy
              have ox := Has.open_ hR.out x
              have by1 := HB2.out y
              have p3 : (0 : Int) ≤ (x : Int) := by omega
              have p4 : (x : Int) < (k : Int) := by omega
              have p5 : (0 : Int) ≤ (y : Int) := by omega
              have p6 : (y : Int) < (k : Int) := by omega
              have HU := Lib.hid (rn_upd1 f x (f y))
              have RP := Lib.hid (Row.put hR.out x (((f y : Nat) : Int) + 1))
              obtain ⟨fy, hfy⟩ : ∃ z, Hid (f y = z) := ⟨_, Lib.hid rfl⟩
              obtain ⟨fx, hfx⟩ : ∃ z, Hid (f x = z) := ⟨_, Lib.hid rfl⟩
              rw [hfy.out] at dy RP HU by1
              rw [hfx.out] at dx
              rw [HU.out] at RP
              have W3 : IntKind.i64.wrap ((fy : Int) + 1) = (fy : Int) + 1 := IntWalk.i64_in _ (by omega)
              have X3 := Lib.hid (hX.out.setCell (p := ⟨w.heap.size, x, none⟩) (Nat.le_refl _) (.int .i64 ((fy : Int) + 1)))
              by_cases hc : fy + 1 < fx
              · have t1 : decide ((fy : Int) + 1 < (fx : Int)) = true := by simp; omega
                have t2 : decide (fy + 1 < fx) = true := by simp; omega
                have HE : Hid ((l.take (i + 1)).foldl fst2 (fard l k v m) = upd f x (fy + 1)) := Lib.hid (by rw [HT2.out, hxy.out]; unfold fst2; dsimp only; rw [if_pos (by rw [hfy.out, hfx.out]; exact hc), hfy.out])
                clear hR hX hc by1
                go_wp2
                exact ⟨⟨i + 1, rfl, hlt2, by rw [HE.out]; exact RP, X3⟩, by simp [intOf]; omega⟩
              · have t1 : decide ((fy : Int) + 1 < (fx : Int)) = false := by simp; omega
                have t2 : decide (fy + 1 < fx) = false := by simp; omega
                have HE : Hid ((l.take (i + 1)).foldl fst2 (fard l k v m) = f) := Lib.hid (by rw [HT2.out, hxy.out]; unfold fst2; dsimp only; rw [if_neg (by rw [hfy.out, hfx.out]; exact hc)])
                clear RP X3 hc by1
                go_wp2
                exact ⟨⟨i + 1, rfl, hlt2, by rw [HE.out]; exact hR, hX⟩, by simp [intOf]; omega⟩
            · have g2 : decide ((i : Int) < (l.length : Int)) = false := by simp; omega
              have e : (l.take i).foldl fst2 (fard l k v m) = fard l k v (m + 1) := by rw [List.take_of_length_le (by omega)]; rfl
              rw [e] at hR
              go_wp2
              exact ⟨⟨m + 1, rfl, hlt1, hR, hX⟩, by simp [intOf]; omega⟩
        · have g1 : decide ((m : Int) < (k : Int)) = false := by simp; omega
          have e : m = k := by omega
          subst e
          have R3 := Lib.hid (hR.out.cong (f' := rn (farv (adj l) m v)) fun i _ => by unfold rn; rw [HF.out])
          clear hR
          go_wp2
          go_ret
          exact ⟨rfl, R3.out, hX.out⟩
end Go.Proofs.Yteofbbakegcohaa
namespace Go.Proofs.Yteofbbakegcohaa
open Go.ChangeShapes Go.WideShapes Go.ChangeAt Go.RowKit
set_option linter.unusedVariables false
set_option linter.unusedSimpArgs false

theorem adj_sorted (l : List (Nat × Nat)) (x : Nat) : (adj l x).Pairwise (· ≤ ·) := srt_sorted _
theorem rn_eq (f : Nat → Nat) (i b t : Nat) (z : Int) (h : z = ((b - t : Nat) : Int)) : (rn f i == z) = (f i == b - t) := by
  subst h
  unfold rn
  rw [Bool.eq_iff_iff, beq_iff_eq, beq_iff_eq]
  omega
set_option maxHeartbeats 16000000 in
set_option maxRecDepth 100000 in
theorem rloop_any (p : Option Addr) (n : Nat) (l : List (Nat × Nat)) (cap fst : Nat) (w : World) (hG : Gr w p n l) (hf : fst ≤ n)
    (hno : ∀ v, v < fst → ∀ u ∈ adj l v, ¬ Rch (adj l) u v) (hyes : fst < n → ∃ u ∈ adj l fst, Rch (adj l) u fst) :
    Calls Try.prog 36 #[.int .i64 n, .slice p l.length cap] w fun e w' => (fst = n → e = .returned (.slice none 0 0)) ∧ (fst < n → ∃ x, e = .returned x ∧ Own w.heap.size w' x (lpl (adj l) n fst)) ∧ Below w.heap.size w w' := by
  have hn := hG.2.2.1
  have hA := gr_adj hG
  obtain ⟨i0, hi, hz0, hz1, hz2⟩ := info_parts info3
  have HG := Lib.hid hG
  have HA := Lib.hid hA
  have HNO := Lib.hid hno
  have HYES := Lib.hid hyes
  have Wn : IntKind.i64.wrap ((n : Int) + 1) = (n : Int) + 1 := IntWalk.i64_in _ (by omega)
  have Wm : IntKind.i64.wrap ((n : Int) - 1) = (n : Int) - 1 := IntWalk.i64_in _ (by omega)
  clear hG hA hno hyes
  go_enter Try.func36, Try.ntmps36
  go_wp2
  go_loopw [5] (fun v5 wr => ∃ k : Nat, v5 = .int .i64 k ∧ k ≤ fst ∧ Below w.heap.size w wr) (fun v _ => n - (intOf v).toNat)
  case atStart => exact ⟨0, rfl, Nat.zero_le _, Below.refl _ _⟩
  case round =>
    obtain ⟨k, rfl, hk, hB⟩ := hrel
    by_cases hlt : k < n
    · have g1 : decide ((k : Int) < (n : Int)) = true := by simp [hlt]
      have W1 : IntKind.i64.wrap ((k : Int) + 1) = ((k + 1 : Nat) : Int) := by rw [IntWalk.i64_in _ (by omega)]; omega
      have q1 : (0 : Int) ≤ (k : Int) := by omega
      have q2 : (k : Int) < (n : Int) := by omega
      have hC := fun W (h : Below w.heap.size w W) => rfar_any p n l cap k W (HG.out.on h) hlt
      have hD := fun W (h : Below w.heap.size w W) => rnext_any p n k l cap W (HG.out.on h)
      have HB := Lib.hid (best_is (A := adj l) HA.out hlt)
      obtain ⟨fr, hfr⟩ : ∃ f, Hid (farv (adj l) n k = f) := ⟨_, Lib.hid rfl⟩
      rw [hfr.out] at HB hC
      obtain ⟨P, hP⟩ : ∃ P : Nat → Bool, Hid ((fun i => (adj l k).contains i) = P) := ⟨_, Lib.hid rfl⟩
      rw [hP.out] at HB hD
      obtain ⟨g1w, hg1w⟩ : ∃ g, Hid (wr.heap.size = g) := ⟨_, Lib.hid rfl⟩
      go_wp2_with (first
        | (go_at_call 59; (with_reducible refine (hC _ hB).mono ?_); rintro e w3 ⟨rfl, R3, b3⟩; have hB3 := belows hB b3)
        | (go_at_call 52; (with_reducible refine (hD _ hB3).mono ?_); rintro e w4 ⟨g2, rfl, hg2, R4, b4⟩))
      have HR3 := Lib.hid (Row.on R3 b4)
      have HR4 := Lib.hid R4
      have HB4 := Lib.hid (belows hB3 b4)
      rw [hg1w.out] at HR3 ⊢
      clear R3 R4 hB3 b3 b4 hC hD hB
      have HZ0 : Hid ((n : Int) + 1 = ((bsk P fr n 0 : Nat) : Int)) := Lib.hid (by unfold bsk; omega)
      go_loop [7, 9] (fun v7 v9 => ∃ (i : Nat) (z : Int), v9 = .int .i64 i ∧ v7 = .int .i64 z ∧ i ≤ n ∧ Hid (z = ((bsk P fr n i : Nat) : Int))) (fun _ v => n - (intOf v).toNat)
      case atStart => exact ⟨0, _, rfl, rfl, Nat.zero_le _, HZ0⟩
      case round =>
        clear HZ0
        obtain ⟨i, z, rfl, rfl, hi2, HZ⟩ := hrel
        by_cases hlt2 : i < n
        · have g2 : decide ((i : Int) < (n : Int)) = true := by simp [hlt2]
          have W2 : IntKind.i64.wrap ((i : Int) + 1) = ((i + 1 : Nat) : Int) := by rw [IntWalk.i64_in _ (by omega)]; omega
          have p1 : (0 : Int) ≤ (i : Int) := by omega
          have p2 : (i : Int) < (n : Int) := by omega
          have d3 := HR3.out.read hlt2
          have d4 := HR4.out.read hlt2
          have HS : Hid (bsk P fr n (i + 1) = if P i = true ∧ fr i < bsk P fr n i then fr i else bsk P fr n i) := Lib.hid rfl
          cases hc : P i
          · rw [hc] at d4
            have HZ2 : Hid (z = ((bsk P fr n (i + 1) : Nat) : Int)) := Lib.hid (by rw [HS.out, if_neg (by simp [hc])]; exact HZ.out)
            clear hc HZ HS
            go_wp2
            exact ⟨⟨i + 1, z, rfl, rfl, hlt2, HZ2⟩, by simp [intOf]; omega⟩
          · rw [hc] at d4
            by_cases hd : fr i < bsk P fr n i
            · have t1 : decide (rn fr i < z) = true := by rw [HZ.out]; unfold rn; simp; omega
              have HZ2 : Hid (rn fr i = ((bsk P fr n (i + 1) : Nat) : Int)) := Lib.hid (by rw [HS.out, if_pos ⟨hc, hd⟩]; rfl)
              clear hc HZ HS hd
              go_wp2
              exact ⟨⟨i + 1, _, rfl, rfl, hlt2, HZ2⟩, by simp [intOf]; omega⟩
            · have t1 : decide (rn fr i < z) = false := by rw [HZ.out]; unfold rn; simp; omega
              have HZ2 : Hid (z = ((bsk P fr n (i + 1) : Nat) : Int)) := Lib.hid (by rw [HS.out, if_neg (fun h => hd h.2)]; exact HZ.out)
              clear hc HZ HS hd
              go_wp2
              exact ⟨⟨i + 1, z, rfl, rfl, hlt2, HZ2⟩, by simp [intOf]; omega⟩
        · have g2 : decide ((i : Int) < (n : Int)) = false := by simp; omega
          obtain rfl : i = n := by omega
          by_cases hkf : k < fst
          · have hz : z = (i : Int) + 1 := by
              rcases HB.out with ⟨h, -⟩ | ⟨-, h⟩
              · rw [HZ.out, h]; omega
              · obtain ⟨u, hu, hr⟩ := h
                exact absurd hr (HNO.out k hkf u hu)
            subst hz
            have t2 : decide ((i : Int) + 1 > (i : Int)) = true := by simp; omega
            have t3 : decide ((i : Int) < (i : Int) + 1) = true := by simp; omega
            have hB4 := HB4.out
            clear HZ
            go_wp2
            exact ⟨⟨k + 1, rfl, by omega, hB4⟩, by simp [intOf]; omega⟩
          · obtain rfl : k = fst := by omega
            obtain ⟨b, hb⟩ : ∃ b, Hid (bsk P fr i i = b) := ⟨_, Lib.hid rfl⟩
            rw [hb.out] at HZ HB
            have HO : Hid (Onl (adj l) i k (dst (adj l) i k) b) := Lib.hid (by
              rcases HB.out with ⟨-, h⟩ | ⟨h, -⟩
              · obtain ⟨u, hu, hr⟩ := HYES.out hlt
                exact absurd hr (h u hu)
              · exact h)
            have hbn : b < i := HO.out.lt
            have hz : z = (b : Int) := HZ.out
            subst hz
            have t2 : decide ((b : Int) > (i : Int)) = false := by simp; omega
            have t3 : decide ((i : Int) < (b : Int)) = false := by simp; omega
            obtain ⟨an, han⟩ : ∃ f, Hid (atn (adj l) (dst (adj l) i k) k = f) := ⟨_, Lib.hid rfl⟩
            have HP1 : Hid (∀ t, t < b → ∀ a0, pkd (fun x => (adj l (an t)).contains x && (fr x == b - t)) i a0 i = an (t + 1)) := Lib.hid fun t ht a0 => by
              have := pick_is HA.out (adj_sorted l) HO.out ht a0
              rw [han.out, hfr.out] at this; exact this
            have HL : Hid (lpl (adj l) i k = (List.range (b + 1)).map an) := Lib.hid (by rw [← han.out]; exact lpl_atn HA.out HO.out)
            have han0 : an 0 = k := by rw [← han.out]; rfl
            have HAN : Hid (∀ t, t ≤ b → an t < i) := Lib.hid fun t ht => by
              cases t with
              | zero => rw [han0]; exact hlt
              | succ t => rw [← han.out]; exact (atn_dist HA.out (dst_all hlt) HO.out t (by omega)).1
            obtain ⟨wz, hwz⟩ : ∃ x, x = w4 := ⟨_, rfl⟩
            have O5 : Own w4.heap.size (w4.alloc (.cells #[.int .i64 (k : Int)] 3)) (.slice (some ⟨w4.heap.size, 0, none⟩) 1 1) [k] := by
              have h := World.ownsRow_lit (base := w4.heap.size) (e := 3) (size := 1) w4 #[.int .i64 (k : Int)] 1 (Nat.le_refl _) (by unfold maxLen; omega) rfl
              simpa [Own, ints] using h
            have R5 := Lib.hid (Row.on HR3.out (al1 w4 (.cells #[.int .i64 (k : Int)] 3)))
            have X5 := al1 w4 (.cells #[.int .i64 (k : Int)] 3)
            obtain ⟨B, hBB⟩ : ∃ B, Hid (w4.heap.size = B) := ⟨_, Lib.hid rfl⟩
            rw [hBB.out] at O5
            have hB4 := HB4.out
            have hwB : w.heap.size ≤ B := by rw [← hBB.out]; exact hB4.size
            have X6 := belows hB4 X5
            have S5 : B ≤ (w4.alloc (.cells #[.int .i64 (k : Int)] 3)).heap.size := by rw [← hBB.out]; simp
            have hgB : g1w < B := by rw [← hBB.out]; exact HR3.out.size_
            have HO5 : Hid (Own B (w4.alloc (.cells #[.int .i64 (k : Int)] 3)) (.slice (some ⟨B, 0, none⟩) 1 1) ((List.range (0 + 1)).map an)) := Lib.hid (by simpa [han0] using O5)
            have Z0 : Hid ((b : Int) = ((b - 0 : Nat) : Int)) := Lib.hid (by simp)
            clear O5 HZ HB HNO HYES HR4 HB4 X5 hwz han0
            go_wp2
            rw [hBB.out]
            have HK0 : Hid ((k : Int) = ((an 0 : Nat) : Int)) := Lib.hid (by rw [← han.out]; rfl)
            generalize w4.alloc (.cells #[.int .i64 (k : Int)] 3) = wa at *
            go_loopw [10, 11, 12] (fun v10 v11 v12 wq => ∃ (t : Nat) (F : Value) (a lf : Int), v12 = .int .i64 lf ∧ v11 = .int .i64 a ∧ F = v10 ∧ t ≤ b ∧ Hid (lf = ((b - t : Nat) : Int)) ∧ Hid (a = ((an t : Nat) : Int)) ∧ Hid (Own B wq F ((List.range (t + 1)).map an)) ∧ Hid (Row wq g1w i (rn fr)) ∧ Below w.heap.size w wq ∧ B ≤ wq.heap.size) (fun _ _ v _ => (intOf v).toNat)
            case atStart => exact ⟨0, _, _, _, rfl, rfl, rfl, Nat.zero_le _, Z0, HK0, HO5, R5, X6, S5⟩
            case round =>
              clear HO5 Z0 R5 X6 S5 HK0 hB4
              obtain ⟨t, F, a, lf, rfl, rfl, rfl, ht, HLF, HAT, HOW, HRW, hX, hS⟩ := hrel
              by_cases hlt3 : t < b
              · have hlf : 0 < lf := by rw [HLF.out]; omega
                have hlb : lf ≤ 60 := by rw [HLF.out]; omega
                have t5 : decide (lf > 0) = true := by simp [hlf]
                have t6 : decide ((0 : Int) < lf) = true := by simp [hlf]
                have W4 : IntKind.i64.wrap (lf - 1) = lf - 1 := IntWalk.i64_in _ (by omega)
                have hai := HAN.out t ht
                have hP := HP1.out t hlt3
                obtain ⟨y, hy⟩ : ∃ y, Hid (an t = y) := ⟨_, Lib.hid rfl⟩
                rw [hy.out] at hP hai HAT
                have hay : a = (y : Int) := HAT.out
                subst hay
                have hC := rnext_any p i y l cap wr (HG.out.on hX)
                obtain ⟨PP, hPP⟩ : ∃ f : Nat → Bool, Hid ((fun x => (adj l y).contains x) = f) := ⟨_, Lib.hid rfl⟩
                have hPd : ∀ x, (adj l y).contains x = PP x := fun x => by rw [← hPP.out]
                rw [hPP.out] at hC
                simp only [hPd] at hP
                have HPK := Lib.hid hP
                have HLE : Hid (∀ x, (rn fr x == lf) = (fr x == b - t)) := Lib.hid fun x => rn_eq fr x b t lf HLF.out
                clear hP hlf hPd
                go_wp2_with (go_at_call 52; (with_reducible refine hC.mono ?_); rintro e w6 ⟨g3, rfl, hg3, R6, b6⟩)
                have HR6 := Lib.hid R6
                have HW6 := Lib.hid (Row.on HRW.out b6)
                have HX6 := Lib.hid (And.intro (belows hX b6) (Nat.le_trans hS b6.size))
                obtain ⟨xs, hxs⟩ : ∃ xs, Hid ((List.range (t + 1)).map an = xs) := ⟨_, Lib.hid rfl⟩
                have hxl : xs.length ≤ 61 := by rw [← hxs.out]; simp; omega
                rw [hxs.out] at HOW
                have HO6 := Lib.hid (own_on HOW.out b6)
                clear R6 HRW hX hS HOW hC b6
                go_loop [11, 13] (fun v11 v13 => ∃ (j z : Nat), v13 = .int .i64 ((j : Int) - 1) ∧ v11 = .int .i64 z ∧ j ≤ i ∧ Hid (z = pkd (fun x => PP x && (fr x == b - t)) i y (i - j))) (fun _ x => ((intOf x) + 1).toNat)
                case atStart => exact ⟨i, y, rfl, rfl, Nat.le_refl _, Lib.hid (by rw [Nat.sub_self]; rfl)⟩
                case round =>
                  obtain ⟨j, z, rfl, rfl, hj, HZ⟩ := hrel
                  by_cases hlt4 : 1 ≤ j
                  · obtain ⟨j, rfl⟩ : ∃ i, j = i + 1 := ⟨j - 1, by omega⟩
                    have e0 : (((j + 1 : Nat) : Int) - 1) = (j : Int) := by omega
                    rw [e0]
                    clear e0
                    have g3 : decide ((0 : Int) ≤ (j : Int)) = true := by simp
                    have W6 : IntKind.i64.wrap ((j : Int) - 1) = (j : Int) - 1 := IntWalk.i64_in _ (by omega)
                    have hji : j < i := by omega
                    have p1 : (0 : Int) ≤ (j : Int) := by omega
                    have p2 : (j : Int) < (i : Int) := by omega
                    have cj := HW6.out.read hji
                    have cb := HR6.out.read hji
                    have HS : Hid (pkd (fun x => PP x && (fr x == b - t)) i y (i - j) = if (PP j && (fr j == b - t)) = true then j else pkd (fun x => PP x && (fr x == b - t)) i y (i - (j + 1))) := Lib.hid (by
                      rw [show i - j = (i - (j + 1)) + 1 by omega]
                      unfold pkd
                      rw [show i - 1 - (i - (j + 1)) = j by omega]
                      cases i - (j + 1) <;> rfl)
                    have hle := HLE.out j
                    have HLJ := Lib.hid hle
                    clear hle
                    cases hc : PP j
                    · rw [hc] at cb
                      have HZ2 : Hid (z = pkd (fun x => PP x && (fr x == b - t)) i y (i - j)) := Lib.hid (by rw [HS.out, hc, if_neg (by simp)]; exact HZ.out)
                      clear hc HZ HS
                      go_wp2
                      go_round
                      case rel => exact ⟨j, z, rfl, rfl, by omega, HZ2⟩
                      case measure => simp [intOf]
                    · rw [hc] at cb
                      cases he : (fr j == b - t)
                      · have t7 : (rn fr j == lf) = false := by rw [HLJ.out]; exact he
                        have HZ2 : Hid (z = pkd (fun x => PP x && (fr x == b - t)) i y (i - j)) := Lib.hid (by rw [HS.out, hc, he, if_neg (by simp)]; exact HZ.out)
                        clear hc HZ HS he
                        go_wp2
                        go_round
                        case rel => exact ⟨j, z, rfl, rfl, by omega, HZ2⟩
                        case measure => simp [intOf]
                      · have t7 : (rn fr j == lf) = true := by rw [HLJ.out]; exact he
                        have HZ2 : Hid (j = pkd (fun x => PP x && (fr x == b - t)) i y (i - j)) := Lib.hid (by rw [HS.out, hc, he]; rfl)
                        clear hc HZ HS he
                        go_wp2
                        go_round
                        case rel => exact ⟨j, j, rfl, rfl, by omega, HZ2⟩
                        case measure => simp [intOf]
                  · obtain rfl : j = 0 := by omega
                    have g3 : decide ((0 : Int) ≤ ((0 : Nat) : Int) - 1) = false := by decide
                    have g4 : decide ((1 : Int) ≤ ((0 : Nat) : Int)) = false := by decide
                    have hz : z = an (t + 1) := by rw [HZ.out, Nat.sub_zero]; exact HPK.out y
                    obtain ⟨hX6, hS6⟩ := HX6.out
                    have hO6 : w6.ownsRow B 3 1 F xs.length (ints xs) := HO6.out
                    have hzi : z < i := by rw [hz]; exact HAN.out (t + 1) (by omega)
                    have HZN := Lib.hid hz
                    clear HZ hlt4 hj hz
                    go_wp2_with (at_builtin; refine wpList_append_own_at _ rfl _ _ 23 rfl B 3 i0 _ 1 8 Try.underlying23 hi hz0 hz1 hz2 rfl (by decide) _ xs.length (ints xs) rfl (own_on hO6 (al1 _ _)) ⟨_, 0, none⟩ 1 1 [.int .i64 (z : Int)] rfl rfl (cell_one_new _ _ _) (by simp [Value.oneCell']) (by unfold maxLen; omega) (by omega) (Nat.le_trans hS6 (al1 _ _).size) ?_)
                    intro v' w7 o1 o2 o3 o4
                    have ob := al1 w6 (.cells #[.int .i64 (z : Int)] 3)
                    have far : ∀ q, F.ownBlock = some q → B ≤ q := fun q e => (World.ownsRow.lt hO6 _ e).1
                    have R7 := Lib.hid (Has.grown_ (Row.on HW6.out ob) o2 (fun e => by have := far _ e.symm; omega))
                    have O7 : Hid (Own B w7 v' ((List.range (t + 1 + 1)).map an)) := Lib.hid (by
                      unfold Own
                      rw [List.range_succ, List.map_append, hxs.out, ints_app, List.length_append]
                      have := o1
                      rw [HZN.out] at this
                      exact this)
                    have X7 : Below w.heap.size w w7 := (hX6.trans (ob.mono hX6.size)).grown o2 (by have := ob.size; have := hX6.size; omega) (fun j hj => by have := far j hj; omega)
                    have S7 : B ≤ w7.heap.size := Nat.le_trans hS6 (Nat.le_trans ob.size o2.size)
                    have HL2 : Hid (lf - 1 = ((b - (t + 1) : Nat) : Int)) := Lib.hid (by rw [HLF.out]; omega)
                    have HA2 : Hid ((z : Int) = ((an (t + 1) : Nat) : Int)) := Lib.hid (by rw [HZN.out])
                    have HMS : Hid ((lf - 1).toNat < lf.toNat) := Lib.hid (by have := HLF.out; omega)
                    clear o1 o2 o3 o4 ob far hO6 hX6 hS6
                    go_wp2
                    go_roundw
                    · exact ⟨t + 1, _, _, _, rfl, rfl, rfl, hlt3, HL2, HA2, O7, R7, X7, S7⟩
                    · exact HMS.out
              · have hlf : lf = 0 := by rw [HLF.out]; omega
                subst hlf
                have HF : Hid ((List.range (t + 1)).map an = lpl (adj l) i k) := Lib.hid (by
                  have e : t = b := by omega
                  rw [HL.out, e])
                rw [HF.out] at HOW
                have HOE := Lib.hid (Own.mono HOW.out hwB)
                clear HOW HLF
                go_wp2
                go_ret
                exact ⟨fun h => absurd h (by omega), fun _ => ⟨_, rfl, HOE.out⟩, hX⟩
    · have g1 : decide ((k : Int) < (n : Int)) = false := by simp; omega
      have hfn : fst = n := by omega
      go_wp2
      go_ret
      exact ⟨fun _ => rfl, fun h => absurd hfn (by omega), hB⟩
end Go.Proofs.Yteofbbakegcohaa
namespace Go.Proofs.Yteofbbakegcohaa
set_option linter.unusedVariables false
set_option linter.unusedSimpArgs false

/-- Two nodes reach each other. -/
def smB (A : Nat → List Nat) (n y x : Nat) : Bool := (rch A n y).contains x && (rch A n x).contains y
def dnB (A : Nat → List Nat) (n i x : Nat) : Bool := (List.range i).any fun y => smB A n y x
def psL (A : Nat → List Nat) (n i : Nat) : List (List Nat) := ((List.range i).filter fun y => !dnB A n y y).map fun y => (List.range n).filter (smB A n y)
def pkL (A : Nat → List Nat) (n i k : Nat) : List Nat := (List.range k).filter fun x => decide (i ≤ x) && smB A n i x
theorem smB_iff {A : Nat → List Nat} {n y x : Nat} (hA : ∀ v, v < n → ∀ u ∈ A v, u < n) (hy : y < n) (hx : x < n) : smB A n y x = true ↔ Sam A y x := by
  unfold smB Sam
  rw [Bool.and_eq_true, List.contains_iff_mem, List.contains_iff_mem, mem_rch hA hy, mem_rch hA hx]
theorem dnB_next (A : Nat → List Nat) (n i x : Nat) : dnB A n (i + 1) x = (dnB A n i x || smB A n i x) := by
  unfold dnB
  rw [List.range_succ, List.any_append]; simp
theorem psL_no {A : Nat → List Nat} {n i : Nat} (h : dnB A n i i = true) : psL A n (i + 1) = psL A n i := by
  unfold psL
  rw [List.range_succ, List.filter_append]; simp [h]
theorem psL_yes {A : Nat → List Nat} {n i : Nat} (h : dnB A n i i = false) : psL A n (i + 1) = psL A n i ++ [(List.range n).filter (smB A n i)] := by
  unfold psL
  rw [List.range_succ, List.filter_append]; simp [h]
theorem psL_len (A : Nat → List Nat) (n i : Nat) : (psL A n i).length ≤ i := by
  unfold psL
  rw [List.length_map]
  exact Nat.le_trans (List.length_filter_le _ _) (by simp)
theorem pkL_len (A : Nat → List Nat) (n i k : Nat) : (pkL A n i k).length ≤ k := Nat.le_trans (List.length_filter_le _ _) (by simp)
theorem pkL_start (A : Nat → List Nat) (n i : Nat) : pkL A n i i = [] := List.filter_eq_nil_iff.2 fun x hx => by
  have := List.mem_range.1 hx
  simp; omega
theorem pkL_next {A : Nat → List Nat} {n i k : Nat} (h : i ≤ k) : pkL A n i (k + 1) = pkL A n i k ++ if smB A n i k = true then [k] else [] := by
  unfold pkL
  rw [List.range_succ, List.filter_append]
  by_cases e : smB A n i k = true
  · simp [e, h]
  · simp [e]
theorem smB_sym (A : Nat → List Nat) (n y x : Nat) : smB A n y x = smB A n x y := Bool.and_comm _ _
theorem pkL_end {A : Nat → List Nat} {n i : Nat} (h : dnB A n i i = false) : pkL A n i n = (List.range n).filter (smB A n i) := by
  unfold pkL
  refine List.filter_congr fun x hx => ?_
  by_cases e : i ≤ x
  · simp [e]
  · have : smB A n i x = false := by
      rw [smB_sym]
      have k := List.any_eq_false.1 h x (List.mem_range.2 (by omega))
      simpa using k
    simp [this]
/-- The mark behind a part. -/
theorem dnB_end {A : Nat → List Nat} {n i x : Nat} (h : dnB A n i i = false) (hx : x < n) : (dnB A n i x || (decide (i ≤ x ∧ x < n) && smB A n i x)) = dnB A n (i + 1) x := by
  rw [dnB_next]
  by_cases e : i ≤ x
  · rw [decide_eq_true (And.intro e hx)]; simp
  · have : smB A n i x = false := by
      rw [smB_sym]
      have k := List.any_eq_false.1 h x (List.mem_range.2 (by omega))
      simpa using k
    simp [this]
theorem Sam.refl (A : Nat → List Nat) (x : Nat) : Sam A x x := ⟨.refl x, .refl x⟩
theorem Sam.symm {A : Nat → List Nat} {x y : Nat} (h : Sam A x y) : Sam A y x := ⟨h.2, h.1⟩
theorem Sam.trans {A : Nat → List Nat} {x y z : Nat} (h : Sam A x y) (k : Sam A y z) : Sam A x z := ⟨h.1.trans k.1, k.2.trans h.2⟩
theorem sam_lt {A : Nat → List Nat} {n x y : Nat} (hA : ∀ v, v < n → ∀ u ∈ A v, u < n) (hx : x < n) (h : Sam A x y) : y < n := h.1.closed (P := fun z => z < n) (fun z hz u hu => hA z hz u hu) hx
theorem dnB_same {A : Nat → List Nat} {n i x : Nat} (hA : ∀ v, v < n → ∀ u ∈ A v, u < n) (hi : i < n) (hx : x < n) (h : dnB A n i i = true) : dnB A n (i + 1) x = dnB A n i x := by
  rw [dnB_next]
  cases hs : smB A n i x
  · simp
  · obtain ⟨y, hy, hm⟩ := List.any_eq_true.1 h
    have hyi := List.mem_range.1 hy
    have : dnB A n i x = true := List.any_eq_true.2 ⟨y, hy, (smB_iff hA (by omega) hx).2 (((smB_iff hA (by omega) hi).1 hm).trans ((smB_iff hA hi hx).1 hs))⟩
    rw [this]; rfl
theorem psL_is {A : Nat → List Nat} {n : Nat} {ls : List (List Nat)} (hA : ∀ v, v < n → ∀ u ∈ A v, u < n) (hp : Pso n A ls) : ls = psL A n n := by
  obtain ⟨c1, k1⟩ := pso_cls hA hp
  have mem : ∀ y, y < n → ∀ x, x ∈ (List.range n).filter (smB A n y) ↔ Sam A y x := fun y hy x => by
    rw [List.mem_filter, List.mem_range]
    constructor
    · rintro ⟨h1, h2⟩; exact (smB_iff hA hy h1).1 h2
    · intro h
      have hx := sam_lt hA hy h
      exact ⟨hx, (smB_iff hA hy hx).2 h⟩
  have inp : ∀ p ∈ psL A n n, ∃ y, y < n ∧ dnB A n y y = false ∧ p = (List.range n).filter (smB A n y) := fun p hp => by
    unfold psL at hp
    obtain ⟨y, hy, e⟩ := List.mem_map.1 hp
    obtain ⟨h1, h2⟩ := List.mem_filter.1 hy
    exact ⟨y, List.mem_range.1 h1, by simpa using h2, e.symm⟩
  have hdp : ∀ y, y < n → dnB A n y y = false → hd ((List.range n).filter (smB A n y)) = y := fun y hy hn => by
    have hm : y ∈ (List.range n).filter (smB A n y) := (mem y hy y).2 (Sam.refl A y)
    have hs : ((List.range n).filter (smB A n y)).Pairwise (· < ·) := List.pairwise_lt_range.filter _
    have hne : (List.range n).filter (smB A n y) ≠ [] := List.ne_nil_of_mem hm
    have h1 := hd_mem hne
    have h2 := (mem y hy _).1 h1
    have h3 : hd ((List.range n).filter (smB A n y)) ≤ y := by
      match e : (List.range n).filter (smB A n y), hne with
      | a :: r, _ =>
        rw [e] at hm hs
        rcases List.mem_cons.1 hm with rfl | hr
        · exact Nat.le_refl _
        · exact Nat.le_of_lt ((List.pairwise_cons.1 hs).1 y hr)
    rcases Nat.lt_or_ge (hd ((List.range n).filter (smB A n y))) y with h4 | h4
    · exfalso
      have := List.any_eq_false.1 hn _ (List.mem_range.2 h4)
      exact this ((smB_iff hA (by omega) hy).2 h2.symm)
    · omega
  refine classes_uniq n (Sam A) hd (fun p hp => hd_mem hp) ls (psL A n n) c1.p1 c1.p2 c1.p3 k1 hp.2 (fun p hp => ?_) (fun x hx => ?_) ?_ (fun p hp x hx => ?_) ?_
  · obtain ⟨y, hy, hn, rfl⟩ := inp p hp
    refine ⟨List.nodup_range.filter _, (List.pairwise_lt_range.filter _).imp (fun h => Nat.le_of_lt h), List.ne_nil_of_mem ((mem y hy y).2 (Sam.refl A y)), fun x hx z => ?_⟩
    have hyx := (mem y hy x).1 hx
    rw [mem y hy z]
    exact ⟨fun h => hyx.symm.trans h, fun h => hyx.trans h⟩
  · have key : ∀ m x, x < n → x = m → ∃ y, y < n ∧ dnB A n y y = false ∧ Sam A y x := by
      intro m
      induction m using Nat.strongRecOn with
      | _ m ih =>
        intro x hx e
        subst e
        cases hd : dnB A n x x
        · exact ⟨x, hx, hd, Sam.refl A x⟩
        · obtain ⟨y, hy, hs⟩ := List.any_eq_true.1 hd
          have hyx := List.mem_range.1 hy
          obtain ⟨z, h1, h2, h3⟩ := ih y hyx y (by omega) rfl
          exact ⟨z, h1, h2, h3.trans ((smB_iff hA (by omega) hx).1 hs)⟩
    obtain ⟨y, h1, h2, h3⟩ := key x x hx rfl
    refine ⟨(List.range n).filter (smB A n y), ?_, (mem y h1 x).2 h3⟩
    unfold psL
    exact List.mem_map.2 ⟨y, List.mem_filter.2 ⟨List.mem_range.2 h1, by simp [h2]⟩, rfl⟩
  · unfold psL
    rw [List.pairwise_map]
    refine (List.pairwise_lt_range.filter _).imp_of_mem fun {a b} ha hb hab x hx hx2 => ?_
    obtain ⟨ha1, -⟩ := List.mem_filter.1 ha
    obtain ⟨hb1, hb2⟩ := List.mem_filter.1 hb
    have h1 := (mem a (List.mem_range.1 ha1) x).1 hx
    have h2 := (mem b (List.mem_range.1 hb1) x).1 hx2
    have h3 : dnB A n b b = false := by simpa using hb2
    have := List.any_eq_false.1 h3 a (List.mem_range.2 hab)
    exact this ((smB_iff hA (List.mem_range.1 ha1) (List.mem_range.1 hb1)).2 (h1.trans h2.symm))
  · obtain ⟨y, hy, -, rfl⟩ := inp p hp
    exact List.mem_range.1 (List.mem_filter.1 hx).1
  · unfold psL
    rw [List.pairwise_map]
    refine (List.pairwise_lt_range.filter _).imp_of_mem fun {a b} ha hb hab => ?_
    obtain ⟨ha1, ha2⟩ := List.mem_filter.1 ha
    obtain ⟨hb1, hb2⟩ := List.mem_filter.1 hb
    rw [hdp a (List.mem_range.1 ha1) (by simpa using ha2), hdp b (List.mem_range.1 hb1) (by simpa using hb2)]
    omega
end Go.Proofs.Yteofbbakegcohaa
namespace Go.Proofs.Yteofbbakegcohaa
open Go.ChangeShapes Go.WideShapes Go.ChangeAt Go.RowKit
set_option linter.unusedVariables false
set_option linter.unusedSimpArgs false

def Nst (B : Nat) (w : World) (v : Value) (ls : List (List Nat)) (u : Value) (xs : List Nat) : Prop := ∃ vs, Bes B w v ls u xs vs
theorem Nst.start {B : Nat} {w : World} {v : Value} {ls : List (List Nat)} (h : Nest B w v ls) : Nst B w v ls (.slice none 0 0) [] := by
  obtain ⟨vs, o, I⟩ := h
  exact ⟨vs, o, I, World.ownsRow_nil _ _ _ _, (fun _ _ _ _ _ e => by cases e), (fun _ e => by cases e)⟩
theorem Nst.on {B : Nat} {w w1 : World} {v : Value} {ls : List (List Nat)} {u : Value} {xs : List Nat} (h : Nst B w v ls u xs) (hb : Below w.heap.size w w1) : Nst B w1 v ls u xs := by
  obtain ⟨vs, h⟩ := h; exact ⟨vs, h.on hb⟩
theorem Nst.own {B : Nat} {w : World} {v : Value} {ls : List (List Nat)} {u : Value} {xs : List Nat} (h : Nst B w v ls u xs) : Own B w u xs := by
  obtain ⟨vs, h⟩ := h; exact h.m
/-- The list grows. -/
theorem Nst.add {B : Nat} {w w1 : World} {v : Value} {ls : List (List Nat)} {u u' : Value} {xs ys : List Nat} (h : Nst B w v ls u xs) (o1 : Own B w1 u' ys) (hg : w.grownBy w1 u.ownBlock) (hv : u'.ownBlock = u.ownBlock ∨ u'.ownBlock = some w.heap.size) : Nst B w1 v ls u' ys := by
  obtain ⟨vs, h⟩ := h
  have kept : ∀ (y : Value) (zs : List Nat), Own B w y zs → (∀ b, y.ownBlock = some b → u.ownBlock ≠ some b) → Own B w1 y zs := fun y zs hy k => by
    refine World.ownsRow.kept hy hg ?_
    cases e : y.ownBlock with
    | none => exact .inl rfl
    | some b => exact .inr (Ne.symm (k b e))
  refine ⟨vs, ?_, ⟨h.i.len, fun i y zs a b => kept y zs (h.i.own i y zs a b) (fun c e => h.d i y c a e), h.i.dis, h.i.out⟩, o1, fun i y b a e => ?_, fun b e => ?_⟩
  · refine World.ownsRow.kept h.o hg ?_
    cases e : v.ownBlock with
    | none => exact .inl rfl
    | some b => exact .inr fun k => h.r b k.symm e
  · rcases hv with k | k
    · rw [k]; exact h.d i y b a e
    · rw [k]
      obtain ⟨zs, -, ho⟩ := h.i.get a
      have := (World.ownsRow.lt ho _ e).2
      simp; omega
  · rcases hv with k | k
    · rw [k] at e; exact h.r b e
    · rw [k] at e
      simp only [Option.some.injEq] at e
      intro e2
      have := (h.o.lt _ e2).2
      omega
/-- The list is put to the others. -/
theorem Bes.push {B : Nat} {w w1 : World} {v v' : Value} {ls : List (List Nat)} {u : Value} {xs : List Nat} {vs : List Value} (h : Bes B w v ls u xs vs) (o1 : w1.ownsRow B 23 1 v' (ls.length + 1) (vs ++ [u])) (hg : w.grownBy w1 v.ownBlock) (hv : v'.ownBlock = v.ownBlock ∨ v'.ownBlock = some w.heap.size) : Nest B w1 v' (ls ++ [xs]) :=
  Nest.push h.o h.i h.m h.d h.r o1 hg hv

theorem Nst.at_ {B g : Nat} {w w1 : World} {v : Value} {ls : List (List Nat)} {u : Value} {xs : List Nat} (h : Nst B w v ls u xs) (hb : At g w w1) (hg : g < B) : Nst B w1 v ls u xs := by
  obtain ⟨vs, h⟩ := h
  refine ⟨vs, own_at h.o hb (fun e => by have := (h.o.lt _ e).1; omega), ⟨h.i.len, fun k y zs a b => ?_, h.i.dis, h.i.out⟩, own_at h.m hb (fun e => by have := (World.ownsRow.lt h.m _ e).1; omega), h.d, h.r⟩
  have := h.i.own k y zs a b
  exact own_at this hb (fun e => by have := (World.ownsRow.lt this _ e).1; omega)
/-- A row of rows of yes and no: the first m rows are laid. -/
structure Mx (B : Nat) (w : World) (R n m : Nat) (G : Nat → Nat) (F : Nat → Nat → Bool) : Prop where
  h : Has w R 65 ((List.range n).map fun i => if i < m then Value.slice (some ⟨G i, 0, none⟩) n n else Value.slice none 0 0).toArray
  r : ∀ i, i < m → RowB w (G i) n (F i)
  ne : ∀ i, i < m → R < G i
  inj : ∀ i j, i < m → j < m → i ≠ j → G i ≠ G j
  lo : B ≤ R
theorem Mx.on {B : Nat} {w w1 : World} {R n m : Nat} {G : Nat → Nat} {F : Nat → Nat → Bool} (h : Mx B w R n m G F) (hb : Below w.heap.size w w1) : Mx B w1 R n m G F :=
  ⟨Has.on h.h hb, fun i hi => (h.r i hi).on hb, h.ne, h.inj, h.lo⟩
theorem Mx.made {B : Nat} {w : World} {R n : Nat} (h : w.ownsRow B 65 1 (.slice (some ⟨R, 0, none⟩) n n) n (madeCells #[Value.slice none 0 0] n).toList) (hB : B ≤ R) (G : Nat → Nat) (F : Nat → Nat → Bool) : Mx B w R n 0 G F := by
  refine ⟨?_, fun i hi => by omega, fun i hi => by omega, fun i j hi => by omega, hB⟩
  have k := has_full h
  have e : (madeCells #[Value.slice none 0 0] n).toList = (List.range n).map fun i => if i < 0 then Value.slice (some ⟨G i, 0, none⟩) n n else Value.slice none 0 0 := by
    rw [toList_madeCells_one]
    apply List.ext_getElem <;> simp
  rw [e] at k; exact k
theorem Mx.read {B : Nat} {w : World} {R n m : Nat} {G : Nat → Nat} {F : Nat → Nat → Bool} (h : Mx B w R n m G F) {i : Nat} (hi : i < m) (hn : i < n) : w.cell? ⟨R, i, none⟩ = some (.slice (some ⟨G i, 0, none⟩) n n) := by
  rw [Has.read h.h]; simp [hn, hi]
/-- A row more. -/
theorem Mx.next {B : Nat} {w : World} {R n m g : Nat} {G : Nat → Nat} {F : Nat → Nat → Bool} {f : Nat → Bool} (h : Mx B w R n m G F) (hg : RowB w g n f) (hR : R < g) (hi : ∀ i, i < m → G i ≠ g) :
    Mx B (w.setCell ⟨R, m, none⟩ (.slice (some ⟨g, 0, none⟩) n n)) R n (m + 1) (upd G m g) (upd F m f) := by
  have A : At R w (w.setCell ⟨R, m, none⟩ (.slice (some ⟨g, 0, none⟩) n n)) := (At.refl R w).put m _
  refine ⟨?_, fun i hi2 => ?_, fun i hi2 => ?_, fun i j h1 h2 hij => ?_, h.lo⟩
  · have k := Has.put_ h.h m (.slice (some ⟨g, 0, none⟩) n n)
    have e : ((List.range n).map fun i => if i < m then Value.slice (some ⟨G i, 0, none⟩) n n else Value.slice none 0 0).toArray.setIfInBounds m (.slice (some ⟨g, 0, none⟩) n n) = ((List.range n).map fun i => if i < m + 1 then Value.slice (some ⟨upd G m g i, 0, none⟩) n n else Value.slice none 0 0).toArray := by
      rw [List.setIfInBounds_toArray]
      congr 1
      apply List.ext_getElem
      · simp
      · intro i h1 h2
        rw [List.getElem_set, List.getElem_map, List.getElem_map, List.getElem_range]
        unfold upd
        by_cases e : m = i
        · subst e; simp
        · rw [if_neg e]
          have e2 : ¬ i = m := fun k => e k.symm
          by_cases e3 : i < m
          · simp [e2, e3, show i < m + 1 by omega]
          · simp [e2, e3, show ¬ i < m + 1 by omega]
    rw [e] at k; exact k
  · unfold upd
    by_cases e : i = m
    · rw [if_pos e, if_pos e]; exact hg.at_ A (by omega)
    · rw [if_neg e, if_neg e]; exact (h.r i (by omega)).at_ A (by have := h.ne i (by omega); omega)
  · unfold upd
    by_cases e : i = m
    · rw [if_pos e]; exact hR
    · rw [if_neg e]; exact h.ne i (by omega)
  · unfold upd
    by_cases e : i = m
    · rw [if_pos e, if_neg (by omega)]; exact fun k => hi j (by omega) k.symm
    · rw [if_neg e]
      by_cases e2 : j = m
      · rw [if_pos e2]; exact hi i (by omega)
      · rw [if_neg e2]; exact h.inj i j (by omega) (by omega) hij
/-- A mark in one of the rows. -/
theorem Mx.put {B : Nat} {w : World} {R n m : Nat} {G : Nat → Nat} {F : Nat → Nat → Bool} (h : Mx B w R n m G F) {i : Nat} (hi : i < m) (x : Nat) (b : Bool) : Mx B (w.setCell ⟨G i, x, none⟩ (.bool b)) R n m G (upd F i (upd (F i) x b)) := by
  have A : At (G i) w (w.setCell ⟨G i, x, none⟩ (.bool b)) := (At.refl (G i) w).put x _
  refine ⟨Has.at_ h.h A (by have := h.ne i hi; omega), fun j hj => ?_, h.ne, h.inj, h.lo⟩
  by_cases e : j = i
  · subst e
    rw [upd_same]
    exact (h.r j hj).put x b
  · rw [upd_other e]
    exact (h.r j hj).at_ A (h.inj j i hj hi e)
theorem Mx.cong {B : Nat} {w : World} {R n m : Nat} {G : Nat → Nat} {F F' : Nat → Nat → Bool} (h : Mx B w R n m G F) (e : ∀ i, i < m → ∀ x, x < n → F i x = F' i x) : Mx B w R n m G F' :=
  ⟨h.h, fun i hi => (h.r i hi).cong (e i hi), h.ne, h.inj, h.lo⟩
theorem info65 : (Try.prog.info? 65).map (fun i => (i.zero, i.size, i.bytes)) = some (some (.slice none 0 0), 1, 24) := by kernel_rfl
set_option maxHeartbeats 16000000 in
set_option maxRecDepth 100000 in
theorem rparts_any (p : Option Addr) (n : Nat) (l : List (Nat × Nat)) (cap : Nat) (w : World) (hG : Gr w p n l) :
    Calls Try.prog 38 #[.int .i64 n, .slice p l.length cap] w fun e w' => ∃ v, e = .returned v ∧ Nest w.heap.size w' v (psL (adj l) n n) ∧ Below w.heap.size w w' := by
  have hn := hG.2.2.1
  have HA := Lib.hid (gr_adj hG)
  have HG := Lib.hid hG
  obtain ⟨i0, hi, hz0, hz1, hz2⟩ := info_parts info3
  obtain ⟨b0, hb, hb0, hb1, hb2⟩ := info_parts info4
  obtain ⟨j0, hj, hy0, hy1, hy2⟩ := info_parts info65
  obtain ⟨l0, hl, hl0, hl1, hl2⟩ := info_parts info23
  clear hG
  go_enter Try.func38, Try.ntmps38
  go_wp2_with (at_make; refine wpList_make_full _ rfl _ _ 82 rfl w.heap.size 65 j0 _ 1 Try.underlying82 hj hy0 hy1 _ _ _ _ n rfl rfl rfl rfl (by rw [hy2]; omega) (by unfold maxLen; omega) (Nat.le_refl _) ?_)
  intro w1 hown hgrow
  have hM := Lib.hid (Mx.made hown (Nat.le_refl _) (fun _ => 0) (fun _ _ => false))
  have X1 := Lib.hid (below_grown (Below.refl _ w) hgrow (Nat.le_refl _))
  obtain ⟨R, hRR⟩ : ∃ R, Hid (w.heap.size = R) := ⟨_, Lib.hid rfl⟩
  clear hown hgrow
  rw [hRR.out] at hM X1 ⊢
  go_wp2
  go_loopw [6] (fun v6 wr => ∃ (m : Nat) (G : Nat → Nat), v6 = .int .i64 m ∧ m ≤ n ∧ Hid (Mx R wr R n m G (fun i x => (rch (adj l) n i).contains x)) ∧ Hid (Below R w wr)) (fun x _ => n - (intOf x).toNat)
  case atStart => exact ⟨0, _, rfl, Nat.zero_le _, Lib.hid (hM.out.cong fun i hi => by omega), X1⟩
  case round =>
    clear hM X1
    obtain ⟨m, G, rfl, hm, hM, hX⟩ := hrel
    by_cases hlt : m < n
    · have g1 : decide ((m : Int) < (n : Int)) = true := by simp [hlt]
      have W1 : IntKind.i64.wrap ((m : Int) + 1) = ((m + 1 : Nat) : Int) := by rw [IntWalk.i64_in _ (by omega)]; omega
      have q1 : (0 : Int) ≤ (m : Int) := by omega
      have q2 : (m : Int) < (n : Int) := by omega
      have hRs := hM.out.h.size_
      go_upto_region 6 with (at_make; refine wpList_make_full _ rfl _ _ 65 rfl wr.heap.size 4 b0 _ 1 Try.underlying65 hb hb0 hb1 _ _ _ _ n rfl rfl rfl rfl (by rw [hb2]; omega) (by unfold maxLen; omega) (Nat.le_refl _) ?_)
      intro w2 hown hgrow
      have HZ := rowb_zero hown
      have b2 := below_grown (Below.refl wr.heap.size wr) hgrow (Nat.le_refl _)
      have HM2 := Lib.hid ((hM.out.on b2).next HZ (by omega) (fun i hi e => by have := (hM.out.r i hi).size_; omega))
      have dRc := Has.open_ (hM.out.on b2).h m
      have hRm := ((hM.out.on b2).h).size_
      obtain ⟨gm, hgm⟩ : ∃ g, Hid (wr.heap.size = g) := ⟨_, Lib.hid rfl⟩
      have hX2 : Below R w w2 := hX.out.trans (b2.mono (by omega))
      rw [hgm.out] at HM2 ⊢
      have X3 := Lib.hid (hX2.setCell (p := ⟨R, m, none⟩) (Nat.le_refl _) (.slice (some ⟨gm, 0, none⟩) n n))
      have hRg : R < gm := by rw [← hgm.out]; omega
      have dRe : (w2.cell? ⟨R, m, none⟩) = some (.slice none 0 0) := by
        rw [Has.read (hM.out.on b2).h]; simp [hlt]
      clear hown hgrow HZ b2 hX hM hX2
      go_upto_region 6 with fail
      have e3 : (w2.setCell ⟨R, m, none⟩ (.slice (some ⟨gm, 0, none⟩) n n)).heap.size = w2.heap.size := ((At.refl R w2).put m (.slice (some ⟨gm, 0, none⟩) n n)).size
      generalize (w2.setCell ⟨R, m, none⟩ (.slice (some ⟨gm, 0, none⟩) n n)) = w3 at *
      have hgm3 : gm < w3.heap.size := by
        have := (HM2.out.r m (by omega)).size_
        rw [upd_same] at this; exact this
      have hR := rreach_any p n l cap m w3 (HG.out.on (X3.out.mono (by rw [← hRR.out]; exact Nat.le_refl _))) hlt
      clear dRc dRe hRm e3
      go_upto_region 7 with (go_at_call 39; (with_reducible refine hR.mono ?_); rintro e w4 ⟨u, rfl, O4, b4⟩)
      have HM4 := Lib.hid (HM2.out.on b4)
      have hRs3 : R ≤ w3.heap.size := by omega
      have X4 := Lib.hid (X3.out.trans (b4.mono hRs3))
      have HDL := Lib.hid (rch_len (adj l) n m)
      have HDN : Hid (∀ x ∈ rch (adj l) n m, x < n) := Lib.hid fun x hx => List.mem_range.1 (List.mem_filter.1 hx).1
      obtain ⟨D, hD⟩ : ∃ D, Hid (rch (adj l) n m = D) := ⟨_, Lib.hid rfl⟩
      rw [hD.out] at O4 HDL HDN
      obtain ⟨q, c, rfl, hq⟩ := own_form O4
      have HQ := Lib.hid hq
      have HO4 := Lib.hid O4
      have hdl : D.length ≤ 60 := Nat.le_trans HDL.out hn
      obtain ⟨F, hF⟩ : ∃ F : Nat → Nat → Bool, Hid ((fun i x => (rch (adj l) n i).contains x) = F) := ⟨_, Lib.hid rfl⟩
      rw [hF.out] at HM4
      have HM5 : Hid (Mx R w4 R n (m + 1) (upd G m gm) (upd F m (fun x => (D.take 0).contains x))) := Lib.hid (HM4.out.cong fun i _ x _ => by
        unfold upd
        by_cases e : i = m
        · rw [if_pos e, if_pos e]; simp
        · rw [if_neg e, if_neg e])
      clear hR HM2 HM4 X3 O4 b4 hq
      go_wp2
      go_loopw [8] (fun v8 wq => ∃ k : Nat, v8 = .int .i64 k ∧ k ≤ D.length ∧ Hid (Mx R wq R n (m + 1) (upd G m gm) (upd F m (fun x => (D.take k).contains x))) ∧ Hid (Below R w wq) ∧ Hid (Own w3.heap.size wq (.slice q D.length c) D)) (fun x _ => D.length - (intOf x).toNat)
      case atStart => exact ⟨0, rfl, Nat.zero_le _, HM5, X4, HO4⟩
      case round =>
        clear HM5 X4 HO4
        obtain ⟨k, rfl, hk, hM, hX, hO⟩ := hrel
        by_cases hlt2 : k < D.length
        · have g2 : decide ((k : Int) < (D.length : Int)) = true := by simp [hlt2]
          have W2 : IntKind.i64.wrap ((k : Int) + 1) = ((k + 1 : Nat) : Int) := by rw [IntWalk.i64_in _ (by omega)]; omega
          have p1 : (0 : Int) ≤ (k : Int) := by omega
          have p2 : (k : Int) < (D.length : Int) := by omega
          have hqq : ∃ gl, q = some ⟨gl, 0, none⟩ ∧ w3.heap.size ≤ gl := by
            rcases HQ.out with ⟨-, e⟩ | ⟨gl, e, h, -⟩
            · rw [e] at hlt2; simp at hlt2
            · exact ⟨gl, e, h⟩
          obtain ⟨gl, rfl, hgl⟩ := hqq
          have dR := hM.out.read (i := m) (by omega) hlt
          rw [upd_same] at dR
          have dl := Own.cell hO.out rfl hlt2
          have hy := HDN.out _ (List.getElem_mem hlt2)
          have HT : Hid (D.take (k + 1) = D.take k ++ [D[k]]) := Lib.hid (List.take_succ_eq_append_getElem hlt2)
          obtain ⟨y, hyy⟩ : ∃ y, Hid (D[k] = y) := ⟨_, Lib.hid rfl⟩
          rw [hyy.out] at dl hy HT
          have hrow := hM.out.r m (by omega)
          rw [upd_same, upd_same] at hrow
          have orow : wr.drew.frozen? ⟨gm, y, none⟩ = false := Has.open_ hrow y
          have drow : wr.drew.cell? ⟨gm, y, none⟩ = some (.bool ((D.take k).contains y)) := hrow.read hy
          have p3 : (0 : Int) ≤ (y : Int) := by omega
          have p4 : (y : Int) < (n : Int) := by omega
          have BD := Below.drew (Below.refl wr.heap.size wr)
          have MP := (hM.out.on BD).put (i := m) (by omega) y true
          rw [upd_same, upd_same] at MP
          have HMP : Hid (Mx R (wr.drew.setCell ⟨gm, y, none⟩ (.bool true)) R n (m + 1) (upd G m gm) (upd F m (fun x => (D.take (k + 1)).contains x))) := Lib.hid (MP.cong fun i _ x _ => by
            by_cases e : i = m
            · subst e
              rw [upd_same, upd_same, HT.out, contains_snoc]
            · rw [upd_other e, upd_other e, upd_other e])
          have HXP := Lib.hid ((Below.drew hX.out).setCell (p := ⟨gm, y, none⟩) (by show R ≤ gm; omega) (.bool true))
          have HOP : Hid (Own w3.heap.size (wr.drew.setCell ⟨gm, y, none⟩ (.bool true)) (.slice (some ⟨gl, 0, none⟩) D.length c) D) := Lib.hid (own_at (own_on hO.out BD) ((At.refl gm wr.drew).put y _) (fun e => by have := (World.ownsRow.lt hO.out _ e).1; omega))
          clear MP hrow hM hX hO BD
          go_upto_region 10 with fail
          refine wp_region_plan 9 [(0, true), (1, true), (2, true), (3, true), (4, true), (5, true), (6, true), (7, true), (8, true)] (fun W' => W'.cell? ⟨R, m, none⟩ = some (.slice (some ⟨gm, 0, none⟩) n n) ∧ W'.cell? ⟨gl, k, none⟩ = some (.int .i64 y)) (by kernel_rfl) (by kernel_rfl) (fun _ _ d _ _ h => by cases d <;> exact h) ⟨dR, dl⟩ ?_
          simp only [List.filterMap_cons, List.filterMap_nil, List.getElem?_cons_zero, List.getElem?_cons_succ, Option.map_some, List.drop_succ_cons, List.drop_zero]
          skip
          iterate 9 (first | (refine wpPlan_still (v := ?_) (Or.inl ⟨by rfl, ?_⟩) ?_; rotate_left; (focus (intro W hW; (try dsimp only at hW); go_split_ands; go_simp; try with_reducible rfl)); try simp only [Act.put, List.setIfInBounds_toArray, List.set_cons_zero, List.set_cons_succ]) | (refine wpPlan_still (Or.inr ⟨by rfl, rfl⟩) ?_; try simp only [Act.put, List.setIfInBounds_toArray, List.set_cons_zero, List.set_cons_succ]))
          refine wpPlan_end ?_
          go_wp2
          go_roundw
          · exact ⟨k + 1, rfl, hlt2, HMP, HXP, HOP⟩
          · simp [intOf]; omega
        · have g2 : decide ((k : Int) < (D.length : Int)) = false := by simp; omega
          have HM6 : Hid (Mx R wr R n (m + 1) (upd G m gm) F) := Lib.hid (hM.out.cong fun i _ x _ => by
            by_cases e : i = m
            · subst e
              rw [upd_same, List.take_of_length_le (by omega), ← hF.out]
              show D.contains x = (rch (adj l) n i).contains x
              rw [hD.out]
            · rw [upd_other e])
          rw [← hF.out] at HM6
          go_wp2
          exact ⟨⟨m + 1, _, rfl, hlt, HM6, hX⟩, by simp [intOf]; omega⟩
    · have g1 : decide ((m : Int) < (n : Int)) = false := by simp; omega
      obtain rfl : m = n := by omega
      have hRs := hM.out.h.size_
      go_wp2_with (at_make; refine wpList_make_full _ rfl _ _ 65 rfl wr.heap.size 4 b0 _ 1 Try.underlying65 hb hb0 hb1 _ _ _ _ m rfl rfl rfl rfl (by rw [hb2]; omega) (by unfold maxLen; omega) (Nat.le_refl _) ?_)
      intro w2 hown hgrow
      obtain ⟨wo, rfl⟩ : ∃ W, W = wr := ⟨_, rfl⟩
      obtain ⟨D, hDD⟩ : ∃ D, Hid (wo.heap.size = D) := ⟨_, Lib.hid rfl⟩
      have HR0 := rowb_zero hown
      have b2 := below_grown (Below.refl wo.heap.size wo) hgrow (Nat.le_refl _)
      rw [hDD.out] at HR0 b2 ⊢
      have hDs := HR0.size_
      have HR1 : Hid (RowB w2 D m (dnB (adj l) m 0)) := Lib.hid (HR0.cong fun i _ => by simp [dnB])
      have HB1 := Lib.hid b2
      have HX0 : Hid (Below R w wo) := hX
      have hRD : R < D := by rw [← hDD.out]; exact hRs
      have HN1 : Hid (Nest (D + 1) w2 (.slice none 0 0) (psL (adj l) m 0)) := Lib.hid (Nest.nil _ _)
      clear hown hgrow HR0 b2 hX
      go_wp2
      go_loopw [10, 11] (fun v10 v11 wr => ∃ i : Nat, v11 = .int .i64 i ∧ i ≤ m ∧ Hid (Nest (D + 1) wr v10 (psL (adj l) m i)) ∧ Hid (RowB wr D m (dnB (adj l) m i)) ∧ Hid (Below D wo wr)) (fun _ v _ => m - (intOf v).toNat)
      case atStart => exact ⟨0, rfl, Nat.zero_le _, HN1, HR1, HB1⟩
      case round =>
        clear HN1 HR1 HB1 g1 hDs
        obtain ⟨i, rfl, hi2, hN, hR, hB⟩ := hrel
        by_cases hlt : i < m
        · have g1 : decide ((i : Int) < (m : Int)) = true := by simp [hlt]
          have W1 : IntKind.i64.wrap ((i : Int) + 1) = ((i + 1 : Nat) : Int) := by rw [IntWalk.i64_in _ (by omega)]; omega
          have q1 : (0 : Int) ≤ (i : Int) := by omega
          have q2 : (i : Int) < (m : Int) := by omega
          have dd := hR.out.read hlt
          cases hdn : dnB (adj l) m i i
          · rw [hdn] at dd
            have HDN := Lib.hid hdn
            have HLT := Lib.hid hlt
            clear hdn
            go_wp2
            go_loopw [12, 13] (fun v12 v13 wr => ∃ k : Nat, v13 = .int .i64 k ∧ i ≤ k ∧ k ≤ m ∧ Hid (Nst (D + 1) wr u10 (psL (adj l) m i) v12 (pkL (adj l) m i k)) ∧ Hid (RowB wr D m (fun x => dnB (adj l) m i x || (decide (i ≤ x ∧ x < k) && smB (adj l) m i x))) ∧ Hid (Below D wo wr)) (fun _ v _ => m - (intOf v).toNat)
            case atStart => exact ⟨i, rfl, Nat.le_refl _, hi2, Lib.hid (by rw [pkL_start]; exact Nst.start hN.out), Lib.hid (hR.out.cong fun x _ => by rw [show decide (i ≤ x ∧ x < i) = false from decide_eq_false (by omega)]; simp), hB⟩
            case round =>
              clear hN hR hB dd g1 W1
              obtain ⟨k, rfl, hik, hk, hN, hR, hB⟩ := hrel
              by_cases hlt2 : k < m
              · have g2 : decide ((k : Int) < (m : Int)) = true := by simp [hlt2]
                have W2 : IntKind.i64.wrap ((k : Int) + 1) = ((k + 1 : Nat) : Int) := by rw [IntWalk.i64_in _ (by omega)]; omega
                have p1 : (0 : Int) ≤ (k : Int) := by omega
                have p2 : (k : Int) < (m : Int) := by omega
                have MM := hM.out.on (by rw [hDD.out]; exact hB.out)
                have dR1 := MM.read hlt hlt
                have dR2 := MM.read hlt2 hlt2
                have dF1 := (MM.r i hlt).read hlt2
                have dF2 := (MM.r k hlt2).read hlt
                have hpl := pkL_len (adj l) m i k
                have e1 := pkL_next (A := adj l) (n := m) hik
                have hsm : smB (adj l) m i k = ((rch (adj l) m i).contains k && (rch (adj l) m k).contains i) := rfl
                have HSM := Lib.hid hsm
                have HE1 := Lib.hid e1
                clear hsm e1 MM
                have no : smB (adj l) m i k = false → Hid (Nst (D + 1) wr u10 (psL (adj l) m i) u12 (pkL (adj l) m i (k + 1))) ∧ Hid (RowB wr D m (fun x => dnB (adj l) m i x || (decide (i ≤ x ∧ x < k + 1) && smB (adj l) m i x))) := fun h => ⟨Lib.hid (by rw [HE1.out, h]; simpa using hN.out), Lib.hid (hR.out.cong fun x _ => by
                  by_cases e : x = k
                  · subst e; rw [h]; simp
                  · rw [show decide (i ≤ x ∧ x < k + 1) = decide (i ≤ x ∧ x < k) by rw [decide_eq_decide]; omega])⟩
                have HNO := Lib.hid no
                clear no
                cases hc1 : (rch (adj l) m i).contains k
                · rw [hc1] at dF1
                  obtain ⟨N2, R2⟩ := HNO.out (by rw [HSM.out, hc1]; rfl)
                  clear hc1 HNO hN hR
                  go_wp2
                  exact ⟨⟨k + 1, rfl, by omega, hlt2, N2, R2, hB⟩, by simp [intOf]; omega⟩
                · rw [hc1] at dF1
                  cases hc2 : (rch (adj l) m k).contains i
                  · rw [hc2] at dF2
                    obtain ⟨N2, R2⟩ := HNO.out (by rw [HSM.out, hc1, hc2]; rfl)
                    clear hc1 hc2 HNO hN hR
                    go_wp2
                    exact ⟨⟨k + 1, rfl, by omega, hlt2, N2, R2, hB⟩, by simp [intOf]; omega⟩
                  · rw [hc2] at dF2
                    have HYS : Hid (smB (adj l) m i k = true) := Lib.hid (by rw [HSM.out, hc1, hc2]; rfl)
                    clear hc1 hc2 HNO
                    obtain ⟨q, c2, rfl, hq2⟩ := own_form hN.out.own
                    have HQ2 := Lib.hid hq2
                    have hsz := hR.out.size_
                    clear hq2
                    go_wp2_with (at_builtin; refine wpList_append_own_at _ rfl _ _ 23 rfl (D + 1) 3 i0 _ 1 8 Try.underlying23 hi hz0 hz1 hz2 rfl (by decide) _ (pkL (adj l) m i k).length (ints (pkL (adj l) m i k)) rfl (own_on hN.out.own (al1 _ _)) ⟨_, 0, none⟩ 1 1 [.int .i64 (k : Int)] rfl rfl (cell_one_new _ _ _) (by simp [Value.oneCell']) (by unfold maxLen; omega) (by omega) (by simp; omega) ?_)
                    intro v' w5 o1 o2 o3 o4
                    have O2 : Own (D + 1) w5 v' (pkL (adj l) m i (k + 1)) := by
                      rw [HE1.out, if_pos HYS.out]
                      unfold Own
                      rw [ints_app, List.length_append]
                      exact o1
                    have lo : ∀ j, (Value.slice q (pkL (adj l) m i k).length c2).ownBlock = some j → D + 1 ≤ j := fun j hj => (World.ownsRow.lt hN.out.own _ hj).1
                    have B2 : Below D wo w5 := (hB.out.alloc (by omega) _).grown o2 (by simp; omega) (fun j hj => by have := lo j hj; omega)
                    have N2 := (hN.out.on (al1 _ _)).add O2 o2 (by simpa using o4)
                    have R2 := Has.grown_ (hR.out.on (al1 wr (.cells #[.int .i64 (k : Int)] 3))) o2 (fun e => by have := lo D e.symm; omega)
                    have oD := Has.open_ R2 k
                    have dD := RowB.read R2 hlt2
                    have A2 : At D w5 (w5.setCell ⟨D, k, none⟩ (.bool true)) := (At.refl D w5).put k _
                    have N3 := Lib.hid (N2.at_ A2 (by omega))
                    have B3 := Lib.hid (B2.setCell (p := ⟨D, k, none⟩) (Nat.le_refl _) (.bool true))
                    have R3 : Hid (RowB (w5.setCell ⟨D, k, none⟩ (.bool true)) D m (fun x => dnB (adj l) m i x || (decide (i ≤ x ∧ x < k + 1) && smB (adj l) m i x))) := Lib.hid ((RowB.put R2 k true).cong fun x _ => by
                      unfold upd
                      by_cases e : x = k
                      · subst e
                        rw [if_pos rfl, HYS.out, show decide (i ≤ x ∧ x < x + 1) = true from decide_eq_true (by omega)]; simp
                      · rw [if_neg e, show decide (i ≤ x ∧ x < k + 1) = decide (i ≤ x ∧ x < k) by rw [decide_eq_decide]; omega])
                    clear o1 o2 o3 o4 O2 N2 B2 R2 A2 lo hN hR hB
                    go_wp2
                    exact ⟨⟨k + 1, rfl, by omega, hlt2, N3, R3, B3⟩, by simp [intOf]; omega⟩
              · have g2 : decide ((k : Int) < (m : Int)) = false := by simp; omega
                obtain rfl : k = m := by omega
                have W1 : IntKind.i64.wrap ((i : Int) + 1) = ((i + 1 : Nat) : Int) := by rw [IntWalk.i64_in _ (by omega)]; omega
                obtain ⟨vs, hb5⟩ := hN.out
                have hgl := psL_len (adj l) k i
                have hone := oneCell_own hb5.m
                obtain ⟨q8, c8, rfl, hq8⟩ := own_form hb5.m
                have HB5 := Lib.hid hb5
                have hsz := hR.out.size_
                clear hb5 hN hq8
                go_wp2_with (at_builtin; refine wpList_append_own_at _ rfl _ _ 48 rfl (D + 1) 23 l0 _ 1 24 Try.underlying48 hl hl0 hl1 hl2 rfl (by decide) _ (psL (adj l) k i).length vs rfl ((HB5.out.on (al1 _ _)).o) ⟨_, 0, none⟩ 1 1 [.slice q8 (pkL (adj l) k i k).length c8] rfl rfl (cell_one_new _ _ _) (by intro u hu; rw [List.mem_singleton.1 hu]; exact hone) (by unfold maxLen; omega) (by omega) (by simp; omega) ?_)
                intro v' w5 o1 o2 o3 o4
                have lo : ∀ j, u10.ownBlock = some j → D + 1 ≤ j := fun j hj => (HB5.out.o.lt _ hj).1
                have B2 := Lib.hid ((hB.out.alloc (o := .cells #[.slice q8 (pkL (adj l) k i k).length c8] 23) (by omega)).grown o2 (by simp; omega) (fun j hj => by have := lo j hj; omega))
                have N2 : Hid (Nest (D + 1) w5 v' (psL (adj l) k (i + 1))) := Lib.hid (by rw [psL_yes HDN.out, ← pkL_end HDN.out]; exact (HB5.out.on (al1 _ _)).push o1 o2 (by simpa using o4))
                have R2 : Hid (RowB w5 D k (dnB (adj l) k (i + 1))) := Lib.hid (RowB.cong (Has.grown_ (hR.out.on (al1 wr (.cells #[.slice q8 (pkL (adj l) k i k).length c8] 23))) o2 (fun e => by have := lo D e.symm; omega)) fun x hx => dnB_end HDN.out hx)
                clear o1 o2 o3 o4 hR hB lo
                go_wp2
                exact ⟨⟨i + 1, rfl, HLT.out, N2, R2, B2⟩, by simp [intOf]; omega⟩
          · rw [hdn] at dd
            have N2 : Hid (Nest (D + 1) wr u10 (psL (adj l) m (i + 1))) := Lib.hid (by rw [psL_no hdn]; exact hN.out)
            have R2 : Hid (RowB wr D m (dnB (adj l) m (i + 1))) := Lib.hid (hR.out.cong fun x hx => (dnB_same HA.out hlt hx hdn).symm)
            clear hdn hN hR
            go_wp2
            exact ⟨⟨i + 1, rfl, hlt, N2, R2, hB⟩, by simp [intOf]; omega⟩
        · have g1 : decide ((i : Int) < (m : Int)) = false := by simp; omega
          obtain rfl : i = m := by omega
          have hwR : w.heap.size ≤ D + 1 := by rw [hRR.out]; omega
          have HF := Lib.hid (hN.out.mono hwR)
          have HXX : Hid (Below w.heap.size w wr) := Lib.hid (by rw [hRR.out]; exact HX0.out.trans (hB.out.mono (by omega)))
          clear hN hR hB
          go_wp2
          go_ret
          exact ⟨_, rfl, HF.out, HXX.out⟩
end Go.Proofs.Yteofbbakegcohaa
namespace Go.Proofs.Yteofbbakegcohaa
open Go.ChangeShapes Go.WideShapes Go.ChangeAt Go.RowKit
set_option linter.unusedVariables false
set_option linter.unusedSimpArgs false

set_option maxRecDepth 100000 in
theorem reach_no (p : Option Addr) (n v : Int) (l : List (Int × Int)) (cap : Nat) (w : World) (hS : Sl w p l) (h : vG n l = false) :
    Calls Try.prog 35 #[.int .i64 n, .slice p l.length cap, .int .i64 v] w fun e w' => e = .returned (.tuple #[.slice none 0 0, .int .i64 1]) ∧ Below w.heap.size w w' := by
  have hv := valid_any p l cap n w hS
  rw [h] at hv
  go_enter Try.func35, Try.ntmps35
  go_wp2_with (go_at_call 15; (with_reducible refine hv.mono ?_); rintro e w1 ⟨rfl, b1⟩)
  exact bodyPost_ret (v := .tuple #[.slice none 0 0, .int .i64 1]) (by simp [results, Try.results35, go_sem]) rfl ⟨rfl, b1⟩
set_option maxRecDepth 100000 in
theorem reach_out (p : Option Addr) (n : Nat) (v : Int) (l : List (Nat × Nat)) (cap : Nat) (w : World) (hG : Gr w p n l) (hv : wi v (n : Int) = false) :
    Calls Try.prog 35 #[.int .i64 n, .slice p l.length cap, .int .i64 v] w fun e w' => e = .returned (.tuple #[.slice none 0 0, .int .i64 2]) ∧ Below w.heap.size w w' := by
  have hW := fun W => within_any v (n : Int) W
  rw [hv] at hW
  go_enter Try.func35, Try.ntmps35
  go_wp2_with (first
    | (go_at_call 15; (with_reducible refine (valid_ok cap hG).mono ?_); rintro e w1 ⟨rfl, b1⟩)
    | (go_at_call 45; (with_reducible refine (hW _).mono ?_); rintro e w9 ⟨rfl, rfl⟩))
  exact bodyPost_ret (v := .tuple #[.slice none 0 0, .int .i64 2]) (by simp [results, Try.results35, go_sem]) rfl ⟨rfl, b1⟩
/-- The answer of both sides' Loop. -/
theorem loops_same (p : Option Addr) (n : Nat) (l : List (Nat × Nat)) (cap : Nat) (hl : ∀ x ∈ l, x.1 < n ∧ x.2 < n) : ∃ (L : List Nat) (cd : Int), ((L = [] ∧ cd = 12) ∨ (0 < L.length ∧ cd = 0)) ∧ L.length ≤ n ∧
    (∀ w, Gr w p n l → Calls Try.prog 27 #[.int .i64 n, .slice p l.length cap] w fun e w' => ∃ q c, e = .returned (.tuple #[.slice q L.length c, .int .i64 cd]) ∧ Rdl w' (.slice q L.length c) L ∧ Below w.heap.size w w') ∧
    (∀ w, Gr w p n l → Calls Try.prog 36 #[.int .i64 n, .slice p l.length cap] w fun e w' => ∃ q c, e = .returned (.slice q L.length c) ∧ Rdl w' (.slice q L.length c) L ∧ Below w.heap.size w w') := by
  have hA := adj_lt hl
  have hp : Pso n (adj l) (psL (adj l) n n) := by
    have h := pso_ex n (adj l)
    rw [psL_is hA h] at h; exact h
  obtain ⟨f1, f2⟩ := first_is hA hp
  cases hf : (psL (adj l) n n).find? (lpy (adj l)) with
  | none =>
    refine ⟨[], 12, .inl ⟨rfl, rfl⟩, Nat.zero_le _, fun w hG => ?_, fun w hG => ?_⟩
    · refine (loop_ok p n l cap w hG fun ls h q hq hy => (lh_all (gr_adj hG) ls h q hq hy).1).mono fun e w' k => ?_
      obtain ⟨ls, hp2, hb, -, h2⟩ := k
      rw [psL_is hA hp2] at h2
      exact ⟨none, 0, h2 hf, ⟨none, 0, rfl, fun j hj => by simp at hj⟩, hb⟩
    · refine (rloop_any p n l cap n w hG (Nat.le_refl _) (f1 hf) (fun h => absurd h (by omega))).mono fun e w' k => ?_
      exact ⟨none, 0, k.1 rfl, ⟨none, 0, rfl, fun j hj => by simp at hj⟩, k.2.2⟩
  | some q =>
    obtain ⟨g1, g2, g3⟩ := f2 q hf
    have hq := List.mem_of_find?_eq_some hf
    have hy := List.find?_some hf
    have LG := (lh_all hA _ hp q hq hy).2
    refine ⟨lpl (adj l) n (hd q), 0, .inr ⟨LG.ne, rfl⟩, lgd_len LG, fun w hG => ?_, fun w hG => ?_⟩
    · refine (loop_ok p n l cap w hG fun ls h q hq hy => (lh_all (gr_adj hG) ls h q hq hy).1).mono fun e w' k => ?_
      obtain ⟨ls, hp2, hb, h1, -⟩ := k
      rw [psL_is hA hp2] at h1
      obtain ⟨v, e1, o⟩ := h1 q hf
      obtain ⟨qq, c, rfl, -⟩ := own_form o
      exact ⟨qq, c, e1, Own.rd o, hb⟩
    · refine (rloop_any p n l cap (hd q) w hG (by omega) g3 (fun _ => g2)).mono fun e w' k => ?_
      obtain ⟨x, e1, o⟩ := k.2.1 g1
      obtain ⟨qq, c, rfl, -⟩ := own_form o
      exact ⟨qq, c, e1, Own.rd o, k.2.2⟩
theorem parts_both {w : World} (p : Option Addr) (n : Nat) (l : List (Nat × Nat)) (cap : Nat) (hG : Gr w p n l) :
    Calls Try.prog 28 #[.int .i64 n, .slice p l.length cap] w fun e w' => ∃ q c, e = .returned (.tuple #[.slice q (psL (adj l) n n).length c, .int .i64 0]) ∧ RdN w' (.slice q (psL (adj l) n n).length c) (psL (adj l) n n) ∧ Below w.heap.size w w' :=
  (parts_ok p n l cap w hG).mono fun e w' k => by
    obtain ⟨v, ls, e1, hN, hp, hb⟩ := k
    rw [psL_is (gr_adj hG) hp] at hN
    have hr := Nest.rdn hN
    obtain ⟨q, c, rfl, -⟩ := id hr
    exact ⟨q, c, e1, hr, hb⟩
theorem psL_lens (A : Nat → List Nat) (n : Nat) (hn : n ≤ 60) : (psL A n n).length ≤ 100000 ∧ ∀ xs ∈ psL A n n, xs.length ≤ 100000 := by
  refine ⟨by have := psL_len A n n; omega, fun xs hx => ?_⟩
  unfold psL at hx
  obtain ⟨y, -, rfl⟩ := List.mem_map.1 hx
  have := List.length_filter_le (smB A n y) (List.range n)
  simp at this; omega
set_option maxHeartbeats 8000000 in
set_option maxRecDepth 100000 in
theorem parts_nil_in (p : Option Addr) (m : Nat) (k : List (Nat × Nat)) (cap : Nat) (v : Nat) (hvm : v < m) (w : World) (hG : Gr w p m k) (hb : lrg (m : Int) k.length = false) (L : List Nat) (cd : Int) (hcd : L = [] ∧ cd = 12) (hL : L.length ≤ m)
    (h27 : ∀ w, Gr w p m k → Calls Try.prog 27 #[.int .i64 m, .slice p k.length cap] w fun e w' => ∃ q c, e = .returned (.tuple #[.slice q L.length c, .int .i64 cd]) ∧ Rdl w' (.slice q L.length c) L ∧ Below w.heap.size w w')
    (h36 : ∀ w, Gr w p m k → Calls Try.prog 36 #[.int .i64 m, .slice p k.length cap] w fun e w' => ∃ q c, e = .returned (.slice q L.length c) ∧ Rdl w' (.slice q L.length c) L ∧ Below w.heap.size w w') :
    Calls Try.prog 7 #[.int .i64 m, .slice p k.length cap, .int .i64 (v : Int)] w fun e w' => e = .returned (.bool true) ∧ Below w.heap.size w w' := by
  have hn := hG.2.2.1
  have hA := awake_any w
  have hLg := fun W => large_any p (cast2 k) cap m W (by rw [cast2_len]; have := hG.2.1; unfold maxLen; omega)
  rw [cast2_len, hb] at hLg
  have hV : ∀ W, Gr W p m k → Calls Try.prog 14 #[.int .i64 m, .slice p k.length cap] W fun e w' => e = .returned (.bool true) ∧ W = w' := fun W h => by
    have := rvalid_any p (cast2 k) cap (m : Int) W h.1
    rw [cast2_len, valid_gr h] at this
    exact this
  have HPL := Lib.hid (psL_lens (adj k) m hn)
  have h35 : ∀ W, Gr W p m k → Calls Try.prog 35 #[.int .i64 m, .slice p k.length cap, .int .i64 (v : Int)] W fun e w' => ∃ q c, e = .returned (.tuple #[.slice q (rch (adj k) m v).length c, .int .i64 0]) ∧ Rdl w' (.slice q (rch (adj k) m v).length c) (rch (adj k) m v) ∧ Below W.heap.size W w' := fun W h => (reach_ok p m k cap v W h hvm).mono fun e w' ⟨u, e1, o, b⟩ => by
    obtain ⟨q, c, rfl, -⟩ := own_form o
    exact ⟨q, c, e1, Own.rd o, b⟩
  have h39 := fun W (h : Gr W p m k) => rreach_any p m k cap v W h hvm
  have HRL : Hid ((rch (adj k) m v).length ≤ 100000) := Lib.hid (by have := rch_len (adj k) m v; omega)
  have r1 : decide ((v : Int) < 0) = false := decide_eq_false (by omega)
  have r2 : decide ((v : Int) ≥ (m : Int)) = false := decide_eq_false (by omega)
  have r3 : decide ((m : Int) ≤ (v : Int)) = false := decide_eq_false (by omega)
  have r4 : decide (m ≤ v) = false := decide_eq_false (by omega)
  obtain ⟨rfl, rfl⟩ := hcd
  simp only [List.length_nil] at h27 h36
  clear hb
  generalize rch (adj k) m v = RL at *
  go_enter Try.func7, Try.ntmps7
  go_wp2_with (first
    | (go_at_call 10; (with_reducible refine hA.mono ?_); rintro e w1 ⟨rfl, b1⟩; have G1 := hG.on b1)
    | (go_at_call 11; (with_reducible refine (hLg _).mono ?_); rintro e w9 ⟨rfl, rfl⟩)
    | (go_at_call 27; (with_reducible refine (h27 _ G1).mono ?_); rintro e w2 ⟨q2, c2, rfl, R2, b2⟩; have G2 := G1.on b2; have B2 := belows b1 b2)
    | (go_at_call 28; (with_reducible refine (parts_both p m k cap G2).mono ?_); rintro e w3 ⟨q3, c3, rfl, R3, b3⟩; have G3 := G2.on b3; have B3 := belows B2 b3; have R23 := R2.on b3)
    | (go_at_call 35; (with_reducible refine (h35 _ G3).mono ?_); rintro e w4 ⟨q4, c4, rfl, R4, b4⟩; have G4 := G3.on b4; have B4 := belows B3 b4; have R24 := R23.on b4; have R34 := R3.on b4)
    | (go_at_call 14; (with_reducible refine (hV _ G4).mono ?_); rintro e w9 ⟨rfl, rfl⟩)
    | (go_at_call 36; (with_reducible refine (h36 _ G4).mono ?_); rintro e w5 ⟨q5, c5, rfl, R5, b5⟩; have G5 := G4.on b5; have B5 := belows B4 b5; have R25 := R24.on b5; have R35 := R34.on b5; have R45 := R4.on b5)
    | (go_at_call 38; (with_reducible refine (rparts_any p m k cap _ G6).mono ?_); rintro e w7 ⟨v7, rfl, N7, b7⟩; have G7 := G6.on b7; have B7 := belows B6 b7; have R37 := R36.on b7; have R47 := R46.on b7; have R7 := Nest.rdn N7)
    | (go_at_call 37; (with_reducible refine (eqf_any _ _ _ _ R37 R7 HPL.out.1 HPL.out.2).mono ?_); rintro e w8 ⟨rfl, b8⟩; have G8 := G7.on b8; have B8 := belows B7 b8; have R48 := R47.on b8)
    | (go_at_call 39; (with_reducible refine (h39 _ G8).mono ?_); rintro e wa ⟨va, rfl, Oa, ba⟩; have Ba := belows B8 ba; have R4a := R48.on ba; have Ra := Own.rd Oa)
    | (go_at_call 17; first
      | ((with_reducible refine (eq17 _ _ ([] : List Nat) _ R25 R5 (Nat.zero_le _)).mono ?_); rintro e w6 ⟨rfl, b6⟩; have G6 := G5.on b6; have B6 := belows B5 b6; have R36 := R35.on b6; have R46 := R45.on b6)
      | ((with_reducible refine (eq17 _ _ RL _ R4a Ra HRL.out).mono ?_); rintro e wb ⟨rfl, bb⟩; have Bb := belows Ba bb)))
  go_ret
  exact ⟨by simp, Bb⟩
set_option maxHeartbeats 8000000 in
set_option maxRecDepth 100000 in
theorem parts_nil_out (p : Option Addr) (m : Nat) (k : List (Nat × Nat)) (cap : Nat) (v : Int) (hvm : wi v (m : Int) = false) (w : World) (hG : Gr w p m k) (hb : lrg (m : Int) k.length = false) (L : List Nat) (cd : Int) (hcd : L = [] ∧ cd = 12) (hL : L.length ≤ m)
    (h27 : ∀ w, Gr w p m k → Calls Try.prog 27 #[.int .i64 m, .slice p k.length cap] w fun e w' => ∃ q c, e = .returned (.tuple #[.slice q L.length c, .int .i64 cd]) ∧ Rdl w' (.slice q L.length c) L ∧ Below w.heap.size w w')
    (h36 : ∀ w, Gr w p m k → Calls Try.prog 36 #[.int .i64 m, .slice p k.length cap] w fun e w' => ∃ q c, e = .returned (.slice q L.length c) ∧ Rdl w' (.slice q L.length c) L ∧ Below w.heap.size w w') :
    Calls Try.prog 7 #[.int .i64 m, .slice p k.length cap, .int .i64 v] w fun e w' => e = .returned (.bool true) ∧ Below w.heap.size w w' := by
  have hn := hG.2.2.1
  have hA := awake_any w
  have hLg := fun W => large_any p (cast2 k) cap m W (by rw [cast2_len]; have := hG.2.1; unfold maxLen; omega)
  rw [cast2_len, hb] at hLg
  have hV : ∀ W, Gr W p m k → Calls Try.prog 14 #[.int .i64 m, .slice p k.length cap] W fun e w' => e = .returned (.bool true) ∧ W = w' := fun W h => by
    have := rvalid_any p (cast2 k) cap (m : Int) W h.1
    rw [cast2_len, valid_gr h] at this
    exact this
  have HPL := Lib.hid (psL_lens (adj k) m hn)
  have h35 := fun W (h : Gr W p m k) => reach_out p m v k cap W h hvm
  have hro : v < 0 ∨ (m : Int) ≤ v := by
    unfold wi at hvm
    simp only [Bool.and_eq_false_iff, decide_eq_false_iff_not] at hvm
    omega
  obtain ⟨rfl, rfl⟩ := hcd
  simp only [List.length_nil] at h27 h36
  clear hb
  by_cases hr0 : v < 0
  · have r1 : decide (v < 0) = true := by simp [hr0]
    clear hr0 hro
    go_enter Try.func7, Try.ntmps7
    go_wp2_with (first
      | (go_at_call 10; (with_reducible refine hA.mono ?_); rintro e w1 ⟨rfl, b1⟩; have G1 := hG.on b1)
      | (go_at_call 11; (with_reducible refine (hLg _).mono ?_); rintro e w9 ⟨rfl, rfl⟩)
      | (go_at_call 27; (with_reducible refine (h27 _ G1).mono ?_); rintro e w2 ⟨q2, c2, rfl, R2, b2⟩; have G2 := G1.on b2; have B2 := belows b1 b2)
      | (go_at_call 28; (with_reducible refine (parts_both p m k cap G2).mono ?_); rintro e w3 ⟨q3, c3, rfl, R3, b3⟩; have G3 := G2.on b3; have B3 := belows B2 b3; have R23 := R2.on b3)
      | (go_at_call 35; (with_reducible refine (h35 _ G3).mono ?_); rintro e w4 ⟨rfl, b4⟩; have G4 := G3.on b4; have B4 := belows B3 b4; have R24 := R23.on b4; have R34 := R3.on b4)
      | (go_at_call 14; (with_reducible refine (hV _ G4).mono ?_); rintro e w9 ⟨rfl, rfl⟩)
      | (go_at_call 36; (with_reducible refine (h36 _ G4).mono ?_); rintro e w5 ⟨q5, c5, rfl, R5, b5⟩; have G5 := G4.on b5; have B5 := belows B4 b5; have R25 := R24.on b5; have R35 := R34.on b5)
      | (go_at_call 38; (with_reducible refine (rparts_any p m k cap _ G6).mono ?_); rintro e w7 ⟨v7, rfl, N7, b7⟩; have G7 := G6.on b7; have B7 := belows B6 b7; have R37 := R36.on b7; have R7 := Nest.rdn N7)
      | (go_at_call 37; (with_reducible refine (eqf_any _ _ _ _ R37 R7 HPL.out.1 HPL.out.2).mono ?_); rintro e w8 ⟨rfl, b8⟩; have G8 := G7.on b8; have B8 := belows B7 b8)
      | (go_at_call 17; (with_reducible refine (eq17 _ _ ([] : List Nat) _ R25 R5 (Nat.zero_le _)).mono ?_); rintro e w6 ⟨rfl, b6⟩; have G6 := G5.on b6; have B6 := belows B5 b6; have R36 := R35.on b6))
    go_ret
    exact ⟨by simp, B8⟩
  have r1 : decide (v < 0) = false := by simp [hr0]
  have r2 : decide (v ≥ (m : Int)) = true := decide_eq_true (by omega)
  have r3 : decide ((m : Int) ≤ v) = true := decide_eq_true (by omega)
  clear hr0 hro
  go_enter Try.func7, Try.ntmps7
  go_wp2_with (first
    | (go_at_call 10; (with_reducible refine hA.mono ?_); rintro e w1 ⟨rfl, b1⟩; have G1 := hG.on b1)
    | (go_at_call 11; (with_reducible refine (hLg _).mono ?_); rintro e w9 ⟨rfl, rfl⟩)
    | (go_at_call 27; (with_reducible refine (h27 _ G1).mono ?_); rintro e w2 ⟨q2, c2, rfl, R2, b2⟩; have G2 := G1.on b2; have B2 := belows b1 b2)
    | (go_at_call 28; (with_reducible refine (parts_both p m k cap G2).mono ?_); rintro e w3 ⟨q3, c3, rfl, R3, b3⟩; have G3 := G2.on b3; have B3 := belows B2 b3; have R23 := R2.on b3)
    | (go_at_call 35; (with_reducible refine (h35 _ G3).mono ?_); rintro e w4 ⟨rfl, b4⟩; have G4 := G3.on b4; have B4 := belows B3 b4; have R24 := R23.on b4; have R34 := R3.on b4)
    | (go_at_call 14; (with_reducible refine (hV _ G4).mono ?_); rintro e w9 ⟨rfl, rfl⟩)
    | (go_at_call 36; (with_reducible refine (h36 _ G4).mono ?_); rintro e w5 ⟨q5, c5, rfl, R5, b5⟩; have G5 := G4.on b5; have B5 := belows B4 b5; have R25 := R24.on b5; have R35 := R34.on b5)
    | (go_at_call 38; (with_reducible refine (rparts_any p m k cap _ G6).mono ?_); rintro e w7 ⟨v7, rfl, N7, b7⟩; have G7 := G6.on b7; have B7 := belows B6 b7; have R37 := R36.on b7; have R7 := Nest.rdn N7)
    | (go_at_call 37; (with_reducible refine (eqf_any _ _ _ _ R37 R7 HPL.out.1 HPL.out.2).mono ?_); rintro e w8 ⟨rfl, b8⟩; have G8 := G7.on b8; have B8 := belows B7 b8)
    | (go_at_call 17; (with_reducible refine (eq17 _ _ ([] : List Nat) _ R25 R5 (Nat.zero_le _)).mono ?_); rintro e w6 ⟨rfl, b6⟩; have G6 := G5.on b6; have B6 := belows B5 b6; have R36 := R35.on b6))
  go_ret
  exact ⟨by simp, B8⟩
set_option maxHeartbeats 8000000 in
set_option maxRecDepth 100000 in
theorem parts_lp_in (p : Option Addr) (m : Nat) (k : List (Nat × Nat)) (cap : Nat) (v : Nat) (hvm : v < m) (w : World) (hG : Gr w p m k) (hb : lrg (m : Int) k.length = false) (L : List Nat) (cd : Int) (hcd : 0 < L.length ∧ cd = 0) (hL : L.length ≤ m)
    (h27 : ∀ w, Gr w p m k → Calls Try.prog 27 #[.int .i64 m, .slice p k.length cap] w fun e w' => ∃ q c, e = .returned (.tuple #[.slice q L.length c, .int .i64 cd]) ∧ Rdl w' (.slice q L.length c) L ∧ Below w.heap.size w w')
    (h36 : ∀ w, Gr w p m k → Calls Try.prog 36 #[.int .i64 m, .slice p k.length cap] w fun e w' => ∃ q c, e = .returned (.slice q L.length c) ∧ Rdl w' (.slice q L.length c) L ∧ Below w.heap.size w w') :
    Calls Try.prog 7 #[.int .i64 m, .slice p k.length cap, .int .i64 (v : Int)] w fun e w' => e = .returned (.bool true) ∧ Below w.heap.size w w' := by
  have hn := hG.2.2.1
  have hA := awake_any w
  have hLg := fun W => large_any p (cast2 k) cap m W (by rw [cast2_len]; have := hG.2.1; unfold maxLen; omega)
  rw [cast2_len, hb] at hLg
  have hV : ∀ W, Gr W p m k → Calls Try.prog 14 #[.int .i64 m, .slice p k.length cap] W fun e w' => e = .returned (.bool true) ∧ W = w' := fun W h => by
    have := rvalid_any p (cast2 k) cap (m : Int) W h.1
    rw [cast2_len, valid_gr h] at this
    exact this
  have HPL := Lib.hid (psL_lens (adj k) m hn)
  have h35 : ∀ W, Gr W p m k → Calls Try.prog 35 #[.int .i64 m, .slice p k.length cap, .int .i64 (v : Int)] W fun e w' => ∃ q c, e = .returned (.tuple #[.slice q (rch (adj k) m v).length c, .int .i64 0]) ∧ Rdl w' (.slice q (rch (adj k) m v).length c) (rch (adj k) m v) ∧ Below W.heap.size W w' := fun W h => (reach_ok p m k cap v W h hvm).mono fun e w' ⟨u, e1, o, b⟩ => by
    obtain ⟨q, c, rfl, -⟩ := own_form o
    exact ⟨q, c, e1, Own.rd o, b⟩
  have h39 := fun W (h : Gr W p m k) => rreach_any p m k cap v W h hvm
  have HRL : Hid ((rch (adj k) m v).length ≤ 100000) := Lib.hid (by have := rch_len (adj k) m v; omega)
  have r1 : decide ((v : Int) < 0) = false := decide_eq_false (by omega)
  have r2 : decide ((v : Int) ≥ (m : Int)) = false := decide_eq_false (by omega)
  have r3 : decide ((m : Int) ≤ (v : Int)) = false := decide_eq_false (by omega)
  have r4 : decide (m ≤ v) = false := decide_eq_false (by omega)
  obtain ⟨hl0, rfl⟩ := hcd
  have s1 : ((L.length : Int) == 0) = false := by simp; intro e; rw [e] at hl0; simp at hl0
  have s2 : decide ((L.length : Int) > 0) = true := decide_eq_true (by omega)
  have s3 : decide ((0 : Int) < (L.length : Int)) = true := decide_eq_true (by omega)
  have s4 : ¬ L = [] := fun e => by rw [e] at hl0; simp at hl0
  have s5 : ¬ L.length = 0 := by omega
  have s6 : decide (0 < L.length) = true := decide_eq_true (by omega)
  clear hb
  generalize rch (adj k) m v = RL at *
  go_enter Try.func7, Try.ntmps7
  go_wp2_with (first
    | (go_at_call 10; (with_reducible refine hA.mono ?_); rintro e w1 ⟨rfl, b1⟩; have G1 := hG.on b1)
    | (go_at_call 11; (with_reducible refine (hLg _).mono ?_); rintro e w9 ⟨rfl, rfl⟩)
    | (go_at_call 27; (with_reducible refine (h27 _ G1).mono ?_); rintro e w2 ⟨q2, c2, rfl, R2, b2⟩; have G2 := G1.on b2; have B2 := belows b1 b2)
    | (go_at_call 28; (with_reducible refine (parts_both p m k cap G2).mono ?_); rintro e w3 ⟨q3, c3, rfl, R3, b3⟩; have G3 := G2.on b3; have B3 := belows B2 b3; have R23 := R2.on b3)
    | (go_at_call 35; (with_reducible refine (h35 _ G3).mono ?_); rintro e w4 ⟨q4, c4, rfl, R4, b4⟩; have G4 := G3.on b4; have B4 := belows B3 b4; have R24 := R23.on b4; have R34 := R3.on b4)
    | (go_at_call 14; (with_reducible refine (hV _ G4).mono ?_); rintro e w9 ⟨rfl, rfl⟩)
    | (go_at_call 36; (with_reducible refine (h36 _ G4).mono ?_); rintro e w5 ⟨q5, c5, rfl, R5, b5⟩; have G5 := G4.on b5; have B5 := belows B4 b5; have R25 := R24.on b5; have R35 := R34.on b5; have R45 := R4.on b5)
    | (go_at_call 38; (with_reducible refine (rparts_any p m k cap _ G6).mono ?_); rintro e w7 ⟨v7, rfl, N7, b7⟩; have G7 := G6.on b7; have B7 := belows B6 b7; have R37 := R36.on b7; have R47 := R46.on b7; have R7 := Nest.rdn N7)
    | (go_at_call 37; (with_reducible refine (eqf_any _ _ _ _ R37 R7 HPL.out.1 HPL.out.2).mono ?_); rintro e w8 ⟨rfl, b8⟩; have G8 := G7.on b8; have B8 := belows B7 b8; have R48 := R47.on b8)
    | (go_at_call 39; (with_reducible refine (h39 _ G8).mono ?_); rintro e wa ⟨va, rfl, Oa, ba⟩; have Ba := belows B8 ba; have R4a := R48.on ba; have Ra := Own.rd Oa)
    | (go_at_call 17; first
      | ((with_reducible refine (eq17 _ _ L _ R25 R5 (by omega)).mono ?_); rintro e w6 ⟨rfl, b6⟩; have G6 := G5.on b6; have B6 := belows B5 b6; have R36 := R35.on b6; have R46 := R45.on b6)
      | ((with_reducible refine (eq17 _ _ RL _ R4a Ra HRL.out).mono ?_); rintro e wb ⟨rfl, bb⟩; have Bb := belows Ba bb)))
  go_ret
  exact ⟨by simp, Bb⟩
set_option maxHeartbeats 8000000 in
set_option maxRecDepth 100000 in
theorem parts_lp_out (p : Option Addr) (m : Nat) (k : List (Nat × Nat)) (cap : Nat) (v : Int) (hvm : wi v (m : Int) = false) (w : World) (hG : Gr w p m k) (hb : lrg (m : Int) k.length = false) (L : List Nat) (cd : Int) (hcd : 0 < L.length ∧ cd = 0) (hL : L.length ≤ m)
    (h27 : ∀ w, Gr w p m k → Calls Try.prog 27 #[.int .i64 m, .slice p k.length cap] w fun e w' => ∃ q c, e = .returned (.tuple #[.slice q L.length c, .int .i64 cd]) ∧ Rdl w' (.slice q L.length c) L ∧ Below w.heap.size w w')
    (h36 : ∀ w, Gr w p m k → Calls Try.prog 36 #[.int .i64 m, .slice p k.length cap] w fun e w' => ∃ q c, e = .returned (.slice q L.length c) ∧ Rdl w' (.slice q L.length c) L ∧ Below w.heap.size w w') :
    Calls Try.prog 7 #[.int .i64 m, .slice p k.length cap, .int .i64 v] w fun e w' => e = .returned (.bool true) ∧ Below w.heap.size w w' := by
  have hn := hG.2.2.1
  have hA := awake_any w
  have hLg := fun W => large_any p (cast2 k) cap m W (by rw [cast2_len]; have := hG.2.1; unfold maxLen; omega)
  rw [cast2_len, hb] at hLg
  have hV : ∀ W, Gr W p m k → Calls Try.prog 14 #[.int .i64 m, .slice p k.length cap] W fun e w' => e = .returned (.bool true) ∧ W = w' := fun W h => by
    have := rvalid_any p (cast2 k) cap (m : Int) W h.1
    rw [cast2_len, valid_gr h] at this
    exact this
  have HPL := Lib.hid (psL_lens (adj k) m hn)
  have h35 := fun W (h : Gr W p m k) => reach_out p m v k cap W h hvm
  have hro : v < 0 ∨ (m : Int) ≤ v := by
    unfold wi at hvm
    simp only [Bool.and_eq_false_iff, decide_eq_false_iff_not] at hvm
    omega
  obtain ⟨hl0, rfl⟩ := hcd
  have s1 : ((L.length : Int) == 0) = false := by simp; intro e; rw [e] at hl0; simp at hl0
  have s2 : decide ((L.length : Int) > 0) = true := decide_eq_true (by omega)
  have s3 : decide ((0 : Int) < (L.length : Int)) = true := decide_eq_true (by omega)
  have s4 : ¬ L = [] := fun e => by rw [e] at hl0; simp at hl0
  have s5 : ¬ L.length = 0 := by omega
  have s6 : decide (0 < L.length) = true := decide_eq_true (by omega)
  clear hb
  by_cases hr0 : v < 0
  · have r1 : decide (v < 0) = true := by simp [hr0]
    clear hr0 hro
    go_enter Try.func7, Try.ntmps7
    go_wp2_with (first
      | (go_at_call 10; (with_reducible refine hA.mono ?_); rintro e w1 ⟨rfl, b1⟩; have G1 := hG.on b1)
      | (go_at_call 11; (with_reducible refine (hLg _).mono ?_); rintro e w9 ⟨rfl, rfl⟩)
      | (go_at_call 27; (with_reducible refine (h27 _ G1).mono ?_); rintro e w2 ⟨q2, c2, rfl, R2, b2⟩; have G2 := G1.on b2; have B2 := belows b1 b2)
      | (go_at_call 28; (with_reducible refine (parts_both p m k cap G2).mono ?_); rintro e w3 ⟨q3, c3, rfl, R3, b3⟩; have G3 := G2.on b3; have B3 := belows B2 b3; have R23 := R2.on b3)
      | (go_at_call 35; (with_reducible refine (h35 _ G3).mono ?_); rintro e w4 ⟨rfl, b4⟩; have G4 := G3.on b4; have B4 := belows B3 b4; have R24 := R23.on b4; have R34 := R3.on b4)
      | (go_at_call 14; (with_reducible refine (hV _ G4).mono ?_); rintro e w9 ⟨rfl, rfl⟩)
      | (go_at_call 36; (with_reducible refine (h36 _ G4).mono ?_); rintro e w5 ⟨q5, c5, rfl, R5, b5⟩; have G5 := G4.on b5; have B5 := belows B4 b5; have R25 := R24.on b5; have R35 := R34.on b5)
      | (go_at_call 38; (with_reducible refine (rparts_any p m k cap _ G6).mono ?_); rintro e w7 ⟨v7, rfl, N7, b7⟩; have G7 := G6.on b7; have B7 := belows B6 b7; have R37 := R36.on b7; have R7 := Nest.rdn N7)
      | (go_at_call 37; (with_reducible refine (eqf_any _ _ _ _ R37 R7 HPL.out.1 HPL.out.2).mono ?_); rintro e w8 ⟨rfl, b8⟩; have G8 := G7.on b8; have B8 := belows B7 b8)
      | (go_at_call 17; (with_reducible refine (eq17 _ _ L _ R25 R5 (by omega)).mono ?_); rintro e w6 ⟨rfl, b6⟩; have G6 := G5.on b6; have B6 := belows B5 b6; have R36 := R35.on b6))
    go_ret
    exact ⟨by simp, B8⟩
  have r1 : decide (v < 0) = false := by simp [hr0]
  have r2 : decide (v ≥ (m : Int)) = true := decide_eq_true (by omega)
  have r3 : decide ((m : Int) ≤ v) = true := decide_eq_true (by omega)
  clear hr0 hro
  go_enter Try.func7, Try.ntmps7
  go_wp2_with (first
    | (go_at_call 10; (with_reducible refine hA.mono ?_); rintro e w1 ⟨rfl, b1⟩; have G1 := hG.on b1)
    | (go_at_call 11; (with_reducible refine (hLg _).mono ?_); rintro e w9 ⟨rfl, rfl⟩)
    | (go_at_call 27; (with_reducible refine (h27 _ G1).mono ?_); rintro e w2 ⟨q2, c2, rfl, R2, b2⟩; have G2 := G1.on b2; have B2 := belows b1 b2)
    | (go_at_call 28; (with_reducible refine (parts_both p m k cap G2).mono ?_); rintro e w3 ⟨q3, c3, rfl, R3, b3⟩; have G3 := G2.on b3; have B3 := belows B2 b3; have R23 := R2.on b3)
    | (go_at_call 35; (with_reducible refine (h35 _ G3).mono ?_); rintro e w4 ⟨rfl, b4⟩; have G4 := G3.on b4; have B4 := belows B3 b4; have R24 := R23.on b4; have R34 := R3.on b4)
    | (go_at_call 14; (with_reducible refine (hV _ G4).mono ?_); rintro e w9 ⟨rfl, rfl⟩)
    | (go_at_call 36; (with_reducible refine (h36 _ G4).mono ?_); rintro e w5 ⟨q5, c5, rfl, R5, b5⟩; have G5 := G4.on b5; have B5 := belows B4 b5; have R25 := R24.on b5; have R35 := R34.on b5)
    | (go_at_call 38; (with_reducible refine (rparts_any p m k cap _ G6).mono ?_); rintro e w7 ⟨v7, rfl, N7, b7⟩; have G7 := G6.on b7; have B7 := belows B6 b7; have R37 := R36.on b7; have R7 := Nest.rdn N7)
    | (go_at_call 37; (with_reducible refine (eqf_any _ _ _ _ R37 R7 HPL.out.1 HPL.out.2).mono ?_); rintro e w8 ⟨rfl, b8⟩; have G8 := G7.on b8; have B8 := belows B7 b8)
    | (go_at_call 17; (with_reducible refine (eq17 _ _ L _ R25 R5 (by omega)).mono ?_); rintro e w6 ⟨rfl, b6⟩; have G6 := G5.on b6; have B6 := belows B5 b6; have R36 := R35.on b6))
  go_ret
  exact ⟨by simp, B8⟩
set_option maxRecDepth 100000 in
theorem parts_walk (p : Option Addr) (l : List (Int × Int)) (cap : Nat) (n v : Int) (w : World) (hS : Sl w p l) :
    Calls Try.prog 7 #[.int .i64 n, .slice p l.length cap, .int .i64 v] w fun e w' => e = .returned (.bool true) ∧ Below w.heap.size w w' := by
  cases hb : lrg n l.length
  · cases hv : vG n l
    · have hm := hS.2.2.1
      have hA := awake_any w
      have hLg := fun W => large_any p l cap n W hm
      rw [hb] at hLg
      have h27 := fun W (h : Sl W p l) => loop_no p n l cap W h hv
      have h28 := fun W (h : Sl W p l) => parts_no p n l cap W h hv
      have h35 := fun W (h : Sl W p l) => reach_no p n v l cap W h hv
      have hV := fun W (h : Sl W p l) => rvalid_any p l cap n W h
      rw [hv] at hV
      clear hb hv
      go_enter Try.func7, Try.ntmps7
      go_wp2_with (first
        | (go_at_call 10; (with_reducible refine hA.mono ?_); rintro e w1 ⟨rfl, b1⟩; have S1 := hS.on b1)
        | (go_at_call 11; (with_reducible refine (hLg _).mono ?_); rintro e w9 ⟨rfl, rfl⟩)
        | (go_at_call 27; (with_reducible refine (h27 _ S1).mono ?_); rintro e w2 ⟨rfl, b2⟩; have S2 := S1.on b2; have B2 := belows b1 b2)
        | (go_at_call 28; (with_reducible refine (h28 _ S2).mono ?_); rintro e w3 ⟨rfl, b3⟩; have S3 := S2.on b3; have B3 := belows B2 b3)
        | (go_at_call 35; (with_reducible refine (h35 _ S3).mono ?_); rintro e w4 ⟨rfl, b4⟩; have S4 := S3.on b4; have B4 := belows B3 b4)
        | (go_at_call 14; (with_reducible refine (hV _ S4).mono ?_); rintro e w9 ⟨rfl, rfl⟩))
      go_ret
      exact ⟨by simp, B4⟩
    · obtain ⟨m, k, rfl, rfl, hk, hG⟩ := gr_of_valid hS hv
      rw [cast2_len] at hb ⊢
      obtain ⟨L, cd, hc, hL, h27, h36⟩ := loops_same p m k cap hG.2.2.2
      cases hw : wi v (m : Int)
      · rcases hc with hc | hc
        · exact parts_nil_out p m k cap v hw w hG hb L cd hc hL h27 h36
        · exact parts_lp_out p m k cap v hw w hG hb L cd hc hL h27 h36
      · have hvm : 0 ≤ v ∧ v < (m : Int) := by
          unfold wi at hw
          simp only [Bool.and_eq_true, decide_eq_true_eq] at hw
          omega
        obtain ⟨x, rfl⟩ : ∃ x : Nat, v = (x : Int) := ⟨v.toNat, by omega⟩
        rcases hc with hc | hc
        · exact parts_nil_in p m k cap x (by omega) w hG hb L cd hc hL h27 h36
        · exact parts_lp_in p m k cap x (by omega) w hG hb L cd hc hL h27 h36
  · have hm := hS.2.2.1
    have hA := awake_any w
    have hLg := fun W => large_any p l cap n W hm
    rw [hb] at hLg
    clear hb
    go_enter Try.func7, Try.ntmps7
    go_wp2_with (first
      | (go_at_call 10; (with_reducible refine hA.mono ?_); rintro e w1 ⟨rfl, b1⟩)
      | (go_at_call 11; (with_reducible refine (hLg _).mono ?_); rintro e w2 ⟨rfl, rfl⟩))
    go_ret
    exact ⟨rfl, b1⟩
end Go.Proofs.Yteofbbakegcohaa
