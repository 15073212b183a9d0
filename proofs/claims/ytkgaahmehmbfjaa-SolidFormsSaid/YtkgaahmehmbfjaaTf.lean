/- cut: the stretches along each axis. -/
import Derived.Test.YtkgaahmehmbfjaaTe
namespace Go.Proofs.Ytkgaahmehmbfjaa
open Go.ChangeShapes Go.WideShapes Go.ChangeAt Go.RowKit
set_option linter.unusedVariables false
set_option linter.unusedSimpArgs false

/-- The rows of stretches behind i axes. -/
def RowI (l h : List Bx) (B : Nat) (w : World) (i j : Nat) (v : Value) : Prop := if j < i then Own xc 115 4 B w v (strs l h j) else v = .slice none 0 0
structure StC (p q : Option Addr) (l h : List Bx) (c d : Nat) (w wr : World) (i : Nat) (v0 v1 v2 : Value) : Prop where
  sol : Has wr w.heap.size 24 #[.slice p l.length c, .slice q h.length d]
  res : Has wr (w.heap.size + 1) 110 #[.slice none 0 0, .slice none 0 0, .slice none 0 0]
  arr : Has wr (w.heap.size + 2) 110 #[v0, v1, v2]
  hb : Below w.heap.size w wr
  r0 : RowI l h (w.heap.size + 3) wr i 0 v0
  r1 : RowI l h (w.heap.size + 3) wr i 1 v1
  r2 : RowI l h (w.heap.size + 3) wr i 2 v2
theorem RowI.far {l h : List Bx} {B N A i i' j : Nat} {w w' : World} {v : Value} (r : RowI l h B w i j v) (hj : j < i) (hj' : j < i') (hN : w.heap.size = N) (hA : A < B) (f : Far N A w w') : RowI l h B w' i' j v := by
  unfold RowI at *
  rw [if_pos hj] at r
  rw [if_pos hj']
  have hlt := World.ownsRow.lt r
  obtain ⟨hl, h0 | ⟨g, cap, cur, rfl, hB, hg, r⟩⟩ := r
  · exact ⟨hl, .inl h0⟩
  · have := hlt g rfl
    exact ⟨hl, .inr ⟨g, cap, cur, rfl, hB, by rw [f g (by omega) (by omega)]; exact hg, r⟩⟩
theorem RowI.off {l h : List Bx} {B i i' j : Nat} {w w' : World} {v : Value} (r : RowI l h B w i j v) (hj : i ≤ j) (hj' : i' ≤ j) : RowI l h B w' i' j v := by
  unfold RowI at *
  rw [if_neg (by omega)] at r ⊢
  exact r
theorem RowI.zero {l h : List Bx} {B j : Nat} {w : World} : RowI l h B w 0 j (.slice none 0 0) := by unfold RowI; rw [if_neg (by omega)]
theorem RowI.own {l h : List Bx} {B i j : Nat} {w : World} {v : Value} (hj : j < i) (o : Own xc 115 4 B w v (strs l h j)) : RowI l h B w i j v := by
  unfold RowI; rw [if_pos hj]; exact o
/-- One row more. -/
structure InC (p q : Option Addr) (l h : List Bx) (c d ax : Nat) (w wr : World) (L : List Int) (G cap k : Nat) (va : Value) (cs : Array Value) (W : World) : Prop where
  le : k = 0 ∨ k < L.length
  own : Own xc 115 4 wr.heap.size W va ((strs l h ax).take k)
  pl : OwnZ wr.heap.size W (.slice (some ⟨G, 0, none⟩) L.length cap) L
  ne : va.ownBlock ≠ some G
  arr : Has W (w.heap.size + 2) 110 cs
  far : Far wr.heap.size (w.heap.size + 2) wr W
  hb : Below w.heap.size w W
  sz : wr.heap.size ≤ W.heap.size
theorem cell_grown {w w' : World} {a : Addr} {v : Value} {row : Option Nat} (h : w.cell? a = some v) (hb : w.grownBy w' row) (hg : some a.block ≠ row) : w'.cell? a = some v := by
  rw [← h]; exact World.cell?_of_block (hb.block _ (lt_of_cell h) hg)
theorem apart3 {B g : Nat} {w : World} {v u0 u1 u2 : Value} {xs : List Sx} (h : Own xc 115 4 B w v xs) (hg : ∀ k, v.ownBlock = some k → g < k) : Own xc 115 4 B (((w.setCell ⟨g, 0, none⟩ u0).setCell ⟨g, 1, none⟩ u1).setCell ⟨g, 2, none⟩ u2) v xs :=
  own_at h ((((At.refl g w).put 0 u0).put 1 u1).put 2 u2) (fun e => by have := hg _ e; omega)
set_option maxHeartbeats 8000000 in
set_option maxRecDepth 100000 in
theorem scut_any (p q : Option Addr) (l h : List Bx) (c d : Nat) (w : World) (hS : Sl w p l) (hT : Sl w q h) (hl : l.length ≤ 20) (hl1 : 1 ≤ l.length) (hh : h.length ≤ 20) :
    Calls Try.prog 79 #[sv p q l h c d] w fun e w' => ∃ v0 v1 v2, e = .returned (.agg #[v0, v1, v2]) ∧ Own xc 115 4 w.heap.size w' v0 (strs l h 0) ∧ Own xc 115 4 w.heap.size w' v1 (strs l h 1) ∧ Own xc 115 4 w.heap.size w' v2 (strs l h 2) ∧ Below w.heap.size w w' := by
  have hcut := fun ax hax W a b => cuts_any p q l h c d ax W a b hl hl1 hh hax
  obtain ⟨j0, hj, hy0, hy1, hy2⟩ := info_parts info115
  have E := (((Env.nil w).add w.heap.size 24 #[.slice p l.length c, .slice q h.length d] rfl).add (w.heap.size + 1) 110 #[.slice none 0 0, .slice none 0 0, .slice none 0 0] (by simp)).add (w.heap.size + 2) 110 #[.slice none 0 0, .slice none 0 0, .slice none 0 0] (by simp)
  have hSt : StC p q l h c d w _ 0 (.slice none 0 0) (.slice none 0 0) (.slice none 0 0) := ⟨E.2.2.2.2.2.2.2.2.1, E.2.2.2.2.2.1, E.2.2.1, E.1, RowI.zero, RowI.zero, RowI.zero⟩
  go_enter Try.func79, Try.ntmps79
  go_wp2
  go_loopw [9] (fun v9 wr => ∃ (i : Nat) (v0 v1 v2 : Value), v9 = .int .i64 (i : Int) ∧ i ≤ 3 ∧ StC p q l h c d w wr i v0 v1 v2) (fun v _ => 3 - (intOf v).toNat)
  case atStart => exact ⟨0, _, _, _, rfl, by omega, hSt⟩
  case round =>
  clear hSt E
  obtain ⟨i, v0, v1, v2, rfl, hi, hSt⟩ := hrel
  rcases (by omega : i = 0 ∨ i = 1 ∨ i = 2 ∨ i = 3) with rfl | rfl | rfl | rfl
  · obtain ⟨wa, hwa⟩ : ∃ x, x = wr := ⟨_, rfl⟩
    subst wr
    have C0 := hSt.sol.read 0
    have C1 := hSt.sol.read 1
    simp only [List.getElem?_toArray, List.getElem?_cons_zero, List.getElem?_cons_succ] at C0 C1
    have hc := hcut 0 (by omega)
    go_upto_region 6 with (go_at_call 103; refine (hc wa (hS.on hSt.hb) (hT.on hSt.hb)).mono ?_; rintro X w1 ⟨u, rfl, hU, hb1⟩)
    obtain ⟨hsol, hres, harr, hbw, hr0, hr1, hr2⟩ := hSt
    have hs2 := harr.size_
    have hnil : v0 = .slice none 0 0 := by
      have := hr0
      unfold RowI at this
      rwa [if_neg (by omega)] at this
    subst hnil
    have hL1 := places_pos l h 0 hl1
    have hL2 := places_len l h 0 hl hh
    have hLs := strs_len l h 0
    obtain ⟨L, hLe⟩ : ∃ L, L = places l h 0 := ⟨_, rfl⟩
    have hLt : ∀ k (h1 : k < L.length) (h2 : k + 1 < L.length), (strs l h 0).take (k + 1) = (strs l h 0).take k ++ [sxOf l h 0 (L[k], L[k + 1])] := by
      subst hLe
      intro k h1 h2
      exact strs_take h2
    rw [← hLe] at hL1 hL2 hLs hU
    clear hLe hc
    have hU' := hU
    obtain ⟨-, ⟨-, h2⟩ | ⟨G, cap, cur, rfl, hBg, -, hn1, hcap, -, -⟩⟩ := hU'
    · omega
    have W0 : IntKind.i64.wrap ((L.length : Int) - 1) = (L.length : Int) - 1 := IntWalk.i64_in _ (by omega)
    have K0 : InC p q l h c d 0 w wa L G cap 0 (.slice none 0 0) #[.slice none 0 0, v1, v2] w1 :=
      ⟨.inl rfl, World.ownsRow_nil _ _ _ _, hU, by simp [Value.ownBlock], harr.on hb1, Far.below hb1 (Nat.le_refl _), hbw.trans (hb1.mono hbw.size), hb1.size⟩
    have HLt := Lib.hid hLt
    clear hLt C0 C1 hU hb1
    go_upto_region 7 with fail
    go_loopw [18] (fun v18 wx => ∃ (k : Nat) (va : Value), v18 = .int .i64 (k : Int) ∧ InC p q l h c d 0 w wa L G cap k va #[va, v1, v2] wx) (fun v _ => L.length - (intOf v).toNat)
    case atStart => exact ⟨0, _, rfl, K0⟩
    case round =>
      clear K0
      obtain ⟨k, va, rfl, hI⟩ := hrel
      have hk := hI.le
      by_cases hlt : k + 1 < L.length
      · have g1 : decide ((k : Int) < (L.length : Int) - 1) = true := by simp; omega
        have h1 : k < L.length := by omega
        have z0 := hI.pl.at_ h1
        have z1 := hI.pl.at_ hlt
        have HT := Lib.hid (HLt.out k h1 hlt)
        have W1 : IntKind.i64.wrap ((k : Int) + 1) = (k : Int) + 1 := IntWalk.i64_in _ (by omega)
        have g2 : (k : Int) + 1 < (L.length : Int) := by omega
        have g3 : ((k : Int) + 1).toNat = k + 1 := by omega
        have g4 : (0 : Int) ≤ (k : Int) + 1 := by omega
        have hql : ((strs l h 0).take k).length = k := by rw [List.length_take]; omega
        have htl : ∀ W, Sl W p l → Calls Try.prog 104 #[.slice p l.length c, .int .i64 0, .int .i64 L[k], .int .i64 L[k + 1]] W fun e w' => e = .returned (.int .u32 (hmk (sds l 0) (L[k], L[k + 1]) l.length : Nat)) ∧ Below W.heap.size W w' := fun W H => taking_any p l c 0 L[k] L[k + 1] W H hl (by omega)
        have hth : ∀ W, Sl W q h → Calls Try.prog 104 #[.slice q h.length d, .int .i64 0, .int .i64 L[k], .int .i64 L[k + 1]] W fun e w' => e = .returned (.int .u32 (hmk (sds h 0) (L[k], L[k + 1]) h.length : Nat)) ∧ Below W.heap.size W w' := fun W H => taking_any q h d 0 L[k] L[k + 1] W H hh (by omega)
        have hsx : sxOf l h 0 (L[k], L[k + 1]) = ⟨L[k], L[k + 1], hmk (sds l 0) (L[k], L[k + 1]) l.length, hmk (sds h 0) (L[k], L[k + 1]) h.length⟩ := rfl
        have HX := Lib.hid hsx
        have hI0 := hI.own
        clear hsx
        have hOw := hI.own
        generalize hQ : (strs l h 0).take k = Q0 at *
        generalize hmk (sds l 0) (L[k], L[k + 1]) l.length = m1 at *
        generalize hmk (sds h 0) (L[k], L[k + 1]) h.length = m2 at *
        generalize L[k] = za at *
        generalize L[k + 1] = zb at *
        have s0 := (Far.has hsol hI.far (by omega) (by omega)).read 0
        have s1 := (Far.has hsol hI.far (by omega) (by omega)).read 1
        have s2 := hI.arr.read 0
        have s3 := hI.arr.open_ 0
        simp only [List.getElem?_toArray, List.getElem?_cons_zero, List.getElem?_cons_succ] at s0 s1 s2
        have HK : Hid (∀ W', Below wr.heap.size wr W' → W'.cell? ⟨w.heap.size, 0, none⟩ = some (.slice p l.length c) ∧ W'.cell? ⟨w.heap.size, 1, none⟩ = some (.slice q h.length d) ∧ W'.cell? ⟨w.heap.size + 2, 0, none⟩ = some va) := Lib.hid (fun W' hb => ⟨cell_later hb s0, cell_later hb s1, cell_later hb s2⟩)
        have hSr := hS.on hI.hb
        have hTr := hT.on hI.hb
        go_upto_region 9 with fail
        refine wp_region_plan 10 [(0, true), (1, true), (2, true), (3, true), (4, true), (5, true), (6, true), (7, true), (8, true), (9, true)] (fun W' => W'.cell? ⟨G, k, none⟩ = some (.int .i64 za) ∧ W'.cell? ⟨G, k + 1, none⟩ = some (.int .i64 zb)) (by kernel_rfl) (by kernel_rfl) (fun _ _ d _ _ h => by cases d <;> exact h) ⟨z0, z1⟩ ?_
        simp only [List.filterMap_cons, List.filterMap_nil, List.getElem?_cons_zero, List.getElem?_cons_succ, Option.map_some, List.drop_succ_cons, List.drop_zero]
        iterate 10 (first | (refine wpPlan_still (v := ?_) (Or.inl ⟨by rfl, ?_⟩) ?_; rotate_left; (focus (intro W hW; (try dsimp only at hW); go_split_ands; go_simp; try with_reducible rfl)); try simp only [Act.put, List.setIfInBounds_toArray, List.set_cons_zero, List.set_cons_succ]) | (refine wpPlan_still (Or.inr ⟨by rfl, rfl⟩) ?_; try simp only [Act.put, List.setIfInBounds_toArray, List.set_cons_zero, List.set_cons_succ]))
        refine wpPlan_end ?_
        go_upto_region 10 with fail
        clear z0 z1
        have hbx : Below wr.heap.size wr wr.drew.drew := below_dr (below_dr (Below.refl _ wr))
        refine wp_region_plan 21 [(0, true), (1, true), (2, true), (3, true), (4, true), (5, true), (6, true), (7, true), (8, true), (9, true), (10, true), (12, true), (13, true), (14, true), (15, true), (16, true), (11, false), (17, false), (18, true), (19, false), (20, false)] (fun W' => W'.cell? ⟨w.heap.size, 0, none⟩ = some (.slice p l.length c) ∧ W'.cell? ⟨w.heap.size, 1, none⟩ = some (.slice q h.length d) ∧ W'.cell? ⟨w.heap.size + 2, 0, none⟩ = some va) (by kernel_rfl) (by kernel_rfl) (fun _ _ d _ _ h => by cases d <;> exact h) (HK.out _ hbx) ?_
        simp only [List.filterMap_cons, List.filterMap_nil, List.getElem?_cons_zero, List.getElem?_cons_succ, Option.map_some, List.drop_succ_cons, List.drop_zero]
        iterate 16 (first | (refine wpPlan_still (v := ?_) (Or.inl ⟨by rfl, ?_⟩) ?_; rotate_left; (focus (intro W hW; (try dsimp only at hW); go_split_ands; go_simp; try with_reducible rfl)); try simp only [Act.put, List.setIfInBounds_toArray, List.set_cons_zero, List.set_cons_succ]) | (refine wpPlan_still (Or.inr ⟨by rfl, rfl⟩) ?_; try simp only [Act.put, List.setIfInBounds_toArray, List.set_cons_zero, List.set_cons_succ]))
        refine wpPlan_only (fun K hK => ?_)
        try go_simp
        (go_at_call 104; (with_reducible refine (htl _ (hSr.on hbx)).mono ?_); rintro X wq1 ⟨rfl, hb⟩)
        replace hbx := belows hbx hb
        clear hb
        refine hK.out _ _ (HK.out _ hbx) ?_
        clear hK K
        try simp only [Act.put, List.setIfInBounds_toArray, List.set_cons_zero, List.set_cons_succ]
        refine wpPlan_only (fun K hK => ?_)
        try go_simp
        (go_at_call 104; (with_reducible refine (hth _ (hTr.on hbx)).mono ?_); rintro X wq2 ⟨rfl, hb⟩)
        replace hbx := belows hbx hb
        clear hb
        refine hK.out _ _ (HK.out _ hbx) ?_
        clear hK K
        try simp only [Act.put, List.setIfInBounds_toArray, List.set_cons_zero, List.set_cons_succ]
        iterate 1 (first | (refine wpPlan_still (v := ?_) (Or.inl ⟨by rfl, ?_⟩) ?_; rotate_left; (focus (intro W hW; (try dsimp only at hW); go_split_ands; go_simp; try with_reducible rfl)); try simp only [Act.put, List.setIfInBounds_toArray, List.set_cons_zero, List.set_cons_succ]) | (refine wpPlan_still (Or.inr ⟨by rfl, rfl⟩) ?_; try simp only [Act.put, List.setIfInBounds_toArray, List.set_cons_zero, List.set_cons_succ]))
        refine wpPlan_only (fun K hK => ?_)
        try go_simp
        refine hK.out _ _ (HK.out _ (al hbx _)) ?_
        clear hK K
        try simp only [Act.put, List.setIfInBounds_toArray, List.set_cons_zero, List.set_cons_succ]
        refine wpPlan_only (fun K hK => ?_)
        rw [if_pos (by rfl)]
        refine append_wp _ _ 109 rfl wa.heap.size 115 j0 _ 4 24 Try.underlying109 hj hy0 hy1 hy2 rfl (by decide) va Q0.length (Q0.flatMap xc) (by simp [Act.eval, Act.put]) (own_on hOw (al hbx _)) ⟨wq2.heap.size, 0, none⟩ 1 1 (xc ⟨za, zb, m1, m2⟩) (by simp [Act.eval, Act.put]) rfl (World.news_of_block (cs := #[.int .i64 za, .int .i64 zb, .int .u32 (m1 : Int), .int .u32 (m2 : Int)]) (t := 115) (fr := (0, 0)) (heap_alloc_new wq2 _)) (by simp [xc, Value.oneCell']) (by unfold maxLen; omega) (by omega) (Nat.le_trans hI.sz (al hbx _).size) ?_
        intro v' w3 o1 o2 o4
        have o9 := o1
        obtain ⟨-, ⟨-, hn0⟩ | ⟨gg, cp2, cur2, rfl, -⟩⟩ := o9
        · omega
        have ob := al hbx (.cells #[.int .i64 za, .int .i64 zb, .int .u32 (m1 : Int), .int .u32 (m2 : Int)] 115)
        have hne := World.ownsRow.lt hI.own
        have k0 := cell_grown (cell_later ob s0) o2 (fun e => by have h9 := hne _ e.symm; dsimp only at h9; omega)
        have k1 := cell_grown (cell_later ob s1) o2 (fun e => by have h9 := hne _ e.symm; dsimp only at h9; omega)
        have k2 := cell_grown (cell_later ob s2) o2 (fun e => by have h9 := hne _ e.symm; dsimp only at h9; omega)
        refine hK.out _ _ ⟨k0, k1, k2⟩ ?_
        clear hK K
        try simp only [Act.put, List.setIfInBounds_toArray, List.set_cons_zero, List.set_cons_succ]
        refine wpPlan_end ?_
        have hA3 : Has w3 (w.heap.size + 2) 110 #[va, v1, v2] := Has.grown_ (hI.arr.on ob) o2 (fun e => by have := hne _ e.symm; omega)
        have hop := hA3.open_ 0
        have O4 : Own xc 115 4 wa.heap.size w3 (.slice (some ⟨gg, 0, none⟩) (Q0.length + 1) cp2) (Q0 ++ [⟨za, zb, m1, m2⟩]) := by
          unfold Own
          rw [List.flatMap_append, List.length_append]
          exact o1
        have hgv : (Value.slice (some ⟨gg, 0, none⟩) (Q0.length + 1) cp2).ownBlock ≠ some G ∧ (Value.slice (some ⟨gg, 0, none⟩) (Q0.length + 1) cp2).ownBlock ≠ some (w.heap.size + 2) := by
          have hs := ob.size
          have hGl := World.ownsRow.lt hI.pl G rfl
          have hz := hI.sz
          rcases o4 with e | e
          · rw [e]; exact ⟨hI.ne, fun e' => by have := hne _ e'; omega⟩
          · rw [e]; exact ⟨fun e' => by have := Option.some.inj e'; omega, fun e' => by have := Option.some.inj e'; omega⟩
        have hfx : (strs l h 0).take (k + 1) = Q0 ++ [⟨za, zb, m1, m2⟩] := by rw [HT.out, HX.out]
        have aA : At (w.heap.size + 2) w3 (w3.setCell ⟨w.heap.size + 2, 0, none⟩ (.slice (some ⟨gg, 0, none⟩) (Q0.length + 1) cp2)) := (At.refl _ w3).put 0 (.slice (some ⟨gg, 0, none⟩) (Q0.length + 1) cp2)
        have hP3 : OwnZ wa.heap.size w3 (.slice (some ⟨G, 0, none⟩) L.length cap) L := World.ownsRow.kept (own_on hI.pl ob) o2 (.inr (fun e => hI.ne e.symm))
        have hGA : (Value.slice (some ⟨G, 0, none⟩) L.length cap).ownBlock ≠ some (w.heap.size + 2) := fun e => by have := World.ownsRow.lt hI.pl _ e; omega
        have hF2 : Far wa.heap.size (w.heap.size + 2) wr w3 := fun j j1 j2 => (o2.block j (by have := ob.size; have := hI.sz; omega) (fun e => by have := hne j e.symm; omega)).trans (ob.block j (by have := hI.sz; omega))
        have hB2 : Below w.heap.size w w3 := (hI.hb.trans (ob.mono hI.hb.size)).grown o2 (by have := hI.hb.size; have := ob.size; omega) (fun j e => by have := hne j e; omega)
        have hz3 : wa.heap.size ≤ w3.heap.size := by have := o2.size; have := ob.size; have := hI.sz; omega
        have KN : InC p q l h c d 0 w wa L G cap (k + 1) (.slice (some ⟨gg, 0, none⟩) (Q0.length + 1) cp2) #[(.slice (some ⟨gg, 0, none⟩) (Q0.length + 1) cp2), v1, v2] (w3.setCell ⟨w.heap.size + 2, 0, none⟩ (.slice (some ⟨gg, 0, none⟩) (Q0.length + 1) cp2)) :=
          ⟨.inr hlt, by rw [hfx]; exact own_at O4 aA hgv.2, own_at hP3 aA hGA, hgv.1, by simpa using hA3.put_ 0 (.slice (some ⟨gg, 0, none⟩) (Q0.length + 1) cp2), (hI.far.trans hF2).trans (Far.set w3), hB2.setCell (by dsimp only; omega) _, by rw [aA.size]; exact hz3⟩
        rw [hql] at KN
        clear hgv hfx aA hP3 hGA hF2 hB2 hz3 hA3 O4 o1 o2 o4 ob hne hOw hI0 hI hbx k0 k1 s0 s1 s2 s3
        go_wp2
        go_roundw
        all_goals first | exact ⟨k + 1, (.slice (some ⟨gg, 0, none⟩) (k + 1) cp2), by simp, KN⟩ | (simp [intOf]; omega)
      · have g1 : decide ((k : Int) < (L.length : Int) - 1) = false := by simp; omega
        have e : (strs l h 0).take k = strs l h 0 := List.take_of_length_le (by omega)
        have hOw := hI.own
        rw [e] at hOw
        go_wp2
        exact ⟨⟨1, va, v1, v2, rfl, by omega, ⟨Far.has hsol hI.far (by omega) (by omega), Far.has hres hI.far (by omega) (by omega), hI.arr, hI.hb, RowI.own (by omega) (hOw.mono (by omega)), hr1.off (by omega) (by omega), hr2.off (by omega) (by omega)⟩⟩, by simp [intOf]⟩
  · obtain ⟨wa, hwa⟩ : ∃ x, x = wr := ⟨_, rfl⟩
    subst wr
    have C0 := hSt.sol.read 0
    have C1 := hSt.sol.read 1
    simp only [List.getElem?_toArray, List.getElem?_cons_zero, List.getElem?_cons_succ] at C0 C1
    have hc := hcut 1 (by omega)
    go_upto_region 6 with (go_at_call 103; refine (hc wa (hS.on hSt.hb) (hT.on hSt.hb)).mono ?_; rintro X w1 ⟨u, rfl, hU, hb1⟩)
    obtain ⟨hsol, hres, harr, hbw, hr0, hr1, hr2⟩ := hSt
    have hs2 := harr.size_
    have hnil : v1 = .slice none 0 0 := by
      have := hr1
      unfold RowI at this
      rwa [if_neg (by omega)] at this
    subst hnil
    have hL1 := places_pos l h 1 hl1
    have hL2 := places_len l h 1 hl hh
    have hLs := strs_len l h 1
    obtain ⟨L, hLe⟩ : ∃ L, L = places l h 1 := ⟨_, rfl⟩
    have hLt : ∀ k (h1 : k < L.length) (h2 : k + 1 < L.length), (strs l h 1).take (k + 1) = (strs l h 1).take k ++ [sxOf l h 1 (L[k], L[k + 1])] := by
      subst hLe
      intro k h1 h2
      exact strs_take h2
    rw [← hLe] at hL1 hL2 hLs hU
    clear hLe hc
    have hU' := hU
    obtain ⟨-, ⟨-, h2⟩ | ⟨G, cap, cur, rfl, hBg, -, hn1, hcap, -, -⟩⟩ := hU'
    · omega
    have W0 : IntKind.i64.wrap ((L.length : Int) - 1) = (L.length : Int) - 1 := IntWalk.i64_in _ (by omega)
    have K0 : InC p q l h c d 1 w wa L G cap 0 (.slice none 0 0) #[v0, .slice none 0 0, v2] w1 :=
      ⟨.inl rfl, World.ownsRow_nil _ _ _ _, hU, by simp [Value.ownBlock], harr.on hb1, Far.below hb1 (Nat.le_refl _), hbw.trans (hb1.mono hbw.size), hb1.size⟩
    have HLt := Lib.hid hLt
    clear hLt C0 C1 hU hb1
    go_upto_region 7 with fail
    go_loopw [18] (fun v18 wx => ∃ (k : Nat) (va : Value), v18 = .int .i64 (k : Int) ∧ InC p q l h c d 1 w wa L G cap k va #[v0, va, v2] wx) (fun v _ => L.length - (intOf v).toNat)
    case atStart => exact ⟨0, _, rfl, K0⟩
    case round =>
      clear K0
      obtain ⟨k, va, rfl, hI⟩ := hrel
      have hk := hI.le
      by_cases hlt : k + 1 < L.length
      · have g1 : decide ((k : Int) < (L.length : Int) - 1) = true := by simp; omega
        have h1 : k < L.length := by omega
        have z0 := hI.pl.at_ h1
        have z1 := hI.pl.at_ hlt
        have HT := Lib.hid (HLt.out k h1 hlt)
        have W1 : IntKind.i64.wrap ((k : Int) + 1) = (k : Int) + 1 := IntWalk.i64_in _ (by omega)
        have g2 : (k : Int) + 1 < (L.length : Int) := by omega
        have g3 : ((k : Int) + 1).toNat = k + 1 := by omega
        have g4 : (0 : Int) ≤ (k : Int) + 1 := by omega
        have hql : ((strs l h 1).take k).length = k := by rw [List.length_take]; omega
        have htl : ∀ W, Sl W p l → Calls Try.prog 104 #[.slice p l.length c, .int .i64 1, .int .i64 L[k], .int .i64 L[k + 1]] W fun e w' => e = .returned (.int .u32 (hmk (sds l 1) (L[k], L[k + 1]) l.length : Nat)) ∧ Below W.heap.size W w' := fun W H => taking_any p l c 1 L[k] L[k + 1] W H hl (by omega)
        have hth : ∀ W, Sl W q h → Calls Try.prog 104 #[.slice q h.length d, .int .i64 1, .int .i64 L[k], .int .i64 L[k + 1]] W fun e w' => e = .returned (.int .u32 (hmk (sds h 1) (L[k], L[k + 1]) h.length : Nat)) ∧ Below W.heap.size W w' := fun W H => taking_any q h d 1 L[k] L[k + 1] W H hh (by omega)
        have hsx : sxOf l h 1 (L[k], L[k + 1]) = ⟨L[k], L[k + 1], hmk (sds l 1) (L[k], L[k + 1]) l.length, hmk (sds h 1) (L[k], L[k + 1]) h.length⟩ := rfl
        have HX := Lib.hid hsx
        have hI0 := hI.own
        clear hsx
        have hOw := hI.own
        generalize hQ : (strs l h 1).take k = Q0 at *
        generalize hmk (sds l 1) (L[k], L[k + 1]) l.length = m1 at *
        generalize hmk (sds h 1) (L[k], L[k + 1]) h.length = m2 at *
        generalize L[k] = za at *
        generalize L[k + 1] = zb at *
        have s0 := (Far.has hsol hI.far (by omega) (by omega)).read 0
        have s1 := (Far.has hsol hI.far (by omega) (by omega)).read 1
        have s2 := hI.arr.read 1
        have s3 := hI.arr.open_ 1
        simp only [List.getElem?_toArray, List.getElem?_cons_zero, List.getElem?_cons_succ] at s0 s1 s2
        have HK : Hid (∀ W', Below wr.heap.size wr W' → W'.cell? ⟨w.heap.size, 0, none⟩ = some (.slice p l.length c) ∧ W'.cell? ⟨w.heap.size, 1, none⟩ = some (.slice q h.length d) ∧ W'.cell? ⟨w.heap.size + 2, 1, none⟩ = some va) := Lib.hid (fun W' hb => ⟨cell_later hb s0, cell_later hb s1, cell_later hb s2⟩)
        have hSr := hS.on hI.hb
        have hTr := hT.on hI.hb
        go_upto_region 9 with fail
        refine wp_region_plan 10 [(0, true), (1, true), (2, true), (3, true), (4, true), (5, true), (6, true), (7, true), (8, true), (9, true)] (fun W' => W'.cell? ⟨G, k, none⟩ = some (.int .i64 za) ∧ W'.cell? ⟨G, k + 1, none⟩ = some (.int .i64 zb)) (by kernel_rfl) (by kernel_rfl) (fun _ _ d _ _ h => by cases d <;> exact h) ⟨z0, z1⟩ ?_
        simp only [List.filterMap_cons, List.filterMap_nil, List.getElem?_cons_zero, List.getElem?_cons_succ, Option.map_some, List.drop_succ_cons, List.drop_zero]
        iterate 10 (first | (refine wpPlan_still (v := ?_) (Or.inl ⟨by rfl, ?_⟩) ?_; rotate_left; (focus (intro W hW; (try dsimp only at hW); go_split_ands; go_simp; try with_reducible rfl)); try simp only [Act.put, List.setIfInBounds_toArray, List.set_cons_zero, List.set_cons_succ]) | (refine wpPlan_still (Or.inr ⟨by rfl, rfl⟩) ?_; try simp only [Act.put, List.setIfInBounds_toArray, List.set_cons_zero, List.set_cons_succ]))
        refine wpPlan_end ?_
        go_upto_region 10 with fail
        clear z0 z1
        have hbx : Below wr.heap.size wr wr.drew.drew := below_dr (below_dr (Below.refl _ wr))
        refine wp_region_plan 21 [(0, true), (1, true), (2, true), (3, true), (4, true), (5, true), (6, true), (7, true), (8, true), (9, true), (10, true), (12, true), (13, true), (14, true), (15, true), (16, true), (11, false), (17, false), (18, true), (19, false), (20, false)] (fun W' => W'.cell? ⟨w.heap.size, 0, none⟩ = some (.slice p l.length c) ∧ W'.cell? ⟨w.heap.size, 1, none⟩ = some (.slice q h.length d) ∧ W'.cell? ⟨w.heap.size + 2, 1, none⟩ = some va) (by kernel_rfl) (by kernel_rfl) (fun _ _ d _ _ h => by cases d <;> exact h) (HK.out _ hbx) ?_
        simp only [List.filterMap_cons, List.filterMap_nil, List.getElem?_cons_zero, List.getElem?_cons_succ, Option.map_some, List.drop_succ_cons, List.drop_zero]
        iterate 16 (first | (refine wpPlan_still (v := ?_) (Or.inl ⟨by rfl, ?_⟩) ?_; rotate_left; (focus (intro W hW; (try dsimp only at hW); go_split_ands; go_simp; try with_reducible rfl)); try simp only [Act.put, List.setIfInBounds_toArray, List.set_cons_zero, List.set_cons_succ]) | (refine wpPlan_still (Or.inr ⟨by rfl, rfl⟩) ?_; try simp only [Act.put, List.setIfInBounds_toArray, List.set_cons_zero, List.set_cons_succ]))
        refine wpPlan_only (fun K hK => ?_)
        try go_simp
        (go_at_call 104; (with_reducible refine (htl _ (hSr.on hbx)).mono ?_); rintro X wq1 ⟨rfl, hb⟩)
        replace hbx := belows hbx hb
        clear hb
        refine hK.out _ _ (HK.out _ hbx) ?_
        clear hK K
        try simp only [Act.put, List.setIfInBounds_toArray, List.set_cons_zero, List.set_cons_succ]
        refine wpPlan_only (fun K hK => ?_)
        try go_simp
        (go_at_call 104; (with_reducible refine (hth _ (hTr.on hbx)).mono ?_); rintro X wq2 ⟨rfl, hb⟩)
        replace hbx := belows hbx hb
        clear hb
        refine hK.out _ _ (HK.out _ hbx) ?_
        clear hK K
        try simp only [Act.put, List.setIfInBounds_toArray, List.set_cons_zero, List.set_cons_succ]
        iterate 1 (first | (refine wpPlan_still (v := ?_) (Or.inl ⟨by rfl, ?_⟩) ?_; rotate_left; (focus (intro W hW; (try dsimp only at hW); go_split_ands; go_simp; try with_reducible rfl)); try simp only [Act.put, List.setIfInBounds_toArray, List.set_cons_zero, List.set_cons_succ]) | (refine wpPlan_still (Or.inr ⟨by rfl, rfl⟩) ?_; try simp only [Act.put, List.setIfInBounds_toArray, List.set_cons_zero, List.set_cons_succ]))
        refine wpPlan_only (fun K hK => ?_)
        try go_simp
        refine hK.out _ _ (HK.out _ (al hbx _)) ?_
        clear hK K
        try simp only [Act.put, List.setIfInBounds_toArray, List.set_cons_zero, List.set_cons_succ]
        refine wpPlan_only (fun K hK => ?_)
        rw [if_pos (by rfl)]
        refine append_wp _ _ 109 rfl wa.heap.size 115 j0 _ 4 24 Try.underlying109 hj hy0 hy1 hy2 rfl (by decide) va Q0.length (Q0.flatMap xc) (by simp [Act.eval, Act.put]) (own_on hOw (al hbx _)) ⟨wq2.heap.size, 0, none⟩ 1 1 (xc ⟨za, zb, m1, m2⟩) (by simp [Act.eval, Act.put]) rfl (World.news_of_block (cs := #[.int .i64 za, .int .i64 zb, .int .u32 (m1 : Int), .int .u32 (m2 : Int)]) (t := 115) (fr := (0, 0)) (heap_alloc_new wq2 _)) (by simp [xc, Value.oneCell']) (by unfold maxLen; omega) (by omega) (Nat.le_trans hI.sz (al hbx _).size) ?_
        intro v' w3 o1 o2 o4
        have o9 := o1
        obtain ⟨-, ⟨-, hn0⟩ | ⟨gg, cp2, cur2, rfl, -⟩⟩ := o9
        · omega
        have ob := al hbx (.cells #[.int .i64 za, .int .i64 zb, .int .u32 (m1 : Int), .int .u32 (m2 : Int)] 115)
        have hne := World.ownsRow.lt hI.own
        have k0 := cell_grown (cell_later ob s0) o2 (fun e => by have h9 := hne _ e.symm; dsimp only at h9; omega)
        have k1 := cell_grown (cell_later ob s1) o2 (fun e => by have h9 := hne _ e.symm; dsimp only at h9; omega)
        have k2 := cell_grown (cell_later ob s2) o2 (fun e => by have h9 := hne _ e.symm; dsimp only at h9; omega)
        refine hK.out _ _ ⟨k0, k1, k2⟩ ?_
        clear hK K
        try simp only [Act.put, List.setIfInBounds_toArray, List.set_cons_zero, List.set_cons_succ]
        refine wpPlan_end ?_
        have hA3 : Has w3 (w.heap.size + 2) 110 #[v0, va, v2] := Has.grown_ (hI.arr.on ob) o2 (fun e => by have := hne _ e.symm; omega)
        have hop := hA3.open_ 1
        have O4 : Own xc 115 4 wa.heap.size w3 (.slice (some ⟨gg, 0, none⟩) (Q0.length + 1) cp2) (Q0 ++ [⟨za, zb, m1, m2⟩]) := by
          unfold Own
          rw [List.flatMap_append, List.length_append]
          exact o1
        have hgv : (Value.slice (some ⟨gg, 0, none⟩) (Q0.length + 1) cp2).ownBlock ≠ some G ∧ (Value.slice (some ⟨gg, 0, none⟩) (Q0.length + 1) cp2).ownBlock ≠ some (w.heap.size + 2) := by
          have hs := ob.size
          have hGl := World.ownsRow.lt hI.pl G rfl
          have hz := hI.sz
          rcases o4 with e | e
          · rw [e]; exact ⟨hI.ne, fun e' => by have := hne _ e'; omega⟩
          · rw [e]; exact ⟨fun e' => by have := Option.some.inj e'; omega, fun e' => by have := Option.some.inj e'; omega⟩
        have hfx : (strs l h 1).take (k + 1) = Q0 ++ [⟨za, zb, m1, m2⟩] := by rw [HT.out, HX.out]
        have aA : At (w.heap.size + 2) w3 (w3.setCell ⟨w.heap.size + 2, 1, none⟩ (.slice (some ⟨gg, 0, none⟩) (Q0.length + 1) cp2)) := (At.refl _ w3).put 1 (.slice (some ⟨gg, 0, none⟩) (Q0.length + 1) cp2)
        have hP3 : OwnZ wa.heap.size w3 (.slice (some ⟨G, 0, none⟩) L.length cap) L := World.ownsRow.kept (own_on hI.pl ob) o2 (.inr (fun e => hI.ne e.symm))
        have hGA : (Value.slice (some ⟨G, 0, none⟩) L.length cap).ownBlock ≠ some (w.heap.size + 2) := fun e => by have := World.ownsRow.lt hI.pl _ e; omega
        have hF2 : Far wa.heap.size (w.heap.size + 2) wr w3 := fun j j1 j2 => (o2.block j (by have := ob.size; have := hI.sz; omega) (fun e => by have := hne j e.symm; omega)).trans (ob.block j (by have := hI.sz; omega))
        have hB2 : Below w.heap.size w w3 := (hI.hb.trans (ob.mono hI.hb.size)).grown o2 (by have := hI.hb.size; have := ob.size; omega) (fun j e => by have := hne j e; omega)
        have hz3 : wa.heap.size ≤ w3.heap.size := by have := o2.size; have := ob.size; have := hI.sz; omega
        have KN : InC p q l h c d 1 w wa L G cap (k + 1) (.slice (some ⟨gg, 0, none⟩) (Q0.length + 1) cp2) #[v0, (.slice (some ⟨gg, 0, none⟩) (Q0.length + 1) cp2), v2] (w3.setCell ⟨w.heap.size + 2, 1, none⟩ (.slice (some ⟨gg, 0, none⟩) (Q0.length + 1) cp2)) :=
          ⟨.inr hlt, by rw [hfx]; exact own_at O4 aA hgv.2, own_at hP3 aA hGA, hgv.1, by simpa using hA3.put_ 1 (.slice (some ⟨gg, 0, none⟩) (Q0.length + 1) cp2), (hI.far.trans hF2).trans (Far.set w3), hB2.setCell (by dsimp only; omega) _, by rw [aA.size]; exact hz3⟩
        rw [hql] at KN
        clear hgv hfx aA hP3 hGA hF2 hB2 hz3 hA3 O4 o1 o2 o4 ob hne hOw hI0 hI hbx k0 k1 s0 s1 s2 s3
        go_wp2
        go_roundw
        all_goals first | exact ⟨k + 1, (.slice (some ⟨gg, 0, none⟩) (k + 1) cp2), by simp, KN⟩ | (simp [intOf]; omega)
      · have g1 : decide ((k : Int) < (L.length : Int) - 1) = false := by simp; omega
        have e : (strs l h 1).take k = strs l h 1 := List.take_of_length_le (by omega)
        have hOw := hI.own
        rw [e] at hOw
        go_wp2
        exact ⟨⟨2, v0, va, v2, rfl, by omega, ⟨Far.has hsol hI.far (by omega) (by omega), Far.has hres hI.far (by omega) (by omega), hI.arr, hI.hb, hr0.far (by omega) (by omega) rfl (by omega) hI.far, RowI.own (by omega) (hOw.mono (by omega)), hr2.off (by omega) (by omega)⟩⟩, by simp [intOf]⟩
  · obtain ⟨wa, hwa⟩ : ∃ x, x = wr := ⟨_, rfl⟩
    subst wr
    have C0 := hSt.sol.read 0
    have C1 := hSt.sol.read 1
    simp only [List.getElem?_toArray, List.getElem?_cons_zero, List.getElem?_cons_succ] at C0 C1
    have hc := hcut 2 (by omega)
    go_upto_region 6 with (go_at_call 103; refine (hc wa (hS.on hSt.hb) (hT.on hSt.hb)).mono ?_; rintro X w1 ⟨u, rfl, hU, hb1⟩)
    obtain ⟨hsol, hres, harr, hbw, hr0, hr1, hr2⟩ := hSt
    have hs2 := harr.size_
    have hnil : v2 = .slice none 0 0 := by
      have := hr2
      unfold RowI at this
      rwa [if_neg (by omega)] at this
    subst hnil
    have hL1 := places_pos l h 2 hl1
    have hL2 := places_len l h 2 hl hh
    have hLs := strs_len l h 2
    obtain ⟨L, hLe⟩ : ∃ L, L = places l h 2 := ⟨_, rfl⟩
    have hLt : ∀ k (h1 : k < L.length) (h2 : k + 1 < L.length), (strs l h 2).take (k + 1) = (strs l h 2).take k ++ [sxOf l h 2 (L[k], L[k + 1])] := by
      subst hLe
      intro k h1 h2
      exact strs_take h2
    rw [← hLe] at hL1 hL2 hLs hU
    clear hLe hc
    have hU' := hU
    obtain ⟨-, ⟨-, h2⟩ | ⟨G, cap, cur, rfl, hBg, -, hn1, hcap, -, -⟩⟩ := hU'
    · omega
    have W0 : IntKind.i64.wrap ((L.length : Int) - 1) = (L.length : Int) - 1 := IntWalk.i64_in _ (by omega)
    have K0 : InC p q l h c d 2 w wa L G cap 0 (.slice none 0 0) #[v0, v1, .slice none 0 0] w1 :=
      ⟨.inl rfl, World.ownsRow_nil _ _ _ _, hU, by simp [Value.ownBlock], harr.on hb1, Far.below hb1 (Nat.le_refl _), hbw.trans (hb1.mono hbw.size), hb1.size⟩
    have HLt := Lib.hid hLt
    clear hLt C0 C1 hU hb1
    go_upto_region 7 with fail
    go_loopw [18] (fun v18 wx => ∃ (k : Nat) (va : Value), v18 = .int .i64 (k : Int) ∧ InC p q l h c d 2 w wa L G cap k va #[v0, v1, va] wx) (fun v _ => L.length - (intOf v).toNat)
    case atStart => exact ⟨0, _, rfl, K0⟩
    case round =>
      clear K0
      obtain ⟨k, va, rfl, hI⟩ := hrel
      have hk := hI.le
      by_cases hlt : k + 1 < L.length
      · have g1 : decide ((k : Int) < (L.length : Int) - 1) = true := by simp; omega
        have h1 : k < L.length := by omega
        have z0 := hI.pl.at_ h1
        have z1 := hI.pl.at_ hlt
        have HT := Lib.hid (HLt.out k h1 hlt)
        have W1 : IntKind.i64.wrap ((k : Int) + 1) = (k : Int) + 1 := IntWalk.i64_in _ (by omega)
        have g2 : (k : Int) + 1 < (L.length : Int) := by omega
        have g3 : ((k : Int) + 1).toNat = k + 1 := by omega
        have g4 : (0 : Int) ≤ (k : Int) + 1 := by omega
        have hql : ((strs l h 2).take k).length = k := by rw [List.length_take]; omega
        have htl : ∀ W, Sl W p l → Calls Try.prog 104 #[.slice p l.length c, .int .i64 2, .int .i64 L[k], .int .i64 L[k + 1]] W fun e w' => e = .returned (.int .u32 (hmk (sds l 2) (L[k], L[k + 1]) l.length : Nat)) ∧ Below W.heap.size W w' := fun W H => taking_any p l c 2 L[k] L[k + 1] W H hl (by omega)
        have hth : ∀ W, Sl W q h → Calls Try.prog 104 #[.slice q h.length d, .int .i64 2, .int .i64 L[k], .int .i64 L[k + 1]] W fun e w' => e = .returned (.int .u32 (hmk (sds h 2) (L[k], L[k + 1]) h.length : Nat)) ∧ Below W.heap.size W w' := fun W H => taking_any q h d 2 L[k] L[k + 1] W H hh (by omega)
        have hsx : sxOf l h 2 (L[k], L[k + 1]) = ⟨L[k], L[k + 1], hmk (sds l 2) (L[k], L[k + 1]) l.length, hmk (sds h 2) (L[k], L[k + 1]) h.length⟩ := rfl
        have HX := Lib.hid hsx
        have hI0 := hI.own
        clear hsx
        have hOw := hI.own
        generalize hQ : (strs l h 2).take k = Q0 at *
        generalize hmk (sds l 2) (L[k], L[k + 1]) l.length = m1 at *
        generalize hmk (sds h 2) (L[k], L[k + 1]) h.length = m2 at *
        generalize L[k] = za at *
        generalize L[k + 1] = zb at *
        have s0 := (Far.has hsol hI.far (by omega) (by omega)).read 0
        have s1 := (Far.has hsol hI.far (by omega) (by omega)).read 1
        have s2 := hI.arr.read 2
        have s3 := hI.arr.open_ 2
        simp only [List.getElem?_toArray, List.getElem?_cons_zero, List.getElem?_cons_succ] at s0 s1 s2
        have HK : Hid (∀ W', Below wr.heap.size wr W' → W'.cell? ⟨w.heap.size, 0, none⟩ = some (.slice p l.length c) ∧ W'.cell? ⟨w.heap.size, 1, none⟩ = some (.slice q h.length d) ∧ W'.cell? ⟨w.heap.size + 2, 2, none⟩ = some va) := Lib.hid (fun W' hb => ⟨cell_later hb s0, cell_later hb s1, cell_later hb s2⟩)
        have hSr := hS.on hI.hb
        have hTr := hT.on hI.hb
        go_upto_region 9 with fail
        refine wp_region_plan 10 [(0, true), (1, true), (2, true), (3, true), (4, true), (5, true), (6, true), (7, true), (8, true), (9, true)] (fun W' => W'.cell? ⟨G, k, none⟩ = some (.int .i64 za) ∧ W'.cell? ⟨G, k + 1, none⟩ = some (.int .i64 zb)) (by kernel_rfl) (by kernel_rfl) (fun _ _ d _ _ h => by cases d <;> exact h) ⟨z0, z1⟩ ?_
        simp only [List.filterMap_cons, List.filterMap_nil, List.getElem?_cons_zero, List.getElem?_cons_succ, Option.map_some, List.drop_succ_cons, List.drop_zero]
        iterate 10 (first | (refine wpPlan_still (v := ?_) (Or.inl ⟨by rfl, ?_⟩) ?_; rotate_left; (focus (intro W hW; (try dsimp only at hW); go_split_ands; go_simp; try with_reducible rfl)); try simp only [Act.put, List.setIfInBounds_toArray, List.set_cons_zero, List.set_cons_succ]) | (refine wpPlan_still (Or.inr ⟨by rfl, rfl⟩) ?_; try simp only [Act.put, List.setIfInBounds_toArray, List.set_cons_zero, List.set_cons_succ]))
        refine wpPlan_end ?_
        go_upto_region 10 with fail
        clear z0 z1
        have hbx : Below wr.heap.size wr wr.drew.drew := below_dr (below_dr (Below.refl _ wr))
        refine wp_region_plan 21 [(0, true), (1, true), (2, true), (3, true), (4, true), (5, true), (6, true), (7, true), (8, true), (9, true), (10, true), (12, true), (13, true), (14, true), (15, true), (16, true), (11, false), (17, false), (18, true), (19, false), (20, false)] (fun W' => W'.cell? ⟨w.heap.size, 0, none⟩ = some (.slice p l.length c) ∧ W'.cell? ⟨w.heap.size, 1, none⟩ = some (.slice q h.length d) ∧ W'.cell? ⟨w.heap.size + 2, 2, none⟩ = some va) (by kernel_rfl) (by kernel_rfl) (fun _ _ d _ _ h => by cases d <;> exact h) (HK.out _ hbx) ?_
        simp only [List.filterMap_cons, List.filterMap_nil, List.getElem?_cons_zero, List.getElem?_cons_succ, Option.map_some, List.drop_succ_cons, List.drop_zero]
        iterate 16 (first | (refine wpPlan_still (v := ?_) (Or.inl ⟨by rfl, ?_⟩) ?_; rotate_left; (focus (intro W hW; (try dsimp only at hW); go_split_ands; go_simp; try with_reducible rfl)); try simp only [Act.put, List.setIfInBounds_toArray, List.set_cons_zero, List.set_cons_succ]) | (refine wpPlan_still (Or.inr ⟨by rfl, rfl⟩) ?_; try simp only [Act.put, List.setIfInBounds_toArray, List.set_cons_zero, List.set_cons_succ]))
        refine wpPlan_only (fun K hK => ?_)
        try go_simp
        (go_at_call 104; (with_reducible refine (htl _ (hSr.on hbx)).mono ?_); rintro X wq1 ⟨rfl, hb⟩)
        replace hbx := belows hbx hb
        clear hb
        refine hK.out _ _ (HK.out _ hbx) ?_
        clear hK K
        try simp only [Act.put, List.setIfInBounds_toArray, List.set_cons_zero, List.set_cons_succ]
        refine wpPlan_only (fun K hK => ?_)
        try go_simp
        (go_at_call 104; (with_reducible refine (hth _ (hTr.on hbx)).mono ?_); rintro X wq2 ⟨rfl, hb⟩)
        replace hbx := belows hbx hb
        clear hb
        refine hK.out _ _ (HK.out _ hbx) ?_
        clear hK K
        try simp only [Act.put, List.setIfInBounds_toArray, List.set_cons_zero, List.set_cons_succ]
        iterate 1 (first | (refine wpPlan_still (v := ?_) (Or.inl ⟨by rfl, ?_⟩) ?_; rotate_left; (focus (intro W hW; (try dsimp only at hW); go_split_ands; go_simp; try with_reducible rfl)); try simp only [Act.put, List.setIfInBounds_toArray, List.set_cons_zero, List.set_cons_succ]) | (refine wpPlan_still (Or.inr ⟨by rfl, rfl⟩) ?_; try simp only [Act.put, List.setIfInBounds_toArray, List.set_cons_zero, List.set_cons_succ]))
        refine wpPlan_only (fun K hK => ?_)
        try go_simp
        refine hK.out _ _ (HK.out _ (al hbx _)) ?_
        clear hK K
        try simp only [Act.put, List.setIfInBounds_toArray, List.set_cons_zero, List.set_cons_succ]
        refine wpPlan_only (fun K hK => ?_)
        rw [if_pos (by rfl)]
        refine append_wp _ _ 109 rfl wa.heap.size 115 j0 _ 4 24 Try.underlying109 hj hy0 hy1 hy2 rfl (by decide) va Q0.length (Q0.flatMap xc) (by simp [Act.eval, Act.put]) (own_on hOw (al hbx _)) ⟨wq2.heap.size, 0, none⟩ 1 1 (xc ⟨za, zb, m1, m2⟩) (by simp [Act.eval, Act.put]) rfl (World.news_of_block (cs := #[.int .i64 za, .int .i64 zb, .int .u32 (m1 : Int), .int .u32 (m2 : Int)]) (t := 115) (fr := (0, 0)) (heap_alloc_new wq2 _)) (by simp [xc, Value.oneCell']) (by unfold maxLen; omega) (by omega) (Nat.le_trans hI.sz (al hbx _).size) ?_
        intro v' w3 o1 o2 o4
        have o9 := o1
        obtain ⟨-, ⟨-, hn0⟩ | ⟨gg, cp2, cur2, rfl, -⟩⟩ := o9
        · omega
        have ob := al hbx (.cells #[.int .i64 za, .int .i64 zb, .int .u32 (m1 : Int), .int .u32 (m2 : Int)] 115)
        have hne := World.ownsRow.lt hI.own
        have k0 := cell_grown (cell_later ob s0) o2 (fun e => by have h9 := hne _ e.symm; dsimp only at h9; omega)
        have k1 := cell_grown (cell_later ob s1) o2 (fun e => by have h9 := hne _ e.symm; dsimp only at h9; omega)
        have k2 := cell_grown (cell_later ob s2) o2 (fun e => by have h9 := hne _ e.symm; dsimp only at h9; omega)
        refine hK.out _ _ ⟨k0, k1, k2⟩ ?_
        clear hK K
        try simp only [Act.put, List.setIfInBounds_toArray, List.set_cons_zero, List.set_cons_succ]
        refine wpPlan_end ?_
        have hA3 : Has w3 (w.heap.size + 2) 110 #[v0, v1, va] := Has.grown_ (hI.arr.on ob) o2 (fun e => by have := hne _ e.symm; omega)
        have hop := hA3.open_ 2
        have O4 : Own xc 115 4 wa.heap.size w3 (.slice (some ⟨gg, 0, none⟩) (Q0.length + 1) cp2) (Q0 ++ [⟨za, zb, m1, m2⟩]) := by
          unfold Own
          rw [List.flatMap_append, List.length_append]
          exact o1
        have hgv : (Value.slice (some ⟨gg, 0, none⟩) (Q0.length + 1) cp2).ownBlock ≠ some G ∧ (Value.slice (some ⟨gg, 0, none⟩) (Q0.length + 1) cp2).ownBlock ≠ some (w.heap.size + 2) := by
          have hs := ob.size
          have hGl := World.ownsRow.lt hI.pl G rfl
          have hz := hI.sz
          rcases o4 with e | e
          · rw [e]; exact ⟨hI.ne, fun e' => by have := hne _ e'; omega⟩
          · rw [e]; exact ⟨fun e' => by have := Option.some.inj e'; omega, fun e' => by have := Option.some.inj e'; omega⟩
        have hfx : (strs l h 2).take (k + 1) = Q0 ++ [⟨za, zb, m1, m2⟩] := by rw [HT.out, HX.out]
        have aA : At (w.heap.size + 2) w3 (w3.setCell ⟨w.heap.size + 2, 2, none⟩ (.slice (some ⟨gg, 0, none⟩) (Q0.length + 1) cp2)) := (At.refl _ w3).put 2 (.slice (some ⟨gg, 0, none⟩) (Q0.length + 1) cp2)
        have hP3 : OwnZ wa.heap.size w3 (.slice (some ⟨G, 0, none⟩) L.length cap) L := World.ownsRow.kept (own_on hI.pl ob) o2 (.inr (fun e => hI.ne e.symm))
        have hGA : (Value.slice (some ⟨G, 0, none⟩) L.length cap).ownBlock ≠ some (w.heap.size + 2) := fun e => by have := World.ownsRow.lt hI.pl _ e; omega
        have hF2 : Far wa.heap.size (w.heap.size + 2) wr w3 := fun j j1 j2 => (o2.block j (by have := ob.size; have := hI.sz; omega) (fun e => by have := hne j e.symm; omega)).trans (ob.block j (by have := hI.sz; omega))
        have hB2 : Below w.heap.size w w3 := (hI.hb.trans (ob.mono hI.hb.size)).grown o2 (by have := hI.hb.size; have := ob.size; omega) (fun j e => by have := hne j e; omega)
        have hz3 : wa.heap.size ≤ w3.heap.size := by have := o2.size; have := ob.size; have := hI.sz; omega
        have KN : InC p q l h c d 2 w wa L G cap (k + 1) (.slice (some ⟨gg, 0, none⟩) (Q0.length + 1) cp2) #[v0, v1, (.slice (some ⟨gg, 0, none⟩) (Q0.length + 1) cp2)] (w3.setCell ⟨w.heap.size + 2, 2, none⟩ (.slice (some ⟨gg, 0, none⟩) (Q0.length + 1) cp2)) :=
          ⟨.inr hlt, by rw [hfx]; exact own_at O4 aA hgv.2, own_at hP3 aA hGA, hgv.1, by simpa using hA3.put_ 2 (.slice (some ⟨gg, 0, none⟩) (Q0.length + 1) cp2), (hI.far.trans hF2).trans (Far.set w3), hB2.setCell (by dsimp only; omega) _, by rw [aA.size]; exact hz3⟩
        rw [hql] at KN
        clear hgv hfx aA hP3 hGA hF2 hB2 hz3 hA3 O4 o1 o2 o4 ob hne hOw hI0 hI hbx k0 k1 s0 s1 s2 s3
        go_wp2
        go_roundw
        all_goals first | exact ⟨k + 1, (.slice (some ⟨gg, 0, none⟩) (k + 1) cp2), by simp, KN⟩ | (simp [intOf]; omega)
      · have g1 : decide ((k : Int) < (L.length : Int) - 1) = false := by simp; omega
        have e : (strs l h 2).take k = strs l h 2 := List.take_of_length_le (by omega)
        have hOw := hI.own
        rw [e] at hOw
        go_wp2
        exact ⟨⟨3, v0, v1, va, rfl, by omega, ⟨Far.has hsol hI.far (by omega) (by omega), Far.has hres hI.far (by omega) (by omega), hI.arr, hI.hb, hr0.far (by omega) (by omega) rfl (by omega) hI.far, hr1.far (by omega) (by omega) rfl (by omega) hI.far, RowI.own (by omega) (hOw.mono (by omega))⟩⟩, by simp [intOf]⟩
  · obtain ⟨hsol, hres, harr, hbw, hr0, hr1, hr2⟩ := hSt
    simp only [RowI, show (0 : Nat) < 3 from by omega, show (1 : Nat) < 3 from by omega, show (2 : Nat) < 3 from by omega, if_true] at hr0 hr1 hr2
    obtain ⟨q0, c0, e0, -⟩ := Own.rd xl hr0
    obtain ⟨q1, c1, e1, -⟩ := Own.rd xl hr1
    obtain ⟨q2, c2, e2, -⟩ := Own.rd xl hr2
    subst e0 e1 e2
    have E : Env w wr [⟨w.heap.size + 1, 110, #[.slice none 0 0, .slice none 0 0, .slice none 0 0]⟩] := ⟨hbw, (show Blk w.heap.size wr _ from ⟨by simp, hres, by simp, trivial⟩)⟩
    have C := E.cells
    simp [BC, CF] at C
    have D0 := harr.read 0
    have D1 := harr.read 1
    have D2 := harr.read 2
    simp only [List.getElem?_toArray, List.getElem?_cons_zero, List.getElem?_cons_succ] at D0 D1 D2
    go_wp2
    refine bodyPost_ret (v := .agg #[.slice q0 (strs l h 0).length c0, .slice q1 (strs l h 1).length c1, .slice q2 (strs l h 2).length c2]) (by simp [results, Try.results79, go_sem, C]) rfl ⟨_, _, _, rfl, ?_, ?_, ?_, (((E.put 0 0 _ rfl).put 0 1 _ rfl).put 0 2 _ rfl).1⟩
    · exact apart3 (hr0.mono (by omega)) (fun g e => by have := World.ownsRow.lt hr0 g e; omega)
    · exact apart3 (hr1.mono (by omega)) (fun g e => by have := World.ownsRow.lt hr1 g e; omega)
    · exact apart3 (hr2.mono (by omega)) (fun g e => by have := World.ownsRow.lt hr2 g e; omega)
end Go.Proofs.Ytkgaahmehmbfjaa
