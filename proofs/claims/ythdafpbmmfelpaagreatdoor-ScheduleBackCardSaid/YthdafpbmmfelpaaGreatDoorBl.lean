/- Lists of bars: as they come in; the index of a mark; Valid, Find, Total of the program. -/
import Derived.Test.YthdafpbmmfelpaaGreatDoorRw
import Derived.Test.YthdafpbmmfelpaaGreatDoorVl
import Derived.Test.YthdafpbmmfelpaaGreatDoorPl
import Derived.Deep.CutBlock
namespace Go.Proofs.YthdafpbmmfelpaaGreatDoor
open Go.ChangeShapes Go.WideShapes Go.ChangeAt Go.RowKit
set_option linter.unusedVariables false
set_option linter.unusedSimpArgs false

/-- The bars that lie in a row of cells. -/
def Fr5 (w : World) (a : Addr) (b : Bar) : Prop := w.cell? a = some (.string b.mark) ∧ w.cell? ⟨a.block, a.off + 1, none⟩ = some (.int .i64 b.size) ∧ w.cell? ⟨a.block, a.off + 2, none⟩ = some (.int .i64 b.count) ∧ w.cell? ⟨a.block, a.off + 3, none⟩ = some (.int .i64 b.code) ∧ w.cell? ⟨a.block, a.off + 4, none⟩ = some (.slice b.p b.ds.length b.cap)
theorem Fr5.on {w w1 : World} {a : Addr} {b : Bar} (h : Fr5 w a b) (hb : Below w.heap.size w w1) : Fr5 w1 a b :=
  ⟨cell_later hb h.1, cell_later hb h.2.1, cell_later hb h.2.2.1, cell_later hb h.2.2.2.1, cell_later hb h.2.2.2.2⟩
structure Slb (w : World) (p : Option Addr) (l : List Bar) (cap : Nat) : Prop where
  cp : l.length ≤ cap
  mx : l.length ≤ maxLen
  at_ : ∀ k (h : k < l.length), ∃ a, p = some a ∧ Fr5 w (a.add (k * 5)) l[k]
  ok : ∀ b ∈ l, b.Ok w
theorem Slb.on {w w1 : World} {p : Option Addr} {l : List Bar} {cap : Nat} (h : Slb w p l cap) (hb : Below w.heap.size w w1) : Slb w1 p l cap :=
  ⟨h.cp, h.mx, fun k hk => (h.at_ k hk).imp fun a e => ⟨e.1, e.2.on hb⟩, fun b hm => (h.ok b hm).on hb⟩
theorem Slb.take {w : World} {p : Option Addr} {l : List Bar} {cap : Nat} (h : Slb w p l cap) (n : Nat) : Slb w p (l.take n) cap :=
  ⟨by have := h.cp; simp; omega, by have := h.mx; simp; omega, fun k hk => by
    have hk' : k < l.length := by simp at hk; omega
    obtain ⟨a, e, f⟩ := h.at_ k hk'
    exact ⟨a, e, by rw [List.getElem_take]; exact f⟩, fun b hm => h.ok b (List.mem_of_mem_take hm)⟩
theorem Slb.nil (w : World) : Slb w none [] 0 := ⟨Nat.le_refl _, Nat.zero_le _, fun k h => absurd h (Nat.not_lt_zero k), fun b h => by cases h⟩
theorem eqN_iff {a b : ByteArray} : (a.toList == b.toList) = true ↔ a = b := by
  rw [beq_iff_eq]
  constructor
  · intro h
    rw [Lib.toList_data, Lib.toList_data] at h
    cases a; cases b
    simp at h
    rename_i x y
    cases x; cases y
    simp at h
    subst h; rfl
  · rintro rfl; rfl
/-- Where the first bar with a mark stands. -/
def fnd (m : ByteArray) (l : List Bar) : Nat := l.findIdx fun b => b.mark.toList == m.toList
theorem fnd_le (m : ByteArray) (l : List Bar) : fnd m l ≤ l.length := List.findIdx_le_length
theorem fnd_at {m : ByteArray} {l : List Bar} (h : fnd m l < l.length) : (l[fnd m l].mark.toList == m.toList) = true := List.findIdx_getElem (w := h)
theorem fnd_lt {m : ByteArray} {l : List Bar} {k : Nat} (h : k < fnd m l) (hk : k < l.length) : (l[k].mark.toList == m.toList) = false := by
  have := List.not_of_lt_findIdx h
  simpa using this
def fndV (m : ByteArray) (l : List Bar) : Int := if fnd m l < l.length then (fnd m l : Int) else -1
theorem envbb {w0 wr W : World} {l : List Fb} (hB : Below w0.heap.size w0 wr) (E : Env wr W l) : Below w0.heap.size w0 W := belows hB E.1
theorem hd1 {w W : World} {g : Nat} {t : TypeId} {v : Value} {l : List Fb} (E : Env w W (⟨g, t, #[v]⟩ :: l)) : W.cell? ⟨g, 0, none⟩ = some v := E.cells.1.2.1.1
theorem clo66 (b : Bar) (m : ByteArray) (c : Nat) (w : World) (hc : w.cell? ⟨c, 0, none⟩ = some (.string m)) :
    Calls Tryz.prog 66 #[b.val, .pointer (some ⟨c, 0, none⟩)] w fun e w' => e = .returned (.bool (b.mark.toList == m.toList)) ∧ Below w.heap.size w w' := by
  have b1 := al1 w (.cells b.cs 60)
  have cc := cell_later b1 hc
  have E := (Env.nil w).add w.heap.size 60 b.cs rfl
  have C := E.cells
  unfold Bar.val
  obtain ⟨mk, sz, ct, cd, p, ds, cap⟩ := b
  simp only [Bar.cs] at *
  simp [BC, CF] at C
  go_enter Tryz.func66, Tryz.ntmps66
  go_wp2
  go_ret
  exact ⟨rfl, b1⟩
theorem vcs (b : Bar) : b.val = .agg #[.string b.mark, .int .i64 b.size, .int .i64 b.count, .int .i64 b.code, .slice b.p b.ds.length b.cap] := rfl
theorem bcs (b : Bar) : b.cs = #[.string b.mark, .int .i64 b.size, .int .i64 b.count, .int .i64 b.code, .slice b.p b.ds.length b.cap] := rfl
set_option maxRecDepth 100000 in
theorem idx66 (c : Nat) (m : ByteArray) (p : Option Addr) (l : List Bar) (cap : Nat) (w : World) (hS : Slb w p l cap) (hc : w.cell? ⟨c, 0, none⟩ = some (.string m)) :
    Calls Tryz.prog 65 #[.slice p l.length cap, .func (.func 66) #[] #[.pointer (some ⟨c, 0, none⟩)]] w fun e w' => e = .returned (.int .i64 (fndV m l)) ∧ Below w.heap.size w w' := by
  have hle := fnd_le m l
  have hm := hS.mx
  unfold maxLen at hm
  have HF := Lib.hid (fun k h hk => fnd_lt (m := m) (l := l) (k := k) h hk)
  have HA := Lib.hid (fun h => fnd_at (m := m) (l := l) h)
  obtain ⟨R, hR⟩ : ∃ R : Int, R = fndV m l := ⟨_, rfl⟩
  rw [← hR]
  have HR0 := Lib.hid hR
  clear hR
  go_enter Tryz.func65, Tryz.ntmps65
  go_wp2
  go_loopw [8] (fun v wr => ∃ k : Nat, v = .int .i64 k ∧ k ≤ fnd m l ∧ Below w.heap.size w wr) (fun v _ => l.length - (intOf v).toNat)
  case atStart => exact ⟨0, rfl, Nat.zero_le _, Below.refl _ _⟩
  case round =>
    obtain ⟨k, rfl, hk, hB⟩ := hrel
    by_cases hlt : k < l.length
    · have g1 : decide ((k : Int) < (l.length : Int)) = true := by simp [hlt]
      have W1 : IntKind.i64.wrap ((k : Int) + 1) = ((k + 1 : Nat) : Int) := by rw [IntWalk.i64_in _ (by omega)]; omega
      have q1 : (0 : Int) ≤ (k : Int) := by omega
      have q2 : (k : Int) < (l.length : Int) := by omega
      obtain ⟨a, rfl, c0, c1, c2, c3, c4⟩ := (hS.on hB).at_ k hlt
      have hf := clo66 l[k] m c wr (cell_later hB hc)
      rw [vcs] at hf
      by_cases he : k = fnd m l
      · have hx : (l[k].mark.toList == m.toList) = true := by subst he; exact HA.out hlt
        have hlt2 : fnd m l < l.length := by omega
        have HR : Hid (R = (k : Int)) := Lib.hid (by rw [HR0.out, fndV, if_pos hlt2, he])
        rw [hx] at hf
        clear hx hlt2 he
        generalize l[k].mark = mk at *
        generalize l[k].size = sz at *
        generalize l[k].count = ct at *
        generalize l[k].code = cd at *
        generalize l[k].ds.length = dl at *
        generalize l[k].cap = dc at *
        generalize l[k].p = dp at *
        go_wp2_with (go_at_call 66; (with_reducible refine hf.mono ?_); rintro e1 w1 ⟨rfl, b1⟩)
        go_ret
        exact ⟨by rw [HR.out]; rfl, belows hB b1⟩
      · have hx : (l[k].mark.toList == m.toList) = false := HF.out k (by omega) hlt
        have hk2 : k + 1 ≤ fnd m l := by omega
        rw [hx] at hf
        clear hx he
        generalize l[k].mark = mk at *
        generalize l[k].size = sz at *
        generalize l[k].count = ct at *
        generalize l[k].code = cd at *
        generalize l[k].ds.length = dl at *
        generalize l[k].cap = dc at *
        generalize l[k].p = dp at *
        go_wp2_with (go_at_call 66; (with_reducible refine hf.mono ?_); rintro e1 w1 ⟨rfl, b1⟩)
        exact ⟨⟨k + 1, rfl, hk2, belows hB b1⟩, by simp [intOf]; omega⟩
    · have g1 : decide ((k : Int) < (l.length : Int)) = false := by simp; omega
      have HR : Hid (R = -1) := Lib.hid (by rw [HR0.out, fndV, if_neg (by omega)])
      go_wp2
      go_ret
      exact ⟨by rw [HR.out]; rfl, hB⟩
theorem indexOf_any (p : Option Addr) (l : List Bar) (cap : Nat) (m : ByteArray) (w : World) (hS : Slb w p l cap) :
    Calls Tryz.prog 38 #[.slice p l.length cap, .string m] w fun e w' => e = .returned (.int .i64 (fndV m l)) ∧ Below w.heap.size w w' := by
  have b1 := al1 w (.cells #[.string m] 9)
  have E := (Env.nil w).add w.heap.size 9 #[.string m] rfl
  have C := E.cells
  simp [BC, CF] at C
  have h65 := fun W (h : Below w.heap.size w W) hc => idx66 w.heap.size m p l cap W (hS.on h) hc
  generalize fndV m l = R at *
  go_enter Tryz.func38, Tryz.ntmps38
  go_wp2_with (go_at_call 65; (with_reducible refine (h65 _ (envb E) (hd1 E)).mono ?_); rintro e1 w1 ⟨rfl, hb⟩)
  go_ret
  exact ⟨rfl, belows E.1 hb⟩
def okAt (l : List Bar) (i : Nat) : Bool := match l[i]? with
  | some b => barB b && decide (fndV b.mark (l.take i) < 0)
  | none => true
def validL (l : List Bar) : Bool := decide (l.length ≤ 60) && (List.range l.length).all fun i => okAt l i
theorem okAt_eq {l : List Bar} {i : Nat} (h : i < l.length) : okAt l i = (barB l[i] && decide (fndV l[i].mark (l.take i) < 0)) := by
  unfold okAt
  rw [List.getElem?_eq_getElem h]
theorem s_b5 {w0 w : World} {l : List Fb} {h : Nat} {t : TypeId} {c0 c1 c2 c3 c4 : Value} (E : Env w0 w (⟨h, t, #[c0, c1, c2, c3, c4]⟩ :: l)) :
    Env w0 w (⟨h, t, #[c0, c1, c2, c3, c4]⟩ :: l) ∧ w.cell? ⟨h, 0, none⟩ = some c0 ∧ w.cell? ⟨h, 1, none⟩ = some c1 ∧ w.cell? ⟨h, 2, none⟩ = some c2 ∧ w.cell? ⟨h, 3, none⟩ = some c3 ∧ w.cell? ⟨h, 4, none⟩ = some c4 := by
  have C := E.cells
  simp [BC, CF] at C
  exact ⟨E, C.1.2.1.1, C.1.2.2.1.1, C.1.2.2.2.1.1, C.1.2.2.2.2.1.1, C.1.2.2.2.2.2.1⟩
set_option maxHeartbeats 4000000 in
set_option maxRecDepth 100000 in
theorem Valid_list (p : Option Addr) (l : List Bar) (cap : Nat) (w : World) (hS : Slb w p l cap) :
    Calls Tryz.prog 15 #[.slice p l.length cap] w fun e w' => e = .returned (.bool (validL l)) ∧ Below w.heap.size w w' := by
  by_cases hl : ¬ l.length ≤ 60
  · have hR : validL l = false := by simp [validL, hl]
    rw [hR]
    have g0 : decide ((l.length : Int) > 60) = true := by simp; omega
    clear hR hl
    go_enter Tryz.func15, Tryz.ntmps15
    go_wp2
    go_ret
    exact ⟨rfl, Below.refl _ _⟩
  rw [Decidable.not_not] at hl
  have g0 : decide ((l.length : Int) > 60) = false := by simp; omega
  have HV := Lib.hid (show validL l = (List.range l.length).all fun i => okAt l i by simp [validL, hl])
  have hc := hS.cp
  go_enter Tryz.func15, Tryz.ntmps15
  go_wp2
  go_loopw [10] (fun v wr => ∃ k : Nat, v = .int .i64 k ∧ k ≤ l.length ∧ Below w.heap.size w wr ∧ Hid (∀ i, i < k → okAt l i = true)) (fun v _ => l.length - (intOf v).toNat)
  case atStart => exact ⟨0, rfl, Nat.zero_le _, Below.refl _ _, Lib.hid (fun i h => absurd h (Nat.not_lt_zero i))⟩
  case round =>
    obtain ⟨k, rfl, hk, hB, HI⟩ := hrel
    by_cases hlt : k < l.length
    · have g1 : decide ((k : Int) < (l.length : Int)) = true := by simp [hlt]
      have W1 : IntKind.i64.wrap ((k : Int) + 1) = ((k + 1 : Nat) : Int) := by rw [IntWalk.i64_in _ (by omega)]; omega
      have q1 : (0 : Int) ≤ (k : Int) := by omega
      have q2 : (k : Int) < (l.length : Int) := by omega
      obtain ⟨a, rfl, c0, c1, c2, c3, c4⟩ := (hS.on hB).at_ k hlt
      have h40 := fun W (h : Below w.heap.size w W) => Valid_any l[k] W ((hS.ok _ (List.getElem_mem hlt)).on h)
      have h38 := fun W (h : Below w.heap.size w W) => indexOf_any (some a) (l.take k) cap l[k].mark W ((hS.on h).take k)
      have E := (Env.nil wr).add wr.heap.size 60 l[k].cs rfl
      have HO := Lib.hid (okAt_eq hlt)
      rw [bcs] at E
      rw [vcs] at h40
      rw [List.length_take_of_le hk] at h38
      have n1 : k ≤ cap := by omega
      have hA := Lib.hid hlt
      generalize l[k].mark = mk at *
      generalize l[k].size = sz at *
      generalize l[k].count = ct at *
      generalize l[k].code = cd at *
      generalize l[k].ds.length = dl at *
      generalize l[k].cap = dc at *
      generalize l[k].p = dp at *
      obtain ⟨tk, htk⟩ : ∃ tk, tk = l.take k := ⟨_, rfl⟩
      rw [← htk] at h38 HO
      clear htk
      generalize barB l[k] = vb at *
      generalize fndV mk tk = fv at *
      generalize hn : l.length = n at *
      cases vb
      · go_upto_region 6 with fail
        refine wp_region_plan 11 [(0, true), (1, false), (2, true), (3, true), (4, true), (5, true), (6, true), (7, true), (8, true), (9, false), (10, true)] (fun W' => Env wr W' [⟨wr.heap.size, 60, #[.string mk, .int .i64 sz, .int .i64 ct, .int .i64 cd, .slice dp dl dc]⟩] ∧ W'.cell? ⟨wr.heap.size, 0, none⟩ = some (.string mk) ∧ W'.cell? ⟨wr.heap.size, 1, none⟩ = some (.int .i64 sz) ∧ W'.cell? ⟨wr.heap.size, 2, none⟩ = some (.int .i64 ct) ∧ W'.cell? ⟨wr.heap.size, 3, none⟩ = some (.int .i64 cd) ∧ W'.cell? ⟨wr.heap.size, 4, none⟩ = some (.slice dp dl dc)) (by kernel_rfl) (by kernel_rfl) (fun _ _ d _ _ h => by cases d <;> exact h) (s_b5 E.drw) ?_
        simp only [List.filterMap_cons, List.filterMap_nil, List.getElem?_cons_zero, List.getElem?_cons_succ, Option.map_some, List.drop_succ_cons, List.drop_zero]
        replace E := E.drw
        iterate 1 (first | (refine wpPlan_still (v := ?_) (Or.inl ⟨by rfl, ?_⟩) ?_; rotate_left; (focus (intro W hW; (try dsimp only at hW); go_split_ands; go_simp; try with_reducible rfl)); try simp only [Act.put, List.setIfInBounds_toArray, List.set_cons_zero, List.set_cons_succ]) | (refine wpPlan_still (Or.inr ⟨by rfl, rfl⟩) ?_; try simp only [Act.put, List.setIfInBounds_toArray, List.set_cons_zero, List.set_cons_succ]))
        refine wpPlan_only (fun K hK => ?_)
        try go_simp
        (go_at_call 40; (with_reducible refine (h40 _ (envbb hB E)).mono ?_); rintro X wq ⟨rfl, hb⟩)
        replace E := E.on hb
        clear hb
        refine hK.out _ _ (s_b5 E) ?_
        clear hK K
        try simp only [Act.put, List.setIfInBounds_toArray, List.set_cons_zero, List.set_cons_succ]
        iterate 7 (first | (refine wpPlan_still (v := ?_) (Or.inl ⟨by rfl, ?_⟩) ?_; rotate_left; (focus (intro W hW; (try dsimp only at hW); go_split_ands; go_simp; try with_reducible rfl)); try simp only [Act.put, List.setIfInBounds_toArray, List.set_cons_zero, List.set_cons_succ]) | (refine wpPlan_still (Or.inr ⟨by rfl, rfl⟩) ?_; try simp only [Act.put, List.setIfInBounds_toArray, List.set_cons_zero, List.set_cons_succ]))
        refine wpPlan_only (fun K hK => ?_)
        rw [if_neg (by exact Bool.false_ne_true)]
        refine hK.out _ _ (s_b5 E) ?_
        clear hK K
        try simp only [Act.put, List.setIfInBounds_toArray, List.set_cons_zero, List.set_cons_succ]
        iterate 1 (first | (refine wpPlan_still (v := ?_) (Or.inl ⟨by rfl, ?_⟩) ?_; rotate_left; (focus (intro W hW; (try dsimp only at hW); go_split_ands; go_simp; try with_reducible rfl)); try simp only [Act.put, List.setIfInBounds_toArray, List.set_cons_zero, List.set_cons_succ]) | (refine wpPlan_still (Or.inr ⟨by rfl, rfl⟩) ?_; try simp only [Act.put, List.setIfInBounds_toArray, List.set_cons_zero, List.set_cons_succ]))
        refine wpPlan_end ?_
        replace C := E.cells
        simp [BC, CF] at C
        go_wp2
        go_ret
        refine ⟨?_, belows hB E.1⟩
        rw [HV.out, show (List.range n).all (fun i => okAt l i) = false from List.all_eq_false.2 ⟨k, List.mem_range.2 hlt, by rw [HO.out]; simp⟩]; rfl
      · cases hf : decide (fv < 0)
        · have g2 : decide (fv ≥ 0) = true := by simp at hf ⊢; omega
          go_upto_region 6 with fail
          refine wp_region_plan 11 [(0, true), (1, false), (2, true), (3, true), (4, true), (5, true), (6, true), (7, true), (8, true), (9, false), (10, true)] (fun W' => Env wr W' [⟨wr.heap.size, 60, #[.string mk, .int .i64 sz, .int .i64 ct, .int .i64 cd, .slice dp dl dc]⟩] ∧ W'.cell? ⟨wr.heap.size, 0, none⟩ = some (.string mk) ∧ W'.cell? ⟨wr.heap.size, 1, none⟩ = some (.int .i64 sz) ∧ W'.cell? ⟨wr.heap.size, 2, none⟩ = some (.int .i64 ct) ∧ W'.cell? ⟨wr.heap.size, 3, none⟩ = some (.int .i64 cd) ∧ W'.cell? ⟨wr.heap.size, 4, none⟩ = some (.slice dp dl dc)) (by kernel_rfl) (by kernel_rfl) (fun _ _ d _ _ h => by cases d <;> exact h) (s_b5 E.drw) ?_
          simp only [List.filterMap_cons, List.filterMap_nil, List.getElem?_cons_zero, List.getElem?_cons_succ, Option.map_some, List.drop_succ_cons, List.drop_zero]
          replace E := E.drw
          iterate 1 (first | (refine wpPlan_still (v := ?_) (Or.inl ⟨by rfl, ?_⟩) ?_; rotate_left; (focus (intro W hW; (try dsimp only at hW); go_split_ands; go_simp; try with_reducible rfl)); try simp only [Act.put, List.setIfInBounds_toArray, List.set_cons_zero, List.set_cons_succ]) | (refine wpPlan_still (Or.inr ⟨by rfl, rfl⟩) ?_; try simp only [Act.put, List.setIfInBounds_toArray, List.set_cons_zero, List.set_cons_succ]))
          refine wpPlan_only (fun K hK => ?_)
          try go_simp
          (go_at_call 40; (with_reducible refine (h40 _ (envbb hB E)).mono ?_); rintro X wq ⟨rfl, hb⟩)
          replace E := E.on hb
          clear hb
          refine hK.out _ _ (s_b5 E) ?_
          clear hK K
          try simp only [Act.put, List.setIfInBounds_toArray, List.set_cons_zero, List.set_cons_succ]
          iterate 7 (first | (refine wpPlan_still (v := ?_) (Or.inl ⟨by rfl, ?_⟩) ?_; rotate_left; (focus (intro W hW; (try dsimp only at hW); go_split_ands; go_simp; try with_reducible rfl)); try simp only [Act.put, List.setIfInBounds_toArray, List.set_cons_zero, List.set_cons_succ]) | (refine wpPlan_still (Or.inr ⟨by rfl, rfl⟩) ?_; try simp only [Act.put, List.setIfInBounds_toArray, List.set_cons_zero, List.set_cons_succ]))
          refine wpPlan_only (fun K hK => ?_)
          try go_simp
          (go_at_call 38; (with_reducible refine (h38 _ (envbb hB E)).mono ?_); rintro X wq ⟨rfl, hb⟩)
          replace E := E.on hb
          clear hb
          refine hK.out _ _ (s_b5 E) ?_
          clear hK K
          try simp only [Act.put, List.setIfInBounds_toArray, List.set_cons_zero, List.set_cons_succ]
          iterate 1 (first | (refine wpPlan_still (v := ?_) (Or.inl ⟨by rfl, ?_⟩) ?_; rotate_left; (focus (intro W hW; (try dsimp only at hW); go_split_ands; go_simp; try with_reducible rfl)); try simp only [Act.put, List.setIfInBounds_toArray, List.set_cons_zero, List.set_cons_succ]) | (refine wpPlan_still (Or.inr ⟨by rfl, rfl⟩) ?_; try simp only [Act.put, List.setIfInBounds_toArray, List.set_cons_zero, List.set_cons_succ]))
          refine wpPlan_end ?_
          replace C := E.cells
          simp [BC, CF] at C
          go_wp2
          go_ret
          refine ⟨?_, belows hB E.1⟩
          rw [HV.out, show (List.range n).all (fun i => okAt l i) = false from List.all_eq_false.2 ⟨k, List.mem_range.2 hlt, by rw [HO.out, hf]; simp⟩]; rfl
        · have g2 : decide (fv ≥ 0) = false := by simp at hf ⊢; omega
          go_upto_region 6 with fail
          refine wp_region_plan 11 [(0, true), (1, false), (2, true), (3, true), (4, true), (5, true), (6, true), (7, true), (8, true), (9, false), (10, true)] (fun W' => Env wr W' [⟨wr.heap.size, 60, #[.string mk, .int .i64 sz, .int .i64 ct, .int .i64 cd, .slice dp dl dc]⟩] ∧ W'.cell? ⟨wr.heap.size, 0, none⟩ = some (.string mk) ∧ W'.cell? ⟨wr.heap.size, 1, none⟩ = some (.int .i64 sz) ∧ W'.cell? ⟨wr.heap.size, 2, none⟩ = some (.int .i64 ct) ∧ W'.cell? ⟨wr.heap.size, 3, none⟩ = some (.int .i64 cd) ∧ W'.cell? ⟨wr.heap.size, 4, none⟩ = some (.slice dp dl dc)) (by kernel_rfl) (by kernel_rfl) (fun _ _ d _ _ h => by cases d <;> exact h) (s_b5 E.drw) ?_
          simp only [List.filterMap_cons, List.filterMap_nil, List.getElem?_cons_zero, List.getElem?_cons_succ, Option.map_some, List.drop_succ_cons, List.drop_zero]
          replace E := E.drw
          iterate 1 (first | (refine wpPlan_still (v := ?_) (Or.inl ⟨by rfl, ?_⟩) ?_; rotate_left; (focus (intro W hW; (try dsimp only at hW); go_split_ands; go_simp; try with_reducible rfl)); try simp only [Act.put, List.setIfInBounds_toArray, List.set_cons_zero, List.set_cons_succ]) | (refine wpPlan_still (Or.inr ⟨by rfl, rfl⟩) ?_; try simp only [Act.put, List.setIfInBounds_toArray, List.set_cons_zero, List.set_cons_succ]))
          refine wpPlan_only (fun K hK => ?_)
          try go_simp
          (go_at_call 40; (with_reducible refine (h40 _ (envbb hB E)).mono ?_); rintro X wq ⟨rfl, hb⟩)
          replace E := E.on hb
          clear hb
          refine hK.out _ _ (s_b5 E) ?_
          clear hK K
          try simp only [Act.put, List.setIfInBounds_toArray, List.set_cons_zero, List.set_cons_succ]
          iterate 7 (first | (refine wpPlan_still (v := ?_) (Or.inl ⟨by rfl, ?_⟩) ?_; rotate_left; (focus (intro W hW; (try dsimp only at hW); go_split_ands; go_simp; try with_reducible rfl)); try simp only [Act.put, List.setIfInBounds_toArray, List.set_cons_zero, List.set_cons_succ]) | (refine wpPlan_still (Or.inr ⟨by rfl, rfl⟩) ?_; try simp only [Act.put, List.setIfInBounds_toArray, List.set_cons_zero, List.set_cons_succ]))
          refine wpPlan_only (fun K hK => ?_)
          try go_simp
          (go_at_call 38; (with_reducible refine (h38 _ (envbb hB E)).mono ?_); rintro X wq ⟨rfl, hb⟩)
          replace E := E.on hb
          clear hb
          refine hK.out _ _ (s_b5 E) ?_
          clear hK K
          try simp only [Act.put, List.setIfInBounds_toArray, List.set_cons_zero, List.set_cons_succ]
          iterate 1 (first | (refine wpPlan_still (v := ?_) (Or.inl ⟨by rfl, ?_⟩) ?_; rotate_left; (focus (intro W hW; (try dsimp only at hW); go_split_ands; go_simp; try with_reducible rfl)); try simp only [Act.put, List.setIfInBounds_toArray, List.set_cons_zero, List.set_cons_succ]) | (refine wpPlan_still (Or.inr ⟨by rfl, rfl⟩) ?_; try simp only [Act.put, List.setIfInBounds_toArray, List.set_cons_zero, List.set_cons_succ]))
          refine wpPlan_end ?_
          replace C := E.cells
          simp [BC, CF] at C
          go_wp2
          refine ⟨⟨k + 1, rfl, hlt, belows hB E.1, Lib.hid fun i hi => ?_⟩, by simp [intOf]; omega⟩
          rcases Nat.lt_or_ge i k with h | h
          · exact HI.out i h
          · obtain rfl : i = k := by omega
            rw [HO.out, hf]; rfl
    · have g1 : decide ((k : Int) < (l.length : Int)) = false := by simp; omega
      go_wp2
      go_ret
      refine ⟨?_, hB⟩
      rw [HV.out, show (List.range l.length).all (fun i => okAt l i) = true from List.all_eq_true.2 fun i hi => HI.out i (by have := List.mem_range.1 hi; omega)]; rfl
end Go.Proofs.YthdafpbmmfelpaaGreatDoor
