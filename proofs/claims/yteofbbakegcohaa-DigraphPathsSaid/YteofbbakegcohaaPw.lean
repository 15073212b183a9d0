/- For DigraphPaths: the closure that weighs a path. -/
import Derived.Test.YteofbbakegcohaaEi
import Derived.Test.YteofbbakegcohaaPl
namespace Go.Proofs.Yteofbbakegcohaa
open Go.ChangeShapes Go.WideShapes Go.ChangeAt Go.RowKit
set_option linter.unusedVariables false
set_option linter.unusedSimpArgs false

/-- Whether the node at i is one, has a weight, and an edge leads to it from the one before. -/
def okW (n : Int) (ws : List Int) (l : List (Int × Int)) (path : List Int) (i : Nat) : Bool :=
  decide (0 ≤ path.getD i 0) && decide (path.getD i 0 < n) && decide (path.getD i 0 < ws.length) && (decide (i = 0) || l.contains (path.getD (i - 1) 0, path.getD i 0))
def sumW (ws : List Int) (path : List Int) : Int := (path.map fun x => ws.getD x.toNat 0).sum
def wgv (n : Int) (ws : List Int) (l : List (Int × Int)) (path : List Int) : Value :=
  if (List.range path.length).all (okW n ws l path) = true then .tuple #[.int .i64 (sumW ws path), .bool true] else .tuple #[.int .i64 0, .bool false]
theorem sumW_next {ws path : List Int} {k : Nat} (hk : k < path.length) : sumW ws (path.take (k + 1)) = sumW ws (path.take k) + ws.getD path[k].toNat 0 := by
  unfold sumW
  rw [List.take_succ_eq_append_getElem hk, List.map_append, List.sum_append]
  simp
theorem wgv_stop {n : Int} {ws : List Int} {l : List (Int × Int)} {path : List Int} {k : Nat} (hk : k < path.length) (h : okW n ws l path k = false) : wgv n ws l path = .tuple #[.int .i64 0, .bool false] := by
  unfold wgv
  rw [if_neg]
  intro hh
  rw [List.all_eq_true] at hh
  rw [hh k (List.mem_range.2 hk)] at h
  cases h
theorem wgv_all {n : Int} {ws : List Int} {l : List (Int × Int)} {path : List Int} (h : ∀ j, j < path.length → okW n ws l path j = true) : wgv n ws l path = .tuple #[.int .i64 (sumW ws path), .bool true] := by
  unfold wgv
  rw [if_pos (List.all_eq_true.2 fun j hj => h j (List.mem_range.1 hj))]
theorem gdI {l : List Int} {k : Nat} (h : k < l.length) : l.getD k 0 = l[k] := by simp [List.getD, h]
set_option maxHeartbeats 32000000 in
set_option maxRecDepth 100000 in
theorem weigh_any (v : Value) (path : List Int) (g1 g2 g3 : Nat) (n : Int) (q2 : Option Addr) (ws : List Int) (c2 : Nat) (p : Option Addr) (l : List (Int × Int)) (cap : Nat) (w : World)
    (hR : Rdz w v path) (hl : path.length ≤ 1000) (h1 : w.cell? ⟨g1, 0, none⟩ = some (.int .i64 n)) (h2 : w.cell? ⟨g2, 0, none⟩ = some (.slice q2 ws.length c2)) (h3 : w.cell? ⟨g3, 0, none⟩ = some (.slice p l.length cap))
    (hW : Rdz w (.slice q2 ws.length c2) ws) (hwl : ws.length ≤ 1000) (hwb : ∀ x ∈ ws, 0 ≤ x ∧ x ≤ 1073741824) (hS : Sl w p l) :
    Calls Try.prog 23 #[v, .pointer (some ⟨g1, 0, none⟩), .pointer (some ⟨g2, 0, none⟩), .pointer (some ⟨g3, 0, none⟩)] w fun e w' => e = .returned (wgv n ws l path) ∧ Below w.heap.size w w' := by
  obtain ⟨R, HR⟩ : ∃ R, Hid (R = wgv n ws l path) := ⟨_, Lib.hid rfl⟩
  rw [← HR.out]
  obtain ⟨q, c, rfl, K0⟩ := hR
  obtain ⟨q2', c2', e2, K2⟩ := hW
  simp only [Value.slice.injEq] at e2
  obtain ⟨rfl, -, rfl⟩ := e2
  have K0 := Lib.hid K0
  have K2 := Lib.hid K2
  have HWB := Lib.hid hwb
  go_enter Try.func23, Try.ntmps23
  go_wp2_with fail
  go_loopw [7, 12] (fun v7 v12 wr => ∃ k : Nat, v12 = .int .i64 k ∧ v7 = .int .i64 (sumW ws (path.take k)) ∧ k ≤ path.length ∧ Hid (∀ j, j < k → okW n ws l path j = true) ∧ Hid (0 ≤ sumW ws (path.take k) ∧ sumW ws (path.take k) ≤ 1073741824 * (k : Int)) ∧ Below w.heap.size w wr) (fun _ v _ => path.length - (intOf v).toNat)
  case atStart => exact ⟨0, rfl, rfl, Nat.zero_le _, Lib.hid (fun j h => absurd h (Nat.not_lt_zero j)), Lib.hid (by simp [sumW]), Below.refl _ _⟩
  case round =>
    obtain ⟨k, rfl, rfl, hk, hG, hT, hB⟩ := hrel
    by_cases hlt : k < path.length
    · have gk : decide ((k : Int) < (path.length : Int)) = true := by simp [hlt]
      have Wk : IntKind.i64.wrap ((k : Int) + 1) = ((k + 1 : Nat) : Int) := by rw [IntWalk.i64_in _ (by omega)]; omega
      have s1 : (0 : Int) ≤ (k : Int) := by omega
      have s2 : (k : Int) < (path.length : Int) := by omega
      obtain ⟨a, rfl, d0⟩ := K0.out k hlt
      have dk := cell_later hB d0
      have b1 := cell_later hB h1
      have b2 := cell_later hB h2
      have b3 := cell_later hB h3
      have hSl := hS.on hB
      have HO : Hid (okW n ws l path k = (decide (0 ≤ path[k]) && decide (path[k] < n) && decide (path[k] < ws.length) && (decide (k = 0) || l.contains (path.getD (k - 1) 0, path[k])))) := Lib.hid (by unfold okW; rw [gdI hlt])
      have HST := Lib.hid (fun h => wgv_stop (n := n) (ws := ws) (l := l) hlt h)
      have HNX : Hid (okW n ws l path k = true → ∀ j, j < k + 1 → okW n ws l path j = true) := Lib.hid fun h j hj => by
        rcases Nat.lt_or_ge j k with e | e
        · exact hG.out j e
        · rw [show j = k by omega]; exact h
      have HSN := Lib.hid (sumW_next (ws := ws) hlt)
      generalize path[k] = x at *
      by_cases x0 : x < 0
      · have z1 : decide (x < 0) = true := decide_eq_true x0
        have HE : Hid (R = .tuple #[.int .i64 0, .bool false]) := Lib.hid (by rw [HR.out]; exact HST.out (by rw [HO.out, decide_eq_false (show ¬ 0 ≤ x by omega)]; rfl))
        clear HO HST HNX HSN x0 hwb
        go_wp2_with fail
        replace b1 : wr.drew.cell? _ = _ := b1
        replace b2 : wr.drew.cell? _ = _ := b2
        replace b3 : wr.drew.cell? _ = _ := b3
        refine wp_region_plan 28 [(0, true), (1, true), (2, true), (3, true), (4, true), (5, true), (6, true), (7, true), (8, true), (9, true), (10, true), (11, true), (12, true), (13, true), (14, true), (15, true), (16, true), (17, true), (18, true), (19, true), (20, true), (21, true), (22, true), (23, true), (24, true), (25, false), (26, true), (27, true)] (fun W' => W'.cell? ⟨g1, 0, none⟩ = some (.int .i64 n) ∧ W'.cell? ⟨g2, 0, none⟩ = some (.slice q2 ws.length c2) ∧ W'.cell? ⟨g3, 0, none⟩ = some (.slice p l.length cap)) (by kernel_rfl) (by kernel_rfl) (fun _ _ d _ _ h => by cases d <;> exact h) ⟨b1, b2, b3⟩ ?_
        simp only [List.filterMap_cons, List.filterMap_nil, List.getElem?_cons_zero, List.getElem?_cons_succ, Option.map_some, List.drop_succ_cons, List.drop_zero]
        iterate 25 (first | (refine wpPlan_still (v := ?_) (Or.inl ⟨by rfl, ?_⟩) ?_; rotate_left; (focus (intro W hW; (try dsimp only at hW); go_split_ands; go_simp; try with_reducible rfl)); try simp only [Act.put, List.setIfInBounds_toArray, List.set_cons_zero, List.set_cons_succ]) | (refine wpPlan_still (Or.inr ⟨by rfl, rfl⟩) ?_; try simp only [Act.put, List.setIfInBounds_toArray, List.set_cons_zero, List.set_cons_succ]))
        refine wpPlan_only (fun K hK => ?_)
        try go_simp
        have HB2 := below_dr hB
        refine hK.out _ _ ⟨b1, b2, b3⟩ ?_
        clear hK K
        try simp only [Act.put, List.setIfInBounds_toArray, List.set_cons_zero, List.set_cons_succ]
        (first | (refine wpPlan_still (v := ?_) (Or.inl ⟨by rfl, ?_⟩) ?_; rotate_left; (focus (intro W hW; (try dsimp only at hW); go_split_ands; go_simp; try with_reducible rfl)); try simp only [Act.put, List.setIfInBounds_toArray, List.set_cons_zero, List.set_cons_succ]) | (refine wpPlan_still (Or.inr ⟨by rfl, rfl⟩) ?_; try simp only [Act.put, List.setIfInBounds_toArray, List.set_cons_zero, List.set_cons_succ]))
        (first | (refine wpPlan_still (v := ?_) (Or.inl ⟨by rfl, ?_⟩) ?_; rotate_left; (focus (intro W hW; (try dsimp only at hW); go_split_ands; go_simp; try with_reducible rfl)); try simp only [Act.put, List.setIfInBounds_toArray, List.set_cons_zero, List.set_cons_succ]) | (refine wpPlan_still (Or.inr ⟨by rfl, rfl⟩) ?_; try simp only [Act.put, List.setIfInBounds_toArray, List.set_cons_zero, List.set_cons_succ]))
        refine wpPlan_end ?_
        go_wp2_with fail
        exact bodyPost_ret (v := .tuple #[.int .i64 0, .bool false]) (by simp [results, Try.results23, go_sem]) rfl ⟨by rw [HE.out], HB2⟩
      · have z1 : decide (x < 0) = false := decide_eq_false x0
        by_cases xn : n ≤ x
        · have z2 : decide (x ≥ n) = true := decide_eq_true xn
          have HE : Hid (R = .tuple #[.int .i64 0, .bool false]) := Lib.hid (by rw [HR.out]; exact HST.out (by rw [HO.out, decide_eq_false (show ¬ x < n by omega)]; simp))
          clear HO HST HNX HSN xn x0 hwb
          go_wp2_with fail
          replace b1 : wr.drew.cell? _ = _ := b1
          replace b2 : wr.drew.cell? _ = _ := b2
          replace b3 : wr.drew.cell? _ = _ := b3
          refine wp_region_plan 28 [(0, true), (1, true), (2, true), (3, true), (4, true), (5, true), (6, true), (7, true), (8, true), (9, true), (10, true), (11, true), (12, true), (13, true), (14, true), (15, true), (16, true), (17, true), (18, true), (19, true), (20, true), (21, true), (22, true), (23, true), (24, true), (25, false), (26, true), (27, true)] (fun W' => W'.cell? ⟨g1, 0, none⟩ = some (.int .i64 n) ∧ W'.cell? ⟨g2, 0, none⟩ = some (.slice q2 ws.length c2) ∧ W'.cell? ⟨g3, 0, none⟩ = some (.slice p l.length cap)) (by kernel_rfl) (by kernel_rfl) (fun _ _ d _ _ h => by cases d <;> exact h) ⟨b1, b2, b3⟩ ?_
          simp only [List.filterMap_cons, List.filterMap_nil, List.getElem?_cons_zero, List.getElem?_cons_succ, Option.map_some, List.drop_succ_cons, List.drop_zero]
          iterate 25 (first | (refine wpPlan_still (v := ?_) (Or.inl ⟨by rfl, ?_⟩) ?_; rotate_left; (focus (intro W hW; (try dsimp only at hW); go_split_ands; go_simp; try with_reducible rfl)); try simp only [Act.put, List.setIfInBounds_toArray, List.set_cons_zero, List.set_cons_succ]) | (refine wpPlan_still (Or.inr ⟨by rfl, rfl⟩) ?_; try simp only [Act.put, List.setIfInBounds_toArray, List.set_cons_zero, List.set_cons_succ]))
          refine wpPlan_only (fun K hK => ?_)
          try go_simp
          have HB2 := below_dr hB
          refine hK.out _ _ ⟨b1, b2, b3⟩ ?_
          clear hK K
          try simp only [Act.put, List.setIfInBounds_toArray, List.set_cons_zero, List.set_cons_succ]
          (first | (refine wpPlan_still (v := ?_) (Or.inl ⟨by rfl, ?_⟩) ?_; rotate_left; (focus (intro W hW; (try dsimp only at hW); go_split_ands; go_simp; try with_reducible rfl)); try simp only [Act.put, List.setIfInBounds_toArray, List.set_cons_zero, List.set_cons_succ]) | (refine wpPlan_still (Or.inr ⟨by rfl, rfl⟩) ?_; try simp only [Act.put, List.setIfInBounds_toArray, List.set_cons_zero, List.set_cons_succ]))
          (first | (refine wpPlan_still (v := ?_) (Or.inl ⟨by rfl, ?_⟩) ?_; rotate_left; (focus (intro W hW; (try dsimp only at hW); go_split_ands; go_simp; try with_reducible rfl)); try simp only [Act.put, List.setIfInBounds_toArray, List.set_cons_zero, List.set_cons_succ]) | (refine wpPlan_still (Or.inr ⟨by rfl, rfl⟩) ?_; try simp only [Act.put, List.setIfInBounds_toArray, List.set_cons_zero, List.set_cons_succ]))
          refine wpPlan_end ?_
          go_wp2_with fail
          exact bodyPost_ret (v := .tuple #[.int .i64 0, .bool false]) (by simp [results, Try.results23, go_sem]) rfl ⟨by rw [HE.out], HB2⟩
        · have z2 : decide (x ≥ n) = false := decide_eq_false xn
          by_cases xw : (ws.length : Int) ≤ x
          · have z3 : decide (x ≥ (ws.length : Int)) = true := decide_eq_true xw
            have HE : Hid (R = .tuple #[.int .i64 0, .bool false]) := Lib.hid (by rw [HR.out]; exact HST.out (by rw [HO.out, decide_eq_false (show ¬ x < (ws.length : Int) by omega)]; simp))
            clear HO HST HNX HSN xn x0 xw hwb
            go_wp2_with fail
            replace b1 : wr.drew.cell? _ = _ := b1
            replace b2 : wr.drew.cell? _ = _ := b2
            replace b3 : wr.drew.cell? _ = _ := b3
            refine wp_region_plan 28 [(0, true), (1, true), (2, true), (3, true), (4, true), (5, true), (6, true), (7, true), (8, true), (9, true), (10, true), (11, true), (12, true), (13, true), (14, true), (15, true), (16, true), (17, true), (18, true), (19, true), (20, true), (21, true), (22, true), (23, true), (24, true), (25, false), (26, true), (27, true)] (fun W' => W'.cell? ⟨g1, 0, none⟩ = some (.int .i64 n) ∧ W'.cell? ⟨g2, 0, none⟩ = some (.slice q2 ws.length c2) ∧ W'.cell? ⟨g3, 0, none⟩ = some (.slice p l.length cap)) (by kernel_rfl) (by kernel_rfl) (fun _ _ d _ _ h => by cases d <;> exact h) ⟨b1, b2, b3⟩ ?_
            simp only [List.filterMap_cons, List.filterMap_nil, List.getElem?_cons_zero, List.getElem?_cons_succ, Option.map_some, List.drop_succ_cons, List.drop_zero]
            iterate 25 (first | (refine wpPlan_still (v := ?_) (Or.inl ⟨by rfl, ?_⟩) ?_; rotate_left; (focus (intro W hW; (try dsimp only at hW); go_split_ands; go_simp; try with_reducible rfl)); try simp only [Act.put, List.setIfInBounds_toArray, List.set_cons_zero, List.set_cons_succ]) | (refine wpPlan_still (Or.inr ⟨by rfl, rfl⟩) ?_; try simp only [Act.put, List.setIfInBounds_toArray, List.set_cons_zero, List.set_cons_succ]))
            refine wpPlan_only (fun K hK => ?_)
            try go_simp
            have HB2 := below_dr hB
            refine hK.out _ _ ⟨b1, b2, b3⟩ ?_
            clear hK K
            try simp only [Act.put, List.setIfInBounds_toArray, List.set_cons_zero, List.set_cons_succ]
            (first | (refine wpPlan_still (v := ?_) (Or.inl ⟨by rfl, ?_⟩) ?_; rotate_left; (focus (intro W hW; (try dsimp only at hW); go_split_ands; go_simp; try with_reducible rfl)); try simp only [Act.put, List.setIfInBounds_toArray, List.set_cons_zero, List.set_cons_succ]) | (refine wpPlan_still (Or.inr ⟨by rfl, rfl⟩) ?_; try simp only [Act.put, List.setIfInBounds_toArray, List.set_cons_zero, List.set_cons_succ]))
            (first | (refine wpPlan_still (v := ?_) (Or.inl ⟨by rfl, ?_⟩) ?_; rotate_left; (focus (intro W hW; (try dsimp only at hW); go_split_ands; go_simp; try with_reducible rfl)); try simp only [Act.put, List.setIfInBounds_toArray, List.set_cons_zero, List.set_cons_succ]) | (refine wpPlan_still (Or.inr ⟨by rfl, rfl⟩) ?_; try simp only [Act.put, List.setIfInBounds_toArray, List.set_cons_zero, List.set_cons_succ]))
            refine wpPlan_end ?_
            go_wp2_with fail
            exact bodyPost_ret (v := .tuple #[.int .i64 0, .bool false]) (by simp [results, Try.results23, go_sem]) rfl ⟨by rw [HE.out], HB2⟩
          · have z3 : decide (x ≥ (ws.length : Int)) = false := decide_eq_false xw
            have s3 : (0 : Int) ≤ x := by omega
            have s4 : x < (ws.length : Int) := by omega
            obtain ⟨wa, rfl, dw⟩ := K2.out x.toNat (by omega)
            have hwx := HWB.out _ (List.getElem_mem (show x.toNat < ws.length by omega))
            have HSN2 : Hid (sumW ws (path.take (k + 1)) = sumW ws (path.take k) + ws[x.toNat]'(by omega)) := Lib.hid (by rw [HSN.out]; congr 1; exact gdI (by omega))
            generalize ws[x.toNat]'(by omega) = z at *
            have hT1 := hT.out
            have W3 : IntKind.i64.wrap (sumW ws (path.take k) + z) = sumW ws (path.take (k + 1)) := by rw [HSN2.out, IntWalk.i64_in _ (by constructor <;> omega)]
            have HS : Hid (0 ≤ sumW ws (path.take (k + 1)) ∧ sumW ws (path.take (k + 1)) ≤ 1073741824 * ((k + 1 : Nat) : Int)) := Lib.hid (by rw [HSN2.out]; constructor <;> push_cast <;> omega)
            clear hT1 hwx HSN2 HSN
            by_cases k0 : k = 0
            · have z4 : decide (0 < k) = false := decide_eq_false (by omega)
              have HG := Lib.hid (HNX.out (by rw [HO.out, decide_eq_true s3, decide_eq_true (show x < n by omega), decide_eq_true s4, decide_eq_true k0]; rfl))
              clear HO HST HNX xn x0 xw hwb k0
              go_wp2_with fail
              replace b1 : wr.drew.cell? _ = _ := b1
              replace b2 : wr.drew.cell? _ = _ := b2
              replace b3 : wr.drew.cell? _ = _ := b3
              refine wp_region_plan 28 [(0, true), (1, true), (2, true), (3, true), (4, true), (5, true), (6, true), (7, true), (8, true), (9, true), (10, true), (11, true), (12, true), (13, true), (14, true), (15, true), (16, true), (17, true), (18, true), (19, true), (20, true), (21, true), (22, true), (23, true), (24, true), (25, false), (26, true), (27, true)] (fun W' => W'.cell? ⟨g1, 0, none⟩ = some (.int .i64 n) ∧ W'.cell? ⟨g2, 0, none⟩ = some (.slice (some wa) ws.length c2) ∧ W'.cell? ⟨g3, 0, none⟩ = some (.slice p l.length cap)) (by kernel_rfl) (by kernel_rfl) (fun _ _ d _ _ h => by cases d <;> exact h) ⟨b1, b2, b3⟩ ?_
              simp only [List.filterMap_cons, List.filterMap_nil, List.getElem?_cons_zero, List.getElem?_cons_succ, Option.map_some, List.drop_succ_cons, List.drop_zero]
              iterate 25 (first | (refine wpPlan_still (v := ?_) (Or.inl ⟨by rfl, ?_⟩) ?_; rotate_left; (focus (intro W hW; (try dsimp only at hW); go_split_ands; go_simp; try with_reducible rfl)); try simp only [Act.put, List.setIfInBounds_toArray, List.set_cons_zero, List.set_cons_succ]) | (refine wpPlan_still (Or.inr ⟨by rfl, rfl⟩) ?_; try simp only [Act.put, List.setIfInBounds_toArray, List.set_cons_zero, List.set_cons_succ]))
              refine wpPlan_only (fun K hK => ?_)
              try go_simp
              have HB2 := below_dr hB
              refine hK.out _ _ ⟨b1, b2, b3⟩ ?_
              clear hK K
              try simp only [Act.put, List.setIfInBounds_toArray, List.set_cons_zero, List.set_cons_succ]
              (first | (refine wpPlan_still (v := ?_) (Or.inl ⟨by rfl, ?_⟩) ?_; rotate_left; (focus (intro W hW; (try dsimp only at hW); go_split_ands; go_simp; try with_reducible rfl)); try simp only [Act.put, List.setIfInBounds_toArray, List.set_cons_zero, List.set_cons_succ]) | (refine wpPlan_still (Or.inr ⟨by rfl, rfl⟩) ?_; try simp only [Act.put, List.setIfInBounds_toArray, List.set_cons_zero, List.set_cons_succ]))
              (first | (refine wpPlan_still (v := ?_) (Or.inl ⟨by rfl, ?_⟩) ?_; rotate_left; (focus (intro W hW; (try dsimp only at hW); go_split_ands; go_simp; try with_reducible rfl)); try simp only [Act.put, List.setIfInBounds_toArray, List.set_cons_zero, List.set_cons_succ]) | (refine wpPlan_still (Or.inr ⟨by rfl, rfl⟩) ?_; try simp only [Act.put, List.setIfInBounds_toArray, List.set_cons_zero, List.set_cons_succ]))
              refine wpPlan_end ?_
              have dw2 := cell_later HB2 dw
              go_wp2_with fail
              exact ⟨⟨k + 1, rfl, rfl, hlt, HG, HS, HB2⟩, by simp [intOf]; omega⟩
            · obtain ⟨j, kj⟩ : ∃ j, k = j + 1 := ⟨k - 1, by omega⟩
              have z4 : decide (0 < k) = true := decide_eq_true (by omega)
              have W4 : IntKind.i64.wrap ((k : Int) - 1) = (j : Int) := by rw [IntWalk.i64_in _ (by omega)]; omega
              have s5 : (0 : Int) ≤ (j : Int) := by omega
              have s6 : (j : Int) < (path.length : Int) := by omega
              obtain ⟨a', e', dj0⟩ := K0.out j (by omega)
              cases e'
              have dj := cell_later hB dj0
              have HO : Hid (okW n ws l path k = l.contains (path[j]'(by omega), x)) := Lib.hid (by rw [HO.out, decide_eq_true s3, decide_eq_true (show x < n by omega), decide_eq_true s4, decide_eq_false (show ¬ k = 0 by omega), show k - 1 = j by omega, gdI (show j < path.length by omega)]; simp)
              generalize path[j]'(by omega) = y at *
              have hc := fun W h => pcon_any p l cap y x W h
              cases hcn : l.contains (y, x)
              · have HE : Hid (R = .tuple #[.int .i64 0, .bool false]) := Lib.hid (by rw [HR.out]; exact HST.out (by rw [HO.out]; exact hcn))
                simp only [hcn] at hc
                clear HO HST HNX xn x0 xw hwb k0 hcn kj
                go_wp2_with fail
                replace b1 : wr.drew.cell? _ = _ := b1
                replace b2 : wr.drew.cell? _ = _ := b2
                replace b3 : wr.drew.cell? _ = _ := b3
                replace dj : wr.drew.cell? _ = _ := dj
                replace dk : wr.drew.cell? _ = _ := dk
                refine wp_region_plan 28 [(0, true), (1, true), (2, true), (3, true), (4, true), (5, true), (6, true), (7, true), (8, true), (9, true), (10, true), (11, true), (12, true), (13, true), (14, true), (15, true), (16, true), (17, true), (18, true), (19, true), (20, true), (21, true), (22, true), (23, true), (24, true), (25, false), (26, true), (27, true)] (fun W' => W'.cell? ⟨g1, 0, none⟩ = some (.int .i64 n) ∧ W'.cell? ⟨g2, 0, none⟩ = some (.slice (some wa) ws.length c2) ∧ W'.cell? ⟨g3, 0, none⟩ = some (.slice p l.length cap) ∧ W'.cell? (a.add j) = some (.int .i64 y)) (by kernel_rfl) (by kernel_rfl) (fun _ _ d _ _ h => by cases d <;> exact h) ⟨b1, b2, b3, dj⟩ ?_
                simp only [List.filterMap_cons, List.filterMap_nil, List.getElem?_cons_zero, List.getElem?_cons_succ, Option.map_some, List.drop_succ_cons, List.drop_zero]
                iterate 25 (first | (refine wpPlan_still (v := ?_) (Or.inl ⟨by rfl, ?_⟩) ?_; rotate_left; (focus (intro W hW; (try dsimp only at hW); go_split_ands; go_simp; try with_reducible rfl)); try simp only [Act.put, List.setIfInBounds_toArray, List.set_cons_zero, List.set_cons_succ]) | (refine wpPlan_still (Or.inr ⟨by rfl, rfl⟩) ?_; try simp only [Act.put, List.setIfInBounds_toArray, List.set_cons_zero, List.set_cons_succ]))
                refine wpPlan_only (fun K hK => ?_)
                try go_simp
                (go_at_call 24; (with_reducible refine (hc _ (hSl.on (Below.drew (Below.refl _ _)))).mono ?_); rintro X w2 ⟨rfl, hb⟩)
                try go_wp2_with fail
                have HB2 := belows (below_dr hB) hb
                replace b1 := cell_later hb b1
                replace b2 := cell_later hb b2
                replace b3 := cell_later hb b3
                replace dj := cell_later hb dj
                replace dk := cell_later hb dk
                refine hK.out _ _ ⟨b1, b2, b3, dj⟩ ?_
                clear hK K
                try simp only [Act.put, List.setIfInBounds_toArray, List.set_cons_zero, List.set_cons_succ]
                (first | (refine wpPlan_still (v := ?_) (Or.inl ⟨by rfl, ?_⟩) ?_; rotate_left; (focus (intro W hW; (try dsimp only at hW); go_split_ands; go_simp; try with_reducible rfl)); try simp only [Act.put, List.setIfInBounds_toArray, List.set_cons_zero, List.set_cons_succ]) | (refine wpPlan_still (Or.inr ⟨by rfl, rfl⟩) ?_; try simp only [Act.put, List.setIfInBounds_toArray, List.set_cons_zero, List.set_cons_succ]))
                (first | (refine wpPlan_still (v := ?_) (Or.inl ⟨by rfl, ?_⟩) ?_; rotate_left; (focus (intro W hW; (try dsimp only at hW); go_split_ands; go_simp; try with_reducible rfl)); try simp only [Act.put, List.setIfInBounds_toArray, List.set_cons_zero, List.set_cons_succ]) | (refine wpPlan_still (Or.inr ⟨by rfl, rfl⟩) ?_; try simp only [Act.put, List.setIfInBounds_toArray, List.set_cons_zero, List.set_cons_succ]))
                refine wpPlan_end ?_
                go_wp2_with fail
                exact bodyPost_ret (v := .tuple #[.int .i64 0, .bool false]) (by simp [results, Try.results23, go_sem]) rfl ⟨by rw [HE.out], HB2⟩
              · have HG := Lib.hid (HNX.out (by rw [HO.out]; exact hcn))
                simp only [hcn] at hc
                clear HO HST HNX xn x0 xw hwb k0 hcn kj
                go_wp2_with fail
                replace b1 : wr.drew.cell? _ = _ := b1
                replace b2 : wr.drew.cell? _ = _ := b2
                replace b3 : wr.drew.cell? _ = _ := b3
                replace dj : wr.drew.cell? _ = _ := dj
                replace dk : wr.drew.cell? _ = _ := dk
                refine wp_region_plan 28 [(0, true), (1, true), (2, true), (3, true), (4, true), (5, true), (6, true), (7, true), (8, true), (9, true), (10, true), (11, true), (12, true), (13, true), (14, true), (15, true), (16, true), (17, true), (18, true), (19, true), (20, true), (21, true), (22, true), (23, true), (24, true), (25, false), (26, true), (27, true)] (fun W' => W'.cell? ⟨g1, 0, none⟩ = some (.int .i64 n) ∧ W'.cell? ⟨g2, 0, none⟩ = some (.slice (some wa) ws.length c2) ∧ W'.cell? ⟨g3, 0, none⟩ = some (.slice p l.length cap) ∧ W'.cell? (a.add j) = some (.int .i64 y)) (by kernel_rfl) (by kernel_rfl) (fun _ _ d _ _ h => by cases d <;> exact h) ⟨b1, b2, b3, dj⟩ ?_
                simp only [List.filterMap_cons, List.filterMap_nil, List.getElem?_cons_zero, List.getElem?_cons_succ, Option.map_some, List.drop_succ_cons, List.drop_zero]
                iterate 25 (first | (refine wpPlan_still (v := ?_) (Or.inl ⟨by rfl, ?_⟩) ?_; rotate_left; (focus (intro W hW; (try dsimp only at hW); go_split_ands; go_simp; try with_reducible rfl)); try simp only [Act.put, List.setIfInBounds_toArray, List.set_cons_zero, List.set_cons_succ]) | (refine wpPlan_still (Or.inr ⟨by rfl, rfl⟩) ?_; try simp only [Act.put, List.setIfInBounds_toArray, List.set_cons_zero, List.set_cons_succ]))
                refine wpPlan_only (fun K hK => ?_)
                try go_simp
                (go_at_call 24; (with_reducible refine (hc _ (hSl.on (Below.drew (Below.refl _ _)))).mono ?_); rintro X w2 ⟨rfl, hb⟩)
                try go_wp2_with fail
                have HB2 := belows (below_dr hB) hb
                replace b1 := cell_later hb b1
                replace b2 := cell_later hb b2
                replace b3 := cell_later hb b3
                replace dj := cell_later hb dj
                replace dk := cell_later hb dk
                refine hK.out _ _ ⟨b1, b2, b3, dj⟩ ?_
                clear hK K
                try simp only [Act.put, List.setIfInBounds_toArray, List.set_cons_zero, List.set_cons_succ]
                (first | (refine wpPlan_still (v := ?_) (Or.inl ⟨by rfl, ?_⟩) ?_; rotate_left; (focus (intro W hW; (try dsimp only at hW); go_split_ands; go_simp; try with_reducible rfl)); try simp only [Act.put, List.setIfInBounds_toArray, List.set_cons_zero, List.set_cons_succ]) | (refine wpPlan_still (Or.inr ⟨by rfl, rfl⟩) ?_; try simp only [Act.put, List.setIfInBounds_toArray, List.set_cons_zero, List.set_cons_succ]))
                (first | (refine wpPlan_still (v := ?_) (Or.inl ⟨by rfl, ?_⟩) ?_; rotate_left; (focus (intro W hW; (try dsimp only at hW); go_split_ands; go_simp; try with_reducible rfl)); try simp only [Act.put, List.setIfInBounds_toArray, List.set_cons_zero, List.set_cons_succ]) | (refine wpPlan_still (Or.inr ⟨by rfl, rfl⟩) ?_; try simp only [Act.put, List.setIfInBounds_toArray, List.set_cons_zero, List.set_cons_succ]))
                refine wpPlan_end ?_
                have dw2 := cell_later HB2 dw
                go_wp2_with fail
                exact ⟨⟨k + 1, rfl, rfl, hlt, HG, HS, HB2⟩, by simp [intOf]; omega⟩
    · have gk : decide ((k : Int) < (path.length : Int)) = false := by simp; omega
      have e : path.take k = path := List.take_of_length_le (by omega)
      rw [e]
      have HE : Hid (R = .tuple #[.int .i64 (sumW ws path), .bool true]) := Lib.hid (by rw [HR.out]; exact wgv_all fun j hj => hG.out j (by omega))
      go_wp2
      exact bodyPost_ret (v := .tuple #[.int .i64 (sumW ws path), .bool true]) (by simp [results, Try.results23, go_sem]) rfl ⟨by rw [HE.out], hB⟩
end Go.Proofs.Yteofbbakegcohaa
