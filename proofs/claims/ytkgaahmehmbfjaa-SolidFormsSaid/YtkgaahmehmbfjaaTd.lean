/- cuts: the places of all sides of boxes and holes along an axis. -/
import Derived.Test.YtkgaahmehmbfjaaTc
import Derived.Test.YtkgaahmehmbfjaaZ2
namespace Go.Proofs.Ytkgaahmehmbfjaa
open Go.ChangeShapes Go.WideShapes Go.ChangeAt Go.RowKit
set_option linter.unusedVariables false
set_option linter.unusedSimpArgs false

/-- The ends of all boxes along an axis. -/
def pls (l : List Bx) (ax : Nat) : List Int := l.flatMap fun x => [pk x.a x.b x.c ax, pk x.d x.e x.f ax]
theorem pls_take {l : List Bx} {ax k : Nat} (h : k < l.length) : pls (l.take (k + 1)) ax = pls (l.take k) ax ++ [pk l[k].a l[k].b l[k].c ax, pk l[k].d l[k].e l[k].f ax] := by
  unfold pls
  rw [List.take_succ_eq_append_getElem h, List.flatMap_append]; simp
theorem pls_len (l : List Bx) (ax : Nat) : (pls l ax).length = 2 * l.length := by
  induction l with
  | nil => rfl
  | cons x l ih => unfold pls at *; rw [List.flatMap_cons, List.length_append, ih]; simp; omega
/-- The places along an axis. -/
def places (l h : List Bx) (ax : Nat) : List Int := srt (pls l ax ++ pls h ax)
theorem ix155 (p q : Option Addr) (m n c d : Nat) (w : World) : Sem.run Try.prog (Instr.index 155 (.agg #[.slice p m c, .slice q n d]) (.int .i64 0)) w = .ok (.slice p m c) w := by
  simp [Instr.index, go_sem, Try.underlying155]
theorem ix155b (p q : Option Addr) (m n c d : Nat) (w : World) : Sem.run Try.prog (Instr.index 155 (.agg #[.slice p m c, .slice q n d]) (.int .i64 1)) w = .ok (.slice q n d) w := by
  simp [Instr.index, go_sem, Try.underlying155]
theorem zv_two (E : List Int) (a b : Int) : zv (E ++ [a, b]) = zv E ++ [.int .i64 a, .int .i64 b] := by simp [zv]
theorem box_cells {w W : World} {g : Nat} {a b c d e f : Int} (E : Env w W [⟨g, 30, #[.int .i64 a, .int .i64 b, .int .i64 c, .int .i64 d, .int .i64 e, .int .i64 f]⟩]) : Env w W [⟨g, 30, #[.int .i64 a, .int .i64 b, .int .i64 c, .int .i64 d, .int .i64 e, .int .i64 f]⟩] ∧ W.cell? ⟨g, 0, none⟩ = some (.int .i64 a) ∧ W.cell? ⟨g, 1, none⟩ = some (.int .i64 b) ∧ W.cell? ⟨g, 2, none⟩ = some (.int .i64 c) ∧ W.cell? ⟨g, 3, none⟩ = some (.int .i64 d) ∧ W.cell? ⟨g, 4, none⟩ = some (.int .i64 e) ∧ W.cell? ⟨g, 5, none⟩ = some (.int .i64 f) := by
  have C := E.cells
  simp [BC, CF] at C
  exact ⟨E, C.2.1.1, C.2.2.1.1, C.2.2.2.1.1, C.2.2.2.2.1.1, C.2.2.2.2.2.1.1, C.2.2.2.2.2.2.1⟩
/-- What the rounds over the two lists have laid so far. -/
def plI (l h : List Bx) (ax : Nat) : Nat → List Int
  | 0 => []
  | 1 => pls l ax
  | _ => pls l ax ++ pls h ax
set_option maxHeartbeats 8000000 in
set_option maxRecDepth 100000 in
theorem cuts_any (p q : Option Addr) (l h : List Bx) (c d ax : Nat) (w : World) (hS : Sl w p l) (hT : Sl w q h) (hl : l.length ≤ 20) (hl1 : 1 ≤ l.length) (hh : h.length ≤ 20) (hax : ax < 3) :
    Calls Try.prog 103 #[sv p q l h c d, .int .i64 (ax : Int)] w fun e w' => ∃ u, e = .returned u ∧ OwnZ w.heap.size w' u (places l h ax) ∧ Below w.heap.size w w' := by
  have hco := fun a b c W => co_any a b c W
  have hix := fun a b c W => ix92 a b c hax W
  obtain ⟨i0, hinf, hz0, hz1, hz2⟩ := info_parts info3
  have E := (Env.nil w).add w.heap.size 24 #[.slice p l.length c, .slice q h.length d] rfl
  have C := E.cells
  simp [BC, CF] at C
  have hB := E.1
  have hO : OwnZ w.heap.size (w.alloc (.cells #[.slice p l.length c, .slice q h.length d] 24)) (.slice none 0 0) (plI l h ax 0) := ⟨by simp [zv, plI], .inl ⟨rfl, rfl⟩⟩
  clear E
  go_enter Try.func103, Try.ntmps103
  go_wp2
  go_loopw [5, 15] (fun v5 v15 wr => ∃ i : Nat, v15 = .int .i64 i ∧ i ≤ 2 ∧ OwnZ w.heap.size wr v5 (plI l h ax i) ∧ Below w.heap.size w wr) (fun _ v _ => 2 - (intOf v).toNat)
  case atStart => exact ⟨0, rfl, by omega, hO, hB⟩
  case round =>
  clear hO hB C
  obtain ⟨i, rfl, hi, hO, hB⟩ := hrel
  rcases (by omega : i = 0 ∨ i = 1 ∨ i = 2) with rfl | rfl | rfl
  · have ix := fun W => ix155 p q l.length h.length c d W
    go_upto_region 6 with fail
    simp only [plI] at hO
    go_loopw [5, 20] (fun v5 v20 wr => ∃ k : Nat, v20 = .int .i64 k ∧ k ≤ l.length ∧ OwnZ w.heap.size wr v5 ([] ++ pls (l.take k) ax) ∧ Below w.heap.size w wr) (fun _ v _ => l.length - (intOf v).toNat)
    case atStart => exact ⟨0, rfl, Nat.zero_le _, by rw [show [] ++ pls (l.take 0) ax = [] by simp [pls]]; exact hO, hB⟩
    case round =>
      clear hO hB
      obtain ⟨k, rfl, hk, hO, hB⟩ := hrel
      by_cases hlt : k < l.length
      · have g1 : decide ((k : Int) < (l.length : Int)) = true := by simp [hlt]
        obtain ⟨a, rfl, c0, c1, c2, c3, c4, c5⟩ := (hS.on hB).at hlt
        have W1 : IntKind.i64.wrap ((k : Int) + 1) = ((k + 1 : Nat) : Int) := by rw [IntWalk.i64_in _ (by omega)]; omega
        have E := (Env.nil wr).add wr.heap.size 30 #[.int .i64 l[k].a, .int .i64 l[k].b, .int .i64 l[k].c, .int .i64 l[k].d, .int .i64 l[k].e, .int .i64 l[k].f] rfl
        have ix1 := fun W => hix l[k].a l[k].b l[k].c W
        have ix2 := fun W => hix l[k].d l[k].e l[k].f W
        have ep : [] ++ pls (l.take (k + 1)) ax = ([] ++ pls (l.take k) ax) ++ [pk l[k].a l[k].b l[k].c ax, pk l[k].d l[k].e l[k].f ax] := by rw [pls_take hlt, List.append_assoc]
        have hel : ([] ++ pls (l.take k) ax).length ≤ 80 := by simp [pls_len]; omega
        generalize [] ++ pls (l.take k) ax = E0 at *
        generalize pk l[k].a l[k].b l[k].c ax = y1 at *
        generalize pk l[k].d l[k].e l[k].f ax = y2 at *
        clear hix
        go_upto_region 8 with fail
        clear c0 c1 c2 c3 c4 c5
        refine wp_region_plan 12 [(0, true), (1, true), (2, true), (4, true), (6, true), (7, true), (9, true), (3, false), (5, true), (8, false), (10, true), (11, false)] (fun W' => Env wr W' [⟨wr.heap.size, 30, #[.int .i64 l[k].a, .int .i64 l[k].b, .int .i64 l[k].c, .int .i64 l[k].d, .int .i64 l[k].e, .int .i64 l[k].f]⟩] ∧ W'.cell? ⟨wr.heap.size, 0, none⟩ = some (.int .i64 l[k].a) ∧ W'.cell? ⟨wr.heap.size, 1, none⟩ = some (.int .i64 l[k].b) ∧ W'.cell? ⟨wr.heap.size, 2, none⟩ = some (.int .i64 l[k].c) ∧ W'.cell? ⟨wr.heap.size, 3, none⟩ = some (.int .i64 l[k].d) ∧ W'.cell? ⟨wr.heap.size, 4, none⟩ = some (.int .i64 l[k].e) ∧ W'.cell? ⟨wr.heap.size, 5, none⟩ = some (.int .i64 l[k].f)) (by kernel_rfl) (by kernel_rfl) (fun _ _ d _ _ h => by cases d <;> exact h) (box_cells E.drw) ?_
        replace E := E.drw
        simp only [List.filterMap_cons, List.filterMap_nil, List.getElem?_cons_zero, List.getElem?_cons_succ, Option.map_some, List.drop_succ_cons, List.drop_zero]
        iterate 7 (first | (refine wpPlan_still (v := ?_) (Or.inl ⟨by rfl, ?_⟩) ?_; rotate_left; (focus (intro W hW; (try dsimp only at hW); go_split_ands; go_simp; try with_reducible rfl)); try simp only [Act.put, List.setIfInBounds_toArray, List.set_cons_zero, List.set_cons_succ]) | (refine wpPlan_still (Or.inr ⟨by rfl, rfl⟩) ?_; try simp only [Act.put, List.setIfInBounds_toArray, List.set_cons_zero, List.set_cons_succ]))
        refine wpPlan_only (fun K hK => ?_)
        try go_simp
        (go_at_call 118; (with_reducible refine (hco l[k].a l[k].b l[k].c _).mono ?_); rintro X wq ⟨rfl, hb⟩)
        replace E := E.on hb
        clear hb
        refine hK.out _ _ (box_cells E) ?_
        clear hK K
        try simp only [Act.put, List.setIfInBounds_toArray, List.set_cons_zero, List.set_cons_succ]
        iterate 1 (first | (refine wpPlan_still (v := ?_) (Or.inl ⟨by rfl, ?_⟩) ?_; rotate_left; (focus (intro W hW; (try dsimp only at hW); go_split_ands; go_simp; try with_reducible rfl)); try simp only [Act.put, List.setIfInBounds_toArray, List.set_cons_zero, List.set_cons_succ]) | (refine wpPlan_still (Or.inr ⟨by rfl, rfl⟩) ?_; try simp only [Act.put, List.setIfInBounds_toArray, List.set_cons_zero, List.set_cons_succ]))
        refine wpPlan_only (fun K hK => ?_)
        try go_simp
        (go_at_call 118; (with_reducible refine (hco l[k].d l[k].e l[k].f _).mono ?_); rintro X wq ⟨rfl, hb⟩)
        replace E := E.on hb
        clear hb
        refine hK.out _ _ (box_cells E) ?_
        clear hK K
        try simp only [Act.put, List.setIfInBounds_toArray, List.set_cons_zero, List.set_cons_succ]
        iterate 1 (first | (refine wpPlan_still (v := ?_) (Or.inl ⟨by rfl, ?_⟩) ?_; rotate_left; (focus (intro W hW; (try dsimp only at hW); go_split_ands; go_simp; try with_reducible rfl)); try simp only [Act.put, List.setIfInBounds_toArray, List.set_cons_zero, List.set_cons_succ]) | (refine wpPlan_still (Or.inr ⟨by rfl, rfl⟩) ?_; try simp only [Act.put, List.setIfInBounds_toArray, List.set_cons_zero, List.set_cons_succ]))
        refine wpPlan_only (fun K hK => ?_)
        try go_simp
        refine hK.out _ _ (box_cells (E.more _)) ?_
        clear hK K
        try simp only [Act.put, List.setIfInBounds_toArray, List.set_cons_zero, List.set_cons_succ]
        refine wpPlan_end ?_
        have hO3 : OwnZ w.heap.size wq u5 E0 := own_on hO E.1
        go_wp2_with (at_builtin; refine wpList_append_own_at _ rfl _ _ 57 rfl w.heap.size 3 i0 _ 1 8 Try.underlying57 hinf hz0 hz1 hz2 rfl (by decide) _ E0.length (zv E0) rfl (own_on hO3 (al1 _ _)) ⟨_, 0, none⟩ 2 2 [.int .i64 y1, .int .i64 y2] rfl rfl (World.news_of_block (cs := #[.int .i64 y1, .int .i64 y2]) (t := 3) (fr := (0, 0)) (heap_alloc_new wq _)) (by simp [Value.oneCell']) (by unfold maxLen; omega) (by omega) (Nat.le_trans (Nat.le_trans hB.size E.1.size) (al1 _ _).size) ?_)
        intro v' w3 o1 o2 o3 o4
        have ob := al1 wq (.cells #[.int .i64 y1, .int .i64 y2] 3)
        have O4 : OwnZ w.heap.size w3 v' (E0 ++ [y1, y2]) := by
          unfold OwnZ
          rw [List.length_append, zv_two]
          exact o1
        rw [← ep] at O4
        have hB4 : Below w.heap.size w w3 := ((hB.trans (E.1.mono hB.size)).trans (ob.mono (Nat.le_trans hB.size E.1.size))).grown o2 (Nat.le_trans (Nat.le_trans hB.size E.1.size) ob.size) (fun j hj => (World.ownsRow.lt hO3 _ hj).1)
        clear o1 o2 o3 o4 ob hO hO3
        go_wp2
        go_roundw
        · exact ⟨_, _, _, _, _, _, _, _, _, _, _, _, _, _, _, _, _, _, _, _, ⟨k + 1, rfl, hlt, O4, hB4⟩, rfl⟩
        · simp [intOf]; omega
      · have g1 : decide ((k : Int) < (l.length : Int)) = false := by simp; omega
        rw [List.take_of_length_le (by omega)] at hO
        go_wp2
        exact ⟨⟨1, rfl, by omega, hO, hB⟩, by simp [intOf]⟩

  · have ix := fun W => ix155b p q l.length h.length c d W
    go_upto_region 6 with fail
    simp only [plI] at hO
    go_loopw [5, 20] (fun v5 v20 wr => ∃ k : Nat, v20 = .int .i64 k ∧ k ≤ h.length ∧ OwnZ w.heap.size wr v5 (pls l ax ++ pls (h.take k) ax) ∧ Below w.heap.size w wr) (fun _ v _ => h.length - (intOf v).toNat)
    case atStart => exact ⟨0, rfl, Nat.zero_le _, by rw [show pls l ax ++ pls (h.take 0) ax = pls l ax by simp [pls]]; exact hO, hB⟩
    case round =>
      clear hO hB
      obtain ⟨k, rfl, hk, hO, hB⟩ := hrel
      by_cases hlt : k < h.length
      · have g1 : decide ((k : Int) < (h.length : Int)) = true := by simp [hlt]
        obtain ⟨a, rfl, c0, c1, c2, c3, c4, c5⟩ := (hT.on hB).at hlt
        have W1 : IntKind.i64.wrap ((k : Int) + 1) = ((k + 1 : Nat) : Int) := by rw [IntWalk.i64_in _ (by omega)]; omega
        have E := (Env.nil wr).add wr.heap.size 30 #[.int .i64 h[k].a, .int .i64 h[k].b, .int .i64 h[k].c, .int .i64 h[k].d, .int .i64 h[k].e, .int .i64 h[k].f] rfl
        have ix1 := fun W => hix h[k].a h[k].b h[k].c W
        have ix2 := fun W => hix h[k].d h[k].e h[k].f W
        have ep : pls l ax ++ pls (h.take (k + 1)) ax = (pls l ax ++ pls (h.take k) ax) ++ [pk h[k].a h[k].b h[k].c ax, pk h[k].d h[k].e h[k].f ax] := by rw [pls_take hlt, List.append_assoc]
        have hel : (pls l ax ++ pls (h.take k) ax).length ≤ 80 := by simp [pls_len]; omega
        generalize pls l ax ++ pls (h.take k) ax = E0 at *
        generalize pk h[k].a h[k].b h[k].c ax = y1 at *
        generalize pk h[k].d h[k].e h[k].f ax = y2 at *
        clear hix
        go_upto_region 8 with fail
        clear c0 c1 c2 c3 c4 c5
        refine wp_region_plan 12 [(0, true), (1, true), (2, true), (4, true), (6, true), (7, true), (9, true), (3, false), (5, true), (8, false), (10, true), (11, false)] (fun W' => Env wr W' [⟨wr.heap.size, 30, #[.int .i64 h[k].a, .int .i64 h[k].b, .int .i64 h[k].c, .int .i64 h[k].d, .int .i64 h[k].e, .int .i64 h[k].f]⟩] ∧ W'.cell? ⟨wr.heap.size, 0, none⟩ = some (.int .i64 h[k].a) ∧ W'.cell? ⟨wr.heap.size, 1, none⟩ = some (.int .i64 h[k].b) ∧ W'.cell? ⟨wr.heap.size, 2, none⟩ = some (.int .i64 h[k].c) ∧ W'.cell? ⟨wr.heap.size, 3, none⟩ = some (.int .i64 h[k].d) ∧ W'.cell? ⟨wr.heap.size, 4, none⟩ = some (.int .i64 h[k].e) ∧ W'.cell? ⟨wr.heap.size, 5, none⟩ = some (.int .i64 h[k].f)) (by kernel_rfl) (by kernel_rfl) (fun _ _ d _ _ h => by cases d <;> exact h) (box_cells E.drw) ?_
        replace E := E.drw
        simp only [List.filterMap_cons, List.filterMap_nil, List.getElem?_cons_zero, List.getElem?_cons_succ, Option.map_some, List.drop_succ_cons, List.drop_zero]
        iterate 7 (first | (refine wpPlan_still (v := ?_) (Or.inl ⟨by rfl, ?_⟩) ?_; rotate_left; (focus (intro W hW; (try dsimp only at hW); go_split_ands; go_simp; try with_reducible rfl)); try simp only [Act.put, List.setIfInBounds_toArray, List.set_cons_zero, List.set_cons_succ]) | (refine wpPlan_still (Or.inr ⟨by rfl, rfl⟩) ?_; try simp only [Act.put, List.setIfInBounds_toArray, List.set_cons_zero, List.set_cons_succ]))
        refine wpPlan_only (fun K hK => ?_)
        try go_simp
        (go_at_call 118; (with_reducible refine (hco h[k].a h[k].b h[k].c _).mono ?_); rintro X wq ⟨rfl, hb⟩)
        replace E := E.on hb
        clear hb
        refine hK.out _ _ (box_cells E) ?_
        clear hK K
        try simp only [Act.put, List.setIfInBounds_toArray, List.set_cons_zero, List.set_cons_succ]
        iterate 1 (first | (refine wpPlan_still (v := ?_) (Or.inl ⟨by rfl, ?_⟩) ?_; rotate_left; (focus (intro W hW; (try dsimp only at hW); go_split_ands; go_simp; try with_reducible rfl)); try simp only [Act.put, List.setIfInBounds_toArray, List.set_cons_zero, List.set_cons_succ]) | (refine wpPlan_still (Or.inr ⟨by rfl, rfl⟩) ?_; try simp only [Act.put, List.setIfInBounds_toArray, List.set_cons_zero, List.set_cons_succ]))
        refine wpPlan_only (fun K hK => ?_)
        try go_simp
        (go_at_call 118; (with_reducible refine (hco h[k].d h[k].e h[k].f _).mono ?_); rintro X wq ⟨rfl, hb⟩)
        replace E := E.on hb
        clear hb
        refine hK.out _ _ (box_cells E) ?_
        clear hK K
        try simp only [Act.put, List.setIfInBounds_toArray, List.set_cons_zero, List.set_cons_succ]
        iterate 1 (first | (refine wpPlan_still (v := ?_) (Or.inl ⟨by rfl, ?_⟩) ?_; rotate_left; (focus (intro W hW; (try dsimp only at hW); go_split_ands; go_simp; try with_reducible rfl)); try simp only [Act.put, List.setIfInBounds_toArray, List.set_cons_zero, List.set_cons_succ]) | (refine wpPlan_still (Or.inr ⟨by rfl, rfl⟩) ?_; try simp only [Act.put, List.setIfInBounds_toArray, List.set_cons_zero, List.set_cons_succ]))
        refine wpPlan_only (fun K hK => ?_)
        try go_simp
        refine hK.out _ _ (box_cells (E.more _)) ?_
        clear hK K
        try simp only [Act.put, List.setIfInBounds_toArray, List.set_cons_zero, List.set_cons_succ]
        refine wpPlan_end ?_
        have hO3 : OwnZ w.heap.size wq u5 E0 := own_on hO E.1
        go_wp2_with (at_builtin; refine wpList_append_own_at _ rfl _ _ 57 rfl w.heap.size 3 i0 _ 1 8 Try.underlying57 hinf hz0 hz1 hz2 rfl (by decide) _ E0.length (zv E0) rfl (own_on hO3 (al1 _ _)) ⟨_, 0, none⟩ 2 2 [.int .i64 y1, .int .i64 y2] rfl rfl (World.news_of_block (cs := #[.int .i64 y1, .int .i64 y2]) (t := 3) (fr := (0, 0)) (heap_alloc_new wq _)) (by simp [Value.oneCell']) (by unfold maxLen; omega) (by omega) (Nat.le_trans (Nat.le_trans hB.size E.1.size) (al1 _ _).size) ?_)
        intro v' w3 o1 o2 o3 o4
        have ob := al1 wq (.cells #[.int .i64 y1, .int .i64 y2] 3)
        have O4 : OwnZ w.heap.size w3 v' (E0 ++ [y1, y2]) := by
          unfold OwnZ
          rw [List.length_append, zv_two]
          exact o1
        rw [← ep] at O4
        have hB4 : Below w.heap.size w w3 := ((hB.trans (E.1.mono hB.size)).trans (ob.mono (Nat.le_trans hB.size E.1.size))).grown o2 (Nat.le_trans (Nat.le_trans hB.size E.1.size) ob.size) (fun j hj => (World.ownsRow.lt hO3 _ hj).1)
        clear o1 o2 o3 o4 ob hO hO3
        go_wp2
        go_roundw
        · exact ⟨_, _, _, _, _, _, _, _, _, _, _, _, _, _, _, _, _, _, _, _, ⟨k + 1, rfl, hlt, O4, hB4⟩, rfl⟩
        · simp [intOf]; omega
      · have g1 : decide ((k : Int) < (h.length : Int)) = false := by simp; omega
        rw [List.take_of_length_le (by omega)] at hO
        go_wp2
        exact ⟨⟨2, rfl, by omega, hO, hB⟩, by simp [intOf]⟩

  · have hlen : (pls l ax ++ pls h ax).length ≤ 80 ∧ 1 ≤ (pls l ax ++ pls h ax).length := by simp [pls_len]; omega
    simp only [plI] at hO
    have HP : Hid (places l h ax = Lib.compact ((pls l ax ++ pls h ax).mergeSort fun x y => decide (x ≤ y))) := Lib.hid rfl
    generalize pls l ax ++ pls h ax = E at *
    have hO' := hO
    obtain ⟨-, ⟨-, h2⟩ | ⟨G, cap, cur, rfl, hBg, -, hn1, hcap, -, -⟩⟩ := hO'
    · omega
    have hM : (E.mergeSort fun x y => decide (x ≤ y)).length = E.length := List.length_mergeSort ..
    have s1 := sortz_any w.heap.size G cap E wr hO (by omega) hn1
    have s2 := fun W h => compactz_any w.heap.size G cap (E.mergeSort fun x y => decide (x ≤ y)) W h (by rw [hM]; omega) (by rw [hM]; omega)
    rw [hM] at s2
    generalize (E.mergeSort fun x y => decide (x ≤ y)) = M at *
    go_wp2_with (first
      | (go_at_call 33; (with_reducible refine s1.mono ?_); rintro X w1 ⟨rfl, q1, b1⟩)
      | (go_at_call 34; (with_reducible refine (s2 _ q1).mono ?_); rintro X w2 ⟨rfl, q2, b2⟩))
    go_ret
    rw [HP.out]
    exact ⟨_, rfl, q2, (hB.trans b1).trans b2⟩
end Go.Proofs.Ytkgaahmehmbfjaa
