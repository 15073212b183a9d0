/- The reference: Moves. -/
import Derived.Test.YthphgppgdlimeaaPx
import Derived.Deep.CutBlock
namespace Go.Proofs.Ythphgppgdlimeaa
open Go.ChangeShapes Go.WideShapes Go.ChangeAt Go.RowKit
set_option linter.unusedVariables false
set_option linter.unusedSimpArgs false

def movF (b : Bar) (k : Nat) : Pt := mv ⟨0, 0, 0⟩ (way b.code k) (legF b k)
def movesL (b : Bar) : List Pt := (List.range (nl b.code)).map (movF b)
theorem Has.newn {n : Nat} (w : World) (cs : Array Value) (h : w.heap.size = n) : Has (w.alloc (.cells cs 77)) n 77 cs := by
  subst h; exact Has.new_ _ _ _
theorem own_pts {w : World} {B g n : Nat} {cs : Array Value} {l : List Pt} (h : Has w g 77 cs) (e : cs.toList = l.flatMap pc) (hl : l.length = n) (hB : B ≤ g) (hn : n ≤ maxLen) : Own pc 77 3 B w (.slice (some ⟨g, 0, none⟩) n n) l := by
  subst hl
  have hs : cs.size = l.length * 3 := by
    rw [← Array.length_toList, e, flat_len pc 3 pl]
  have := own_lit (n := l.length) (s := 3) h hs hB hn
  unfold Own
  rw [← e]; exact this
set_option maxHeartbeats 8000000 in
set_option maxRecDepth 100000 in
theorem rmoves_0 (mk : ByteArray) (sz ct : Int) (p : Option Addr) (d0 : Int) (cap : Nat) (w : World) (hk : Bar.Ok ⟨mk, sz, ct, 0, p, [d0], cap⟩ w) (hv : barB ⟨mk, sz, ct, 0, p, [d0], cap⟩ = true) :
    Calls Try.prog 64 #[Bar.val ⟨mk, sz, ct, 0, p, [d0], cap⟩] w fun e w' => ∃ v, e = .returned v ∧ Own pc 77 3 w.heap.size w' v (movesL ⟨mk, sz, ct, 0, p, [d0], cap⟩) ∧ Below w.heap.size w w' := by
  have hm : movesL ⟨mk, sz, ct, 0, p, [d0], cap⟩ = [⟨0 + d0, 0, 0⟩] := by kernel_rfl
  have hm2 : movesL ⟨mk, sz, ct, 0, p, [d0], cap⟩ = [⟨d0, 0, 0⟩] := by rw [hm]; simp
  have hbd := fitB_mem _ _ (barB_and hv).2.2.1 (by omega)
  simp only [List.mem_cons, List.not_mem_nil, or_false, forall_eq_or_imp, forall_eq] at hbd
  obtain ⟨a, rfl, hd⟩ := rdz_fn hk.rd rfl (Nat.succ_pos _)
  have c0 := hd 0 (by simp)
  simp only [List.getElem_cons_zero, List.getElem_cons_succ] at c0
  have E := (Env.nil w).add w.heap.size 32 (Bar.cs ⟨mk, sz, ct, 0, some a, [d0], cap⟩) rfl
  clear hk hv hm hd
  rw [hm2]
  clear hm2
  simp only [Bar.val, Bar.cs, List.length_cons, List.length_nil, Nat.zero_add, Nat.reduceAdd] at E ⊢
  have C := E.cells
  simp [BC, CF] at C
  replace c0 := cellLater (envb E) c0
  have c0' := c0
  rw [show a.add 0 = a by simp [Addr.add]] at c0'
  go_enter Try.func64, Try.ntmps64
  go_wp2
  go_ret
  refine ⟨_, rfl, own_pts (Has.newn _ #[.int .i64 d0, .int .i64 0, .int .i64 0] (by simp)) (by simp [pc]) rfl (by omega) (by decide), envb (E.more _)⟩
set_option maxHeartbeats 8000000 in
set_option maxRecDepth 100000 in
theorem rmoves_11 (mk : ByteArray) (sz ct : Int) (p : Option Addr) (d0 d1 : Int) (cap : Nat) (w : World) (hk : Bar.Ok ⟨mk, sz, ct, 11, p, [d0, d1], cap⟩ w) (hv : barB ⟨mk, sz, ct, 11, p, [d0, d1], cap⟩ = true) :
    Calls Try.prog 64 #[Bar.val ⟨mk, sz, ct, 11, p, [d0, d1], cap⟩] w fun e w' => ∃ v, e = .returned v ∧ Own pc 77 3 w.heap.size w' v (movesL ⟨mk, sz, ct, 11, p, [d0, d1], cap⟩) ∧ Below w.heap.size w w' := by
  have hm : movesL ⟨mk, sz, ct, 11, p, [d0, d1], cap⟩ = [⟨0 + d0, 0, 0⟩, ⟨0, 0 + d1, 0⟩] := by kernel_rfl
  have hm2 : movesL ⟨mk, sz, ct, 11, p, [d0, d1], cap⟩ = [⟨d0, 0, 0⟩, ⟨0, d1, 0⟩] := by rw [hm]; simp
  have hbd := fitB_mem _ _ (barB_and hv).2.2.1 (by omega)
  simp only [List.mem_cons, List.not_mem_nil, or_false, forall_eq_or_imp, forall_eq] at hbd
  obtain ⟨a, rfl, hd⟩ := rdz_fn hk.rd rfl (Nat.succ_pos _)
  have c0 := hd 0 (by simp)
  have c1 := hd 1 (by simp)
  simp only [List.getElem_cons_zero, List.getElem_cons_succ] at c0 c1
  have E := (Env.nil w).add w.heap.size 32 (Bar.cs ⟨mk, sz, ct, 11, some a, [d0, d1], cap⟩) rfl
  clear hk hv hm hd
  rw [hm2]
  clear hm2
  simp only [Bar.val, Bar.cs, List.length_cons, List.length_nil, Nat.zero_add, Nat.reduceAdd] at E ⊢
  have C := E.cells
  simp [BC, CF] at C
  replace c0 := cellLater (envb E) c0
  replace c1 := cellLater (envb E) c1
  have c0' := c0
  rw [show a.add 0 = a by simp [Addr.add]] at c0'
  have c1' := c1
  rw [show a.add 1 = ⟨a.block, a.off + 1, none⟩ by simp [Addr.add]] at c1'
  go_enter Try.func64, Try.ntmps64
  go_upto_region 4 with fail
  refine wp_region_plan 9 [(0, true), (1, true), (2, true), (3, true), (4, true), (5, true), (6, true), (7, true), (8, false)] (fun W' => W'.cell? (a.add 0) = some (.int .i64 d0) ∧ W'.cell? a = some (.int .i64 d0) ∧ W'.cell? (a.add 1) = some (.int .i64 d1) ∧ W'.cell? ⟨a.block, a.off + 1, none⟩ = some (.int .i64 d1)) (by kernel_rfl) (by kernel_rfl) (fun _ _ d _ _ h => by cases d <;> exact h) ⟨c0, c0', c1, c1'⟩ ?_
  simp only [List.filterMap_cons, List.filterMap_nil, List.getElem?_cons_zero, List.getElem?_cons_succ, Option.map_some, List.drop_succ_cons, List.drop_zero]
  iterate 8 (first | (refine wpPlan_still (v := ?_) (Or.inl ⟨by rfl, ?_⟩) ?_; rotate_left; (focus (intro W hW; (try dsimp only at hW); go_split_ands; go_simp; try with_reducible rfl)); try simp only [Act.put, List.setIfInBounds_toArray, List.set_cons_zero, List.set_cons_succ]) | (refine wpPlan_still (Or.inr ⟨by rfl, rfl⟩) ?_; try simp only [Act.put, List.setIfInBounds_toArray, List.set_cons_zero, List.set_cons_succ]))
  refine wpPlan_only (fun K hK => ?_)
  try go_simp
  have b5 := below_dr (al1 (w.alloc (.cells #[.string mk, .int .i64 sz, .int .i64 ct, .int .i64 11, .slice (some a) 2 cap] 32)) (.cells #[.int .i64 d0, .int .i64 0, .int .i64 0, .int .i64 0, .int .i64 d1, .int .i64 0] 77))
  refine hK.out _ _ ⟨cellLater b5 c0, cellLater b5 c0', cellLater b5 c1, cellLater b5 c1'⟩ ?_
  clear hK K
  try simp only [Act.put, List.setIfInBounds_toArray, List.set_cons_zero, List.set_cons_succ]
  refine wpPlan_end ?_
  go_wp2_with fail
  go_ret
  refine ⟨_, rfl, own_pts (Has.drew_ (Has.newn _ #[.int .i64 d0, .int .i64 0, .int .i64 0, .int .i64 0, .int .i64 d1, .int .i64 0] (by simp))) (by simp [pc]) rfl (by omega) (by decide), envb (E.more _).drw⟩
set_option maxHeartbeats 8000000 in
set_option maxRecDepth 100000 in
theorem rmoves_21 (mk : ByteArray) (sz ct : Int) (p : Option Addr) (d0 d1 d2 : Int) (cap : Nat) (w : World) (hk : Bar.Ok ⟨mk, sz, ct, 21, p, [d0, d1, d2], cap⟩ w) (hv : barB ⟨mk, sz, ct, 21, p, [d0, d1, d2], cap⟩ = true) :
    Calls Try.prog 64 #[Bar.val ⟨mk, sz, ct, 21, p, [d0, d1, d2], cap⟩] w fun e w' => ∃ v, e = .returned v ∧ Own pc 77 3 w.heap.size w' v (movesL ⟨mk, sz, ct, 21, p, [d0, d1, d2], cap⟩) ∧ Below w.heap.size w w' := by
  have hm : movesL ⟨mk, sz, ct, 21, p, [d0, d1, d2], cap⟩ = [⟨0, 0 - d0, 0⟩, ⟨0 + d1, 0, 0⟩, ⟨0, 0 + d2, 0⟩] := by kernel_rfl
  have hm2 : movesL ⟨mk, sz, ct, 21, p, [d0, d1, d2], cap⟩ = [⟨0, -d0, 0⟩, ⟨d1, 0, 0⟩, ⟨0, d2, 0⟩] := by rw [hm]; simp
  have hbd := fitB_mem _ _ (barB_and hv).2.2.1 (by omega)
  simp only [List.mem_cons, List.not_mem_nil, or_false, forall_eq_or_imp, forall_eq] at hbd
  obtain ⟨a, rfl, hd⟩ := rdz_fn hk.rd rfl (Nat.succ_pos _)
  have c0 := hd 0 (by simp)
  have c1 := hd 1 (by simp)
  have c2 := hd 2 (by simp)
  simp only [List.getElem_cons_zero, List.getElem_cons_succ] at c0 c1 c2
  have E := (Env.nil w).add w.heap.size 32 (Bar.cs ⟨mk, sz, ct, 21, some a, [d0, d1, d2], cap⟩) rfl
  clear hk hv hm hd
  rw [hm2]
  clear hm2
  simp only [Bar.val, Bar.cs, List.length_cons, List.length_nil, Nat.zero_add, Nat.reduceAdd] at E ⊢
  have W0 : IntKind.i64.wrap (-d0) = -d0 := IntWalk.i64_in _ (by omega)
  have C := E.cells
  simp [BC, CF] at C
  replace c0 := cellLater (envb E) c0
  replace c1 := cellLater (envb E) c1
  replace c2 := cellLater (envb E) c2
  have c0' := c0
  rw [show a.add 0 = a by simp [Addr.add]] at c0'
  have c1' := c1
  rw [show a.add 1 = ⟨a.block, a.off + 1, none⟩ by simp [Addr.add]] at c1'
  have c2' := c2
  rw [show a.add 2 = ⟨a.block, a.off + 2, none⟩ by simp [Addr.add]] at c2'
  go_enter Try.func64, Try.ntmps64
  go_upto_region 6 with fail
  refine wp_region_plan 14 [(0, true), (1, true), (2, true), (3, true), (4, true), (5, true), (6, true), (7, true), (8, true), (9, true), (10, true), (11, true), (12, true), (13, false)] (fun W' => W'.cell? (a.add 0) = some (.int .i64 d0) ∧ W'.cell? a = some (.int .i64 d0) ∧ W'.cell? (a.add 1) = some (.int .i64 d1) ∧ W'.cell? ⟨a.block, a.off + 1, none⟩ = some (.int .i64 d1) ∧ W'.cell? (a.add 2) = some (.int .i64 d2) ∧ W'.cell? ⟨a.block, a.off + 2, none⟩ = some (.int .i64 d2)) (by kernel_rfl) (by kernel_rfl) (fun _ _ d _ _ h => by cases d <;> exact h) ⟨c0, c0', c1, c1', c2, c2'⟩ ?_
  simp only [List.filterMap_cons, List.filterMap_nil, List.getElem?_cons_zero, List.getElem?_cons_succ, Option.map_some, List.drop_succ_cons, List.drop_zero]
  iterate 13 (first | (refine wpPlan_still (v := ?_) (Or.inl ⟨by rfl, ?_⟩) ?_; rotate_left; (focus (intro W hW; (try dsimp only at hW); go_split_ands; go_simp; try with_reducible rfl)); try simp only [Act.put, List.setIfInBounds_toArray, List.set_cons_zero, List.set_cons_succ]) | (refine wpPlan_still (Or.inr ⟨by rfl, rfl⟩) ?_; try simp only [Act.put, List.setIfInBounds_toArray, List.set_cons_zero, List.set_cons_succ]))
  refine wpPlan_only (fun K hK => ?_)
  try go_simp
  have b5 := below_dr (al1 (w.alloc (.cells #[.string mk, .int .i64 sz, .int .i64 ct, .int .i64 21, .slice (some a) 3 cap] 32)) (.cells #[.int .i64 0, .int .i64 (-d0), .int .i64 0, .int .i64 d1, .int .i64 0, .int .i64 0, .int .i64 0, .int .i64 d2, .int .i64 0] 77))
  refine hK.out _ _ ⟨cellLater b5 c0, cellLater b5 c0', cellLater b5 c1, cellLater b5 c1', cellLater b5 c2, cellLater b5 c2'⟩ ?_
  clear hK K
  try simp only [Act.put, List.setIfInBounds_toArray, List.set_cons_zero, List.set_cons_succ]
  refine wpPlan_end ?_
  go_wp2_with fail
  go_ret
  refine ⟨_, rfl, own_pts (Has.drew_ (Has.newn _ #[.int .i64 0, .int .i64 (-d0), .int .i64 0, .int .i64 d1, .int .i64 0, .int .i64 0, .int .i64 0, .int .i64 d2, .int .i64 0] (by simp))) (by simp [pc]) rfl (by omega) (by decide), envb (E.more _).drw⟩
set_option maxHeartbeats 8000000 in
set_option maxRecDepth 100000 in
theorem rmoves_26 (mk : ByteArray) (sz ct : Int) (p : Option Addr) (d0 d1 d2 : Int) (cap : Nat) (w : World) (hk : Bar.Ok ⟨mk, sz, ct, 26, p, [d0, d1, d2], cap⟩ w) (hv : barB ⟨mk, sz, ct, 26, p, [d0, d1, d2], cap⟩ = true) :
    Calls Try.prog 64 #[Bar.val ⟨mk, sz, ct, 26, p, [d0, d1, d2], cap⟩] w fun e w' => ∃ v, e = .returned v ∧ Own pc 77 3 w.heap.size w' v (movesL ⟨mk, sz, ct, 26, p, [d0, d1, d2], cap⟩) ∧ Below w.heap.size w w' := by
  have hm : movesL ⟨mk, sz, ct, 26, p, [d0, d1, d2], cap⟩ = [⟨0 + d0, 0, 0⟩, ⟨0, 0 + d1, 0⟩, ⟨0 + d2, 0, 0⟩] := by kernel_rfl
  have hm2 : movesL ⟨mk, sz, ct, 26, p, [d0, d1, d2], cap⟩ = [⟨d0, 0, 0⟩, ⟨0, d1, 0⟩, ⟨d2, 0, 0⟩] := by rw [hm]; simp
  have hbd := fitB_mem _ _ (barB_and hv).2.2.1 (by omega)
  simp only [List.mem_cons, List.not_mem_nil, or_false, forall_eq_or_imp, forall_eq] at hbd
  obtain ⟨a, rfl, hd⟩ := rdz_fn hk.rd rfl (Nat.succ_pos _)
  have c0 := hd 0 (by simp)
  have c1 := hd 1 (by simp)
  have c2 := hd 2 (by simp)
  simp only [List.getElem_cons_zero, List.getElem_cons_succ] at c0 c1 c2
  have E := (Env.nil w).add w.heap.size 32 (Bar.cs ⟨mk, sz, ct, 26, some a, [d0, d1, d2], cap⟩) rfl
  clear hk hv hm hd
  rw [hm2]
  clear hm2
  simp only [Bar.val, Bar.cs, List.length_cons, List.length_nil, Nat.zero_add, Nat.reduceAdd] at E ⊢
  have C := E.cells
  simp [BC, CF] at C
  replace c0 := cellLater (envb E) c0
  replace c1 := cellLater (envb E) c1
  replace c2 := cellLater (envb E) c2
  have c0' := c0
  rw [show a.add 0 = a by simp [Addr.add]] at c0'
  have c1' := c1
  rw [show a.add 1 = ⟨a.block, a.off + 1, none⟩ by simp [Addr.add]] at c1'
  have c2' := c2
  rw [show a.add 2 = ⟨a.block, a.off + 2, none⟩ by simp [Addr.add]] at c2'
  go_enter Try.func64, Try.ntmps64
  go_upto_region 8 with fail
  refine wp_region_plan 13 [(0, true), (1, true), (2, true), (3, true), (4, true), (5, true), (6, true), (7, true), (8, true), (9, true), (10, true), (11, true), (12, false)] (fun W' => W'.cell? (a.add 0) = some (.int .i64 d0) ∧ W'.cell? a = some (.int .i64 d0) ∧ W'.cell? (a.add 1) = some (.int .i64 d1) ∧ W'.cell? ⟨a.block, a.off + 1, none⟩ = some (.int .i64 d1) ∧ W'.cell? (a.add 2) = some (.int .i64 d2) ∧ W'.cell? ⟨a.block, a.off + 2, none⟩ = some (.int .i64 d2)) (by kernel_rfl) (by kernel_rfl) (fun _ _ d _ _ h => by cases d <;> exact h) ⟨c0, c0', c1, c1', c2, c2'⟩ ?_
  simp only [List.filterMap_cons, List.filterMap_nil, List.getElem?_cons_zero, List.getElem?_cons_succ, Option.map_some, List.drop_succ_cons, List.drop_zero]
  iterate 12 (first | (refine wpPlan_still (v := ?_) (Or.inl ⟨by rfl, ?_⟩) ?_; rotate_left; (focus (intro W hW; (try dsimp only at hW); go_split_ands; go_simp; try with_reducible rfl)); try simp only [Act.put, List.setIfInBounds_toArray, List.set_cons_zero, List.set_cons_succ]) | (refine wpPlan_still (Or.inr ⟨by rfl, rfl⟩) ?_; try simp only [Act.put, List.setIfInBounds_toArray, List.set_cons_zero, List.set_cons_succ]))
  refine wpPlan_only (fun K hK => ?_)
  try go_simp
  have b5 := below_dr (al1 (w.alloc (.cells #[.string mk, .int .i64 sz, .int .i64 ct, .int .i64 26, .slice (some a) 3 cap] 32)) (.cells #[.int .i64 d0, .int .i64 0, .int .i64 0, .int .i64 0, .int .i64 d1, .int .i64 0, .int .i64 d2, .int .i64 0, .int .i64 0] 77))
  refine hK.out _ _ ⟨cellLater b5 c0, cellLater b5 c0', cellLater b5 c1, cellLater b5 c1', cellLater b5 c2, cellLater b5 c2'⟩ ?_
  clear hK K
  try simp only [Act.put, List.setIfInBounds_toArray, List.set_cons_zero, List.set_cons_succ]
  refine wpPlan_end ?_
  go_wp2_with fail
  go_ret
  refine ⟨_, rfl, own_pts (Has.drew_ (Has.newn _ #[.int .i64 d0, .int .i64 0, .int .i64 0, .int .i64 0, .int .i64 d1, .int .i64 0, .int .i64 d2, .int .i64 0, .int .i64 0] (by simp))) (by simp [pc]) rfl (by omega) (by decide), envb (E.more _).drw⟩
set_option maxHeartbeats 8000000 in
set_option maxRecDepth 100000 in
theorem rmoves_31 (mk : ByteArray) (sz ct : Int) (p : Option Addr) (d0 d1 d2 : Int) (cap : Nat) (w : World) (hk : Bar.Ok ⟨mk, sz, ct, 31, p, [d0, d1, d2], cap⟩ w) (hv : barB ⟨mk, sz, ct, 31, p, [d0, d1, d2], cap⟩ = true) :
    Calls Try.prog 64 #[Bar.val ⟨mk, sz, ct, 31, p, [d0, d1, d2], cap⟩] w fun e w' => ∃ v, e = .returned v ∧ Own pc 77 3 w.heap.size w' v (movesL ⟨mk, sz, ct, 31, p, [d0, d1, d2], cap⟩) ∧ Below w.heap.size w w' := by
  have hm : movesL ⟨mk, sz, ct, 31, p, [d0, d1, d2], cap⟩ = [⟨0 + d0, 0, 0⟩, ⟨0, 0 + d1, 0⟩, ⟨0, 0, 0 + d2⟩] := by kernel_rfl
  have hm2 : movesL ⟨mk, sz, ct, 31, p, [d0, d1, d2], cap⟩ = [⟨d0, 0, 0⟩, ⟨0, d1, 0⟩, ⟨0, 0, d2⟩] := by rw [hm]; simp
  have hbd := fitB_mem _ _ (barB_and hv).2.2.1 (by omega)
  simp only [List.mem_cons, List.not_mem_nil, or_false, forall_eq_or_imp, forall_eq] at hbd
  obtain ⟨a, rfl, hd⟩ := rdz_fn hk.rd rfl (Nat.succ_pos _)
  have c0 := hd 0 (by simp)
  have c1 := hd 1 (by simp)
  have c2 := hd 2 (by simp)
  simp only [List.getElem_cons_zero, List.getElem_cons_succ] at c0 c1 c2
  have E := (Env.nil w).add w.heap.size 32 (Bar.cs ⟨mk, sz, ct, 31, some a, [d0, d1, d2], cap⟩) rfl
  clear hk hv hm hd
  rw [hm2]
  clear hm2
  simp only [Bar.val, Bar.cs, List.length_cons, List.length_nil, Nat.zero_add, Nat.reduceAdd] at E ⊢
  have C := E.cells
  simp [BC, CF] at C
  replace c0 := cellLater (envb E) c0
  replace c1 := cellLater (envb E) c1
  replace c2 := cellLater (envb E) c2
  have c0' := c0
  rw [show a.add 0 = a by simp [Addr.add]] at c0'
  have c1' := c1
  rw [show a.add 1 = ⟨a.block, a.off + 1, none⟩ by simp [Addr.add]] at c1'
  have c2' := c2
  rw [show a.add 2 = ⟨a.block, a.off + 2, none⟩ by simp [Addr.add]] at c2'
  go_enter Try.func64, Try.ntmps64
  go_upto_region 10 with fail
  refine wp_region_plan 13 [(0, true), (1, true), (2, true), (3, true), (4, true), (5, true), (6, true), (7, true), (8, true), (9, true), (10, true), (11, true), (12, false)] (fun W' => W'.cell? (a.add 0) = some (.int .i64 d0) ∧ W'.cell? a = some (.int .i64 d0) ∧ W'.cell? (a.add 1) = some (.int .i64 d1) ∧ W'.cell? ⟨a.block, a.off + 1, none⟩ = some (.int .i64 d1) ∧ W'.cell? (a.add 2) = some (.int .i64 d2) ∧ W'.cell? ⟨a.block, a.off + 2, none⟩ = some (.int .i64 d2)) (by kernel_rfl) (by kernel_rfl) (fun _ _ d _ _ h => by cases d <;> exact h) ⟨c0, c0', c1, c1', c2, c2'⟩ ?_
  simp only [List.filterMap_cons, List.filterMap_nil, List.getElem?_cons_zero, List.getElem?_cons_succ, Option.map_some, List.drop_succ_cons, List.drop_zero]
  iterate 12 (first | (refine wpPlan_still (v := ?_) (Or.inl ⟨by rfl, ?_⟩) ?_; rotate_left; (focus (intro W hW; (try dsimp only at hW); go_split_ands; go_simp; try with_reducible rfl)); try simp only [Act.put, List.setIfInBounds_toArray, List.set_cons_zero, List.set_cons_succ]) | (refine wpPlan_still (Or.inr ⟨by rfl, rfl⟩) ?_; try simp only [Act.put, List.setIfInBounds_toArray, List.set_cons_zero, List.set_cons_succ]))
  refine wpPlan_only (fun K hK => ?_)
  try go_simp
  have b5 := below_dr (al1 (w.alloc (.cells #[.string mk, .int .i64 sz, .int .i64 ct, .int .i64 31, .slice (some a) 3 cap] 32)) (.cells #[.int .i64 d0, .int .i64 0, .int .i64 0, .int .i64 0, .int .i64 d1, .int .i64 0, .int .i64 0, .int .i64 0, .int .i64 d2] 77))
  refine hK.out _ _ ⟨cellLater b5 c0, cellLater b5 c0', cellLater b5 c1, cellLater b5 c1', cellLater b5 c2, cellLater b5 c2'⟩ ?_
  clear hK K
  try simp only [Act.put, List.setIfInBounds_toArray, List.set_cons_zero, List.set_cons_succ]
  refine wpPlan_end ?_
  go_wp2_with fail
  go_ret
  refine ⟨_, rfl, own_pts (Has.drew_ (Has.newn _ #[.int .i64 d0, .int .i64 0, .int .i64 0, .int .i64 0, .int .i64 d1, .int .i64 0, .int .i64 0, .int .i64 0, .int .i64 d2] (by simp))) (by simp [pc]) rfl (by omega) (by decide), envb (E.more _).drw⟩
set_option maxHeartbeats 8000000 in
set_option maxRecDepth 100000 in
theorem rmoves_41 (mk : ByteArray) (sz ct : Int) (p : Option Addr) (d0 d1 d2 d3 d4 : Int) (cap : Nat) (w : World) (hk : Bar.Ok ⟨mk, sz, ct, 41, p, [d0, d1, d2, d3, d4], cap⟩ w) (hv : barB ⟨mk, sz, ct, 41, p, [d0, d1, d2, d3, d4], cap⟩ = true) :
    Calls Try.prog 64 #[Bar.val ⟨mk, sz, ct, 41, p, [d0, d1, d2, d3, d4], cap⟩] w fun e w' => ∃ v, e = .returned v ∧ Own pc 77 3 w.heap.size w' v (movesL ⟨mk, sz, ct, 41, p, [d0, d1, d2, d3, d4], cap⟩) ∧ Below w.heap.size w w' := by
  have hm : movesL ⟨mk, sz, ct, 41, p, [d0, d1, d2, d3, d4], cap⟩ = [⟨0 + d0, 0, 0⟩, ⟨0, 0 + d1, 0⟩, ⟨0 + d2, 0, 0⟩, ⟨0, 0 - d3, 0⟩, ⟨0 + d4, 0, 0⟩] := by kernel_rfl
  have hm2 : movesL ⟨mk, sz, ct, 41, p, [d0, d1, d2, d3, d4], cap⟩ = [⟨d0, 0, 0⟩, ⟨0, d1, 0⟩, ⟨d2, 0, 0⟩, ⟨0, -d3, 0⟩, ⟨d4, 0, 0⟩] := by rw [hm]; simp
  have hbd := fitB_mem _ _ (barB_and hv).2.2.1 (by omega)
  simp only [List.mem_cons, List.not_mem_nil, or_false, forall_eq_or_imp, forall_eq] at hbd
  obtain ⟨a, rfl, hd⟩ := rdz_fn hk.rd rfl (Nat.succ_pos _)
  have c0 := hd 0 (by simp)
  have c1 := hd 1 (by simp)
  have c2 := hd 2 (by simp)
  have c3 := hd 3 (by simp)
  have c4 := hd 4 (by simp)
  simp only [List.getElem_cons_zero, List.getElem_cons_succ] at c0 c1 c2 c3 c4
  have E := (Env.nil w).add w.heap.size 32 (Bar.cs ⟨mk, sz, ct, 41, some a, [d0, d1, d2, d3, d4], cap⟩) rfl
  clear hk hv hm hd
  rw [hm2]
  clear hm2
  simp only [Bar.val, Bar.cs, List.length_cons, List.length_nil, Nat.zero_add, Nat.reduceAdd] at E ⊢
  have W3 : IntKind.i64.wrap (-d3) = -d3 := IntWalk.i64_in _ (by omega)
  have C := E.cells
  simp [BC, CF] at C
  replace c0 := cellLater (envb E) c0
  replace c1 := cellLater (envb E) c1
  replace c2 := cellLater (envb E) c2
  replace c3 := cellLater (envb E) c3
  replace c4 := cellLater (envb E) c4
  have c0' := c0
  rw [show a.add 0 = a by simp [Addr.add]] at c0'
  have c1' := c1
  rw [show a.add 1 = ⟨a.block, a.off + 1, none⟩ by simp [Addr.add]] at c1'
  have c2' := c2
  rw [show a.add 2 = ⟨a.block, a.off + 2, none⟩ by simp [Addr.add]] at c2'
  have c3' := c3
  rw [show a.add 3 = ⟨a.block, a.off + 3, none⟩ by simp [Addr.add]] at c3'
  have c4' := c4
  rw [show a.add 4 = ⟨a.block, a.off + 4, none⟩ by simp [Addr.add]] at c4'
  go_enter Try.func64, Try.ntmps64
  go_upto_region 12 with fail
  refine wp_region_plan 22 [(0, true), (1, true), (2, true), (3, true), (4, true), (5, true), (6, true), (7, true), (8, true), (9, true), (10, true), (11, true), (12, true), (13, true), (14, true), (15, true), (16, true), (17, true), (18, true), (19, true), (20, true), (21, false)] (fun W' => W'.cell? (a.add 0) = some (.int .i64 d0) ∧ W'.cell? a = some (.int .i64 d0) ∧ W'.cell? (a.add 1) = some (.int .i64 d1) ∧ W'.cell? ⟨a.block, a.off + 1, none⟩ = some (.int .i64 d1) ∧ W'.cell? (a.add 2) = some (.int .i64 d2) ∧ W'.cell? ⟨a.block, a.off + 2, none⟩ = some (.int .i64 d2) ∧ W'.cell? (a.add 3) = some (.int .i64 d3) ∧ W'.cell? ⟨a.block, a.off + 3, none⟩ = some (.int .i64 d3) ∧ W'.cell? (a.add 4) = some (.int .i64 d4) ∧ W'.cell? ⟨a.block, a.off + 4, none⟩ = some (.int .i64 d4)) (by kernel_rfl) (by kernel_rfl) (fun _ _ d _ _ h => by cases d <;> exact h) ⟨c0, c0', c1, c1', c2, c2', c3, c3', c4, c4'⟩ ?_
  simp only [List.filterMap_cons, List.filterMap_nil, List.getElem?_cons_zero, List.getElem?_cons_succ, Option.map_some, List.drop_succ_cons, List.drop_zero]
  iterate 21 (first | (refine wpPlan_still (v := ?_) (Or.inl ⟨by rfl, ?_⟩) ?_; rotate_left; (focus (intro W hW; (try dsimp only at hW); go_split_ands; go_simp; try with_reducible rfl)); try simp only [Act.put, List.setIfInBounds_toArray, List.set_cons_zero, List.set_cons_succ]) | (refine wpPlan_still (Or.inr ⟨by rfl, rfl⟩) ?_; try simp only [Act.put, List.setIfInBounds_toArray, List.set_cons_zero, List.set_cons_succ]))
  refine wpPlan_only (fun K hK => ?_)
  try go_simp
  have b5 := below_dr (al1 (w.alloc (.cells #[.string mk, .int .i64 sz, .int .i64 ct, .int .i64 41, .slice (some a) 5 cap] 32)) (.cells #[.int .i64 d0, .int .i64 0, .int .i64 0, .int .i64 0, .int .i64 d1, .int .i64 0, .int .i64 d2, .int .i64 0, .int .i64 0, .int .i64 0, .int .i64 (-d3), .int .i64 0, .int .i64 d4, .int .i64 0, .int .i64 0] 77))
  refine hK.out _ _ ⟨cellLater b5 c0, cellLater b5 c0', cellLater b5 c1, cellLater b5 c1', cellLater b5 c2, cellLater b5 c2', cellLater b5 c3, cellLater b5 c3', cellLater b5 c4, cellLater b5 c4'⟩ ?_
  clear hK K
  try simp only [Act.put, List.setIfInBounds_toArray, List.set_cons_zero, List.set_cons_succ]
  refine wpPlan_end ?_
  go_wp2_with fail
  go_ret
  refine ⟨_, rfl, own_pts (Has.drew_ (Has.newn _ #[.int .i64 d0, .int .i64 0, .int .i64 0, .int .i64 0, .int .i64 d1, .int .i64 0, .int .i64 d2, .int .i64 0, .int .i64 0, .int .i64 0, .int .i64 (-d3), .int .i64 0, .int .i64 d4, .int .i64 0, .int .i64 0] (by simp))) (by simp [pc]) rfl (by omega) (by decide), envb (E.more _).drw⟩
set_option maxHeartbeats 8000000 in
set_option maxRecDepth 100000 in
theorem rmoves_51 (mk : ByteArray) (sz ct : Int) (p : Option Addr) (d0 d1 d2 : Int) (cap : Nat) (w : World) (hk : Bar.Ok ⟨mk, sz, ct, 51, p, [d0, d1, d2], cap⟩ w) (hv : barB ⟨mk, sz, ct, 51, p, [d0, d1, d2], cap⟩ = true) :
    Calls Try.prog 64 #[Bar.val ⟨mk, sz, ct, 51, p, [d0, d1, d2], cap⟩] w fun e w' => ∃ v, e = .returned v ∧ Own pc 77 3 w.heap.size w' v (movesL ⟨mk, sz, ct, 51, p, [d0, d1, d2], cap⟩) ∧ Below w.heap.size w w' := by
  have hm : movesL ⟨mk, sz, ct, 51, p, [d0, d1, d2], cap⟩ = [⟨0, 0 - d2, 0⟩, ⟨0 + d0, 0, 0⟩, ⟨0, 0 + d1, 0⟩, ⟨0 - d0, 0, 0⟩, ⟨0, 0 - d1, 0⟩, ⟨0 + d2, 0, 0⟩] := by kernel_rfl
  have hm2 : movesL ⟨mk, sz, ct, 51, p, [d0, d1, d2], cap⟩ = [⟨0, -d2, 0⟩, ⟨d0, 0, 0⟩, ⟨0, d1, 0⟩, ⟨-d0, 0, 0⟩, ⟨0, -d1, 0⟩, ⟨d2, 0, 0⟩] := by rw [hm]; simp
  have hbd := fitB_mem _ _ (barB_and hv).2.2.1 (by omega)
  simp only [List.mem_cons, List.not_mem_nil, or_false, forall_eq_or_imp, forall_eq] at hbd
  obtain ⟨a, rfl, hd⟩ := rdz_fn hk.rd rfl (Nat.succ_pos _)
  have c0 := hd 0 (by simp)
  have c1 := hd 1 (by simp)
  have c2 := hd 2 (by simp)
  simp only [List.getElem_cons_zero, List.getElem_cons_succ] at c0 c1 c2
  have E := (Env.nil w).add w.heap.size 32 (Bar.cs ⟨mk, sz, ct, 51, some a, [d0, d1, d2], cap⟩) rfl
  clear hk hv hm hd
  rw [hm2]
  clear hm2
  simp only [Bar.val, Bar.cs, List.length_cons, List.length_nil, Nat.zero_add, Nat.reduceAdd] at E ⊢
  have W0 : IntKind.i64.wrap (-d0) = -d0 := IntWalk.i64_in _ (by omega)
  have W1 : IntKind.i64.wrap (-d1) = -d1 := IntWalk.i64_in _ (by omega)
  have W2 : IntKind.i64.wrap (-d2) = -d2 := IntWalk.i64_in _ (by omega)
  have C := E.cells
  simp [BC, CF] at C
  replace c0 := cellLater (envb E) c0
  replace c1 := cellLater (envb E) c1
  replace c2 := cellLater (envb E) c2
  have c0' := c0
  rw [show a.add 0 = a by simp [Addr.add]] at c0'
  have c1' := c1
  rw [show a.add 1 = ⟨a.block, a.off + 1, none⟩ by simp [Addr.add]] at c1'
  have c2' := c2
  rw [show a.add 2 = ⟨a.block, a.off + 2, none⟩ by simp [Addr.add]] at c2'
  go_enter Try.func64, Try.ntmps64
  go_upto_region 14 with fail
  refine wp_region_plan 28 [(0, true), (1, true), (2, true), (3, true), (4, true), (5, true), (6, true), (7, true), (8, true), (9, true), (10, true), (11, true), (12, true), (13, true), (14, true), (15, true), (16, true), (17, true), (18, true), (19, true), (20, true), (21, true), (22, true), (23, true), (24, true), (25, true), (26, true), (27, false)] (fun W' => W'.cell? (a.add 0) = some (.int .i64 d0) ∧ W'.cell? a = some (.int .i64 d0) ∧ W'.cell? (a.add 1) = some (.int .i64 d1) ∧ W'.cell? ⟨a.block, a.off + 1, none⟩ = some (.int .i64 d1) ∧ W'.cell? (a.add 2) = some (.int .i64 d2) ∧ W'.cell? ⟨a.block, a.off + 2, none⟩ = some (.int .i64 d2)) (by kernel_rfl) (by kernel_rfl) (fun _ _ d _ _ h => by cases d <;> exact h) ⟨c0, c0', c1, c1', c2, c2'⟩ ?_
  simp only [List.filterMap_cons, List.filterMap_nil, List.getElem?_cons_zero, List.getElem?_cons_succ, Option.map_some, List.drop_succ_cons, List.drop_zero]
  iterate 27 (first | (refine wpPlan_still (v := ?_) (Or.inl ⟨by rfl, ?_⟩) ?_; rotate_left; (focus (intro W hW; (try dsimp only at hW); go_split_ands; go_simp; try with_reducible rfl)); try simp only [Act.put, List.setIfInBounds_toArray, List.set_cons_zero, List.set_cons_succ]) | (refine wpPlan_still (Or.inr ⟨by rfl, rfl⟩) ?_; try simp only [Act.put, List.setIfInBounds_toArray, List.set_cons_zero, List.set_cons_succ]))
  refine wpPlan_only (fun K hK => ?_)
  try go_simp
  have b5 := below_dr (al1 (w.alloc (.cells #[.string mk, .int .i64 sz, .int .i64 ct, .int .i64 51, .slice (some a) 3 cap] 32)) (.cells #[.int .i64 0, .int .i64 (-d2), .int .i64 0, .int .i64 d0, .int .i64 0, .int .i64 0, .int .i64 0, .int .i64 d1, .int .i64 0, .int .i64 (-d0), .int .i64 0, .int .i64 0, .int .i64 0, .int .i64 (-d1), .int .i64 0, .int .i64 d2, .int .i64 0, .int .i64 0] 77))
  refine hK.out _ _ ⟨cellLater b5 c0, cellLater b5 c0', cellLater b5 c1, cellLater b5 c1', cellLater b5 c2, cellLater b5 c2'⟩ ?_
  clear hK K
  try simp only [Act.put, List.setIfInBounds_toArray, List.set_cons_zero, List.set_cons_succ]
  refine wpPlan_end ?_
  go_wp2_with fail
  go_ret
  refine ⟨_, rfl, own_pts (Has.drew_ (Has.newn _ #[.int .i64 0, .int .i64 (-d2), .int .i64 0, .int .i64 d0, .int .i64 0, .int .i64 0, .int .i64 0, .int .i64 d1, .int .i64 0, .int .i64 (-d0), .int .i64 0, .int .i64 0, .int .i64 0, .int .i64 (-d1), .int .i64 0, .int .i64 d2, .int .i64 0, .int .i64 0] (by simp))) (by simp [pc]) rfl (by omega) (by decide), envb (E.more _).drw⟩
set_option maxHeartbeats 8000000 in
set_option maxRecDepth 100000 in
theorem rmoves_98 (mk : ByteArray) (sz ct : Int) (p : Option Addr) (d0 d1 d2 : Int) (cap : Nat) (w : World) (hk : Bar.Ok ⟨mk, sz, ct, 98, p, [d0, d1, d2], cap⟩ w) (hv : barB ⟨mk, sz, ct, 98, p, [d0, d1, d2], cap⟩ = true) :
    Calls Try.prog 64 #[Bar.val ⟨mk, sz, ct, 98, p, [d0, d1, d2], cap⟩] w fun e w' => ∃ v, e = .returned v ∧ Own pc 77 3 w.heap.size w' v (movesL ⟨mk, sz, ct, 98, p, [d0, d1, d2], cap⟩) ∧ Below w.heap.size w w' := by
  have hm : movesL ⟨mk, sz, ct, 98, p, [d0, d1, d2], cap⟩ = [⟨0, 0, 0 + d0⟩, ⟨0, 0 - d1, 0⟩, ⟨0 + d2, 0, 0⟩, ⟨0, 0 + d1, 0⟩, ⟨0, 0, 0 + d0⟩] := by kernel_rfl
  have hm2 : movesL ⟨mk, sz, ct, 98, p, [d0, d1, d2], cap⟩ = [⟨0, 0, d0⟩, ⟨0, -d1, 0⟩, ⟨d2, 0, 0⟩, ⟨0, d1, 0⟩, ⟨0, 0, d0⟩] := by rw [hm]; simp
  have hbd := fitB_mem _ _ (barB_and hv).2.2.1 (by omega)
  simp only [List.mem_cons, List.not_mem_nil, or_false, forall_eq_or_imp, forall_eq] at hbd
  obtain ⟨a, rfl, hd⟩ := rdz_fn hk.rd rfl (Nat.succ_pos _)
  have c0 := hd 0 (by simp)
  have c1 := hd 1 (by simp)
  have c2 := hd 2 (by simp)
  simp only [List.getElem_cons_zero, List.getElem_cons_succ] at c0 c1 c2
  have E := (Env.nil w).add w.heap.size 32 (Bar.cs ⟨mk, sz, ct, 98, some a, [d0, d1, d2], cap⟩) rfl
  clear hk hv hm hd
  rw [hm2]
  clear hm2
  simp only [Bar.val, Bar.cs, List.length_cons, List.length_nil, Nat.zero_add, Nat.reduceAdd] at E ⊢
  have W1 : IntKind.i64.wrap (-d1) = -d1 := IntWalk.i64_in _ (by omega)
  have C := E.cells
  simp [BC, CF] at C
  replace c0 := cellLater (envb E) c0
  replace c1 := cellLater (envb E) c1
  replace c2 := cellLater (envb E) c2
  have c0' := c0
  rw [show a.add 0 = a by simp [Addr.add]] at c0'
  have c1' := c1
  rw [show a.add 1 = ⟨a.block, a.off + 1, none⟩ by simp [Addr.add]] at c1'
  have c2' := c2
  rw [show a.add 2 = ⟨a.block, a.off + 2, none⟩ by simp [Addr.add]] at c2'
  go_enter Try.func64, Try.ntmps64
  go_upto_region 16 with fail
  refine wp_region_plan 22 [(0, true), (1, true), (2, true), (3, true), (4, true), (5, true), (6, true), (7, true), (8, true), (9, true), (10, true), (11, true), (12, true), (13, true), (14, true), (15, true), (16, true), (17, true), (18, true), (19, true), (20, true), (21, false)] (fun W' => W'.cell? (a.add 0) = some (.int .i64 d0) ∧ W'.cell? a = some (.int .i64 d0) ∧ W'.cell? (a.add 1) = some (.int .i64 d1) ∧ W'.cell? ⟨a.block, a.off + 1, none⟩ = some (.int .i64 d1) ∧ W'.cell? (a.add 2) = some (.int .i64 d2) ∧ W'.cell? ⟨a.block, a.off + 2, none⟩ = some (.int .i64 d2)) (by kernel_rfl) (by kernel_rfl) (fun _ _ d _ _ h => by cases d <;> exact h) ⟨c0, c0', c1, c1', c2, c2'⟩ ?_
  simp only [List.filterMap_cons, List.filterMap_nil, List.getElem?_cons_zero, List.getElem?_cons_succ, Option.map_some, List.drop_succ_cons, List.drop_zero]
  iterate 21 (first | (refine wpPlan_still (v := ?_) (Or.inl ⟨by rfl, ?_⟩) ?_; rotate_left; (focus (intro W hW; (try dsimp only at hW); go_split_ands; go_simp; try with_reducible rfl)); try simp only [Act.put, List.setIfInBounds_toArray, List.set_cons_zero, List.set_cons_succ]) | (refine wpPlan_still (Or.inr ⟨by rfl, rfl⟩) ?_; try simp only [Act.put, List.setIfInBounds_toArray, List.set_cons_zero, List.set_cons_succ]))
  refine wpPlan_only (fun K hK => ?_)
  try go_simp
  have b5 := below_dr (al1 (w.alloc (.cells #[.string mk, .int .i64 sz, .int .i64 ct, .int .i64 98, .slice (some a) 3 cap] 32)) (.cells #[.int .i64 0, .int .i64 0, .int .i64 d0, .int .i64 0, .int .i64 (-d1), .int .i64 0, .int .i64 d2, .int .i64 0, .int .i64 0, .int .i64 0, .int .i64 d1, .int .i64 0, .int .i64 0, .int .i64 0, .int .i64 d0] 77))
  refine hK.out _ _ ⟨cellLater b5 c0, cellLater b5 c0', cellLater b5 c1, cellLater b5 c1', cellLater b5 c2, cellLater b5 c2'⟩ ?_
  clear hK K
  try simp only [Act.put, List.setIfInBounds_toArray, List.set_cons_zero, List.set_cons_succ]
  refine wpPlan_end ?_
  go_wp2_with fail
  go_ret
  refine ⟨_, rfl, own_pts (Has.drew_ (Has.newn _ #[.int .i64 0, .int .i64 0, .int .i64 d0, .int .i64 0, .int .i64 (-d1), .int .i64 0, .int .i64 d2, .int .i64 0, .int .i64 0, .int .i64 0, .int .i64 d1, .int .i64 0, .int .i64 0, .int .i64 0, .int .i64 d0] (by simp))) (by simp [pc]) rfl (by omega) (by decide), envb (E.more _).drw⟩
theorem rmoves_any (b : Bar) (w : World) (hk : b.Ok w) (hv : barB b = true) : Calls Try.prog 64 #[b.val] w fun e w' => ∃ v, e = .returned v ∧ Own pc 77 3 w.heap.size w' v (movesL b) ∧ Below w.heap.size w w' := by
  obtain ⟨hC, hl, -⟩ := barB_and hv
  obtain ⟨mk, sz, ct, cd, p, ds, cap⟩ := b
  dsimp only at hC hl
  rcases code_in hC with rfl | rfl | rfl | rfl | rfl | rfl | rfl | rfl
  · have hl' : ds.length = 1 := hl.trans (by kernel_rfl)
    match ds, hl' with
    | [d0], _ => exact rmoves_0 mk sz ct p d0 cap w hk hv
  · have hl' : ds.length = 2 := hl.trans (by kernel_rfl)
    match ds, hl' with
    | [d0, d1], _ => exact rmoves_11 mk sz ct p d0 d1 cap w hk hv
  · have hl' : ds.length = 3 := hl.trans (by kernel_rfl)
    match ds, hl' with
    | [d0, d1, d2], _ => exact rmoves_21 mk sz ct p d0 d1 d2 cap w hk hv
  · have hl' : ds.length = 3 := hl.trans (by kernel_rfl)
    match ds, hl' with
    | [d0, d1, d2], _ => exact rmoves_26 mk sz ct p d0 d1 d2 cap w hk hv
  · have hl' : ds.length = 3 := hl.trans (by kernel_rfl)
    match ds, hl' with
    | [d0, d1, d2], _ => exact rmoves_31 mk sz ct p d0 d1 d2 cap w hk hv
  · have hl' : ds.length = 5 := hl.trans (by kernel_rfl)
    match ds, hl' with
    | [d0, d1, d2, d3, d4], _ => exact rmoves_41 mk sz ct p d0 d1 d2 d3 d4 cap w hk hv
  · have hl' : ds.length = 3 := hl.trans (by kernel_rfl)
    match ds, hl' with
    | [d0, d1, d2], _ => exact rmoves_51 mk sz ct p d0 d1 d2 cap w hk hv
  · have hl' : ds.length = 3 := hl.trans (by kernel_rfl)
    match ds, hl' with
    | [d0, d1, d2], _ => exact rmoves_98 mk sz ct p d0 d1 d2 cap w hk hv
end Go.Proofs.Ythphgppgdlimeaa
