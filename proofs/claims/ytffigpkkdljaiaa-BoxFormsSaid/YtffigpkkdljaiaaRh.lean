/- The reference: Hull. -/
import Derived.Test.YtffigpkkdljaiaaRk
import Derived.Test.YtffigpkkdljaiaaFd
import Derived.Test.YtffigpkkdljaiaaHu
import Derived.Test.YtffigpkkdljaiaaPl
namespace Go.Proofs.Ytffigpkkdljaiaa
open Go.ChangeShapes Go.WideShapes Go.ChangeAt Go.RowKit
set_option linter.unusedVariables false
set_option linter.unusedSimpArgs false

def Lhu (n j : Nat) (h : Bx) (n0 n1 n2 m0 m1 m2 : Int) : List Fb := [⟨n + 1, 25, #[.int .i64 (if 0 < j then n0 else h.a), .int .i64 (if 1 < j then n1 else h.b), .int .i64 (if 2 < j then n2 else h.c), .int .i64 (if 0 < j then m0 else h.d), .int .i64 (if 1 < j then m1 else h.e), .int .i64 (if 2 < j then m2 else h.f)]⟩, ⟨n, 25, #[.int .i64 0, .int .i64 0, .int .i64 0, .int .i64 0, .int .i64 0, .int .i64 0]⟩]
theorem s_hu {w W : World} {n : Nat} {c0 c1 c2 c3 c4 c5 z0 z1 z2 z3 z4 z5 : Int}  {A0 A1 A2 : Addr} {y0 y1 y2 : Int}
    (E : Env w W [⟨n, 25, #[.int .i64 c0, .int .i64 c1, .int .i64 c2, .int .i64 c3, .int .i64 c4, .int .i64 c5]⟩, ⟨w.heap.size, 25, #[.int .i64 z0, .int .i64 z1, .int .i64 z2, .int .i64 z3, .int .i64 z4, .int .i64 z5]⟩]) (h0 : w.cell? A0 = some (.int .i64 y0)) (h1 : w.cell? A1 = some (.int .i64 y1)) (h2 : w.cell? A2 = some (.int .i64 y2)) :
    Env w W [⟨n, 25, #[.int .i64 c0, .int .i64 c1, .int .i64 c2, .int .i64 c3, .int .i64 c4, .int .i64 c5]⟩, ⟨w.heap.size, 25, #[.int .i64 z0, .int .i64 z1, .int .i64 z2, .int .i64 z3, .int .i64 z4, .int .i64 z5]⟩] ∧ (W.cell? ⟨n, 0, none⟩ = some (.int .i64 c0) ∧ W.cell? ⟨n, 1, none⟩ = some (.int .i64 c1) ∧ W.cell? ⟨n, 2, none⟩ = some (.int .i64 c2) ∧ W.cell? ⟨n, 3, none⟩ = some (.int .i64 c3) ∧ W.cell? ⟨n, 4, none⟩ = some (.int .i64 c4) ∧ W.cell? ⟨n, 5, none⟩ = some (.int .i64 c5) ∧ W.cell? A0 = some (.int .i64 y0) ∧ W.cell? A1 = some (.int .i64 y1) ∧ W.cell? A2 = some (.int .i64 y2)) := by
  have C := E.cells
  simp [BC, CF] at C
  have k0 := cell_later (envb E) h0
  have k1 := cell_later (envb E) h1
  have k2 := cell_later (envb E) h2
  simp [C, E, k0, k1, k2]
set_option maxHeartbeats 32000000 in
set_option maxRecDepth 100000 in
theorem rhull_in (a : Addr) (x : Bx) (l : List Bx) (cap : Nat) (w : World) (hS : Sl w (some a) (x :: l)) :
    Calls Try.prog 28 #[.slice (some a) (l.length + 1) cap] w fun e w' => e = .returned (l.foldl hullB x).val ∧ Below w.heap.size w w' := by
  have hm := hS.2.2
  unfold maxLen at hm
  simp only [List.length_cons] at hm
  have E0 := ((Env.nil w).add w.heap.size 25 #[.int .i64 0, .int .i64 0, .int .i64 0, .int .i64 0, .int .i64 0, .int .i64 0] rfl).add (w.heap.size + 1) 25 #[.int .i64 x.a, .int .i64 x.b, .int .i64 x.c, .int .i64 x.d, .int .i64 x.e, .int .i64 x.f] (by simp)
  obtain ⟨R, HR⟩ : ∃ R, Hid (R = (l.foldl hullB x).val) := ⟨_, Lib.hid rfl⟩
  rw [← HR.out]
  obtain ⟨a', ea, c0, c1, c2, c3, c4, c5⟩ := (hS.on (al1 w (.cells #[.int .i64 0, .int .i64 0, .int .i64 0, .int .i64 0, .int .i64 0, .int .i64 0] 25))).at (k := 0) (by simp)
  cases ea
  simp only [List.getElem_cons_zero, Nat.zero_mul] at c0 c1 c2 c3 c4 c5
  replace c0 : (w.alloc (.cells #[.int .i64 0, .int .i64 0, .int .i64 0, .int .i64 0, .int .i64 0, .int .i64 0] 25)).cell? a = _ := c0
  replace c1 : (w.alloc (.cells #[.int .i64 0, .int .i64 0, .int .i64 0, .int .i64 0, .int .i64 0, .int .i64 0] 25)).cell? ⟨a.block, a.off + 1, none⟩ = _ := c1
  replace c2 : (w.alloc (.cells #[.int .i64 0, .int .i64 0, .int .i64 0, .int .i64 0, .int .i64 0, .int .i64 0] 25)).cell? ⟨a.block, a.off + 2, none⟩ = _ := c2
  replace c3 : (w.alloc (.cells #[.int .i64 0, .int .i64 0, .int .i64 0, .int .i64 0, .int .i64 0, .int .i64 0] 25)).cell? ⟨a.block, a.off + 3, none⟩ = _ := c3
  replace c4 : (w.alloc (.cells #[.int .i64 0, .int .i64 0, .int .i64 0, .int .i64 0, .int .i64 0, .int .i64 0] 25)).cell? ⟨a.block, a.off + 4, none⟩ = _ := c4
  replace c5 : (w.alloc (.cells #[.int .i64 0, .int .i64 0, .int .i64 0, .int .i64 0, .int .i64 0, .int .i64 0] 25)).cell? ⟨a.block, a.off + 5, none⟩ = _ := c5
  have q0 : (0 : Int) < ((l.length + 1 : Nat) : Int) := by omega
  have q0' : (0 : Int) < (l.length : Int) + 1 := by omega
  go_enter Try.func28, Try.ntmps28
  go_wp2_with fail
  clear c0 c1 c2 c3 c4 c5
  go_loopw [4] (fun v wr => ∃ K : Nat, v = .int .i64 (K : Int) ∧ 1 ≤ K ∧ K ≤ l.length + 1 ∧ Env w wr [⟨w.heap.size + 1, 25, #[.int .i64 ((l.take (K - 1)).foldl hullB x).a, .int .i64 ((l.take (K - 1)).foldl hullB x).b, .int .i64 ((l.take (K - 1)).foldl hullB x).c, .int .i64 ((l.take (K - 1)).foldl hullB x).d, .int .i64 ((l.take (K - 1)).foldl hullB x).e, .int .i64 ((l.take (K - 1)).foldl hullB x).f]⟩, ⟨w.heap.size, 25, #[.int .i64 0, .int .i64 0, .int .i64 0, .int .i64 0, .int .i64 0, .int .i64 0]⟩]) (fun v _ => l.length + 1 - (intOf v).toNat)
  case atStart => exact ⟨1, rfl, by omega, by omega, E0⟩
  case round =>
    clear E0
    obtain ⟨K, rfl, hK1, hK, E⟩ := hrel
    by_cases hlt : K < l.length + 1
    · have g1 : decide ((K : Int) < (l.length : Int) + 1) = true := by simp; omega
      have g1' : decide ((K : Int) < ((l.length + 1 : Nat) : Int)) = true := by simp; omega
      have W1 : IntKind.i64.wrap ((K : Int) + 1) = ((K + 1 : Nat) : Int) := by rw [IntWalk.i64_in _ (by omega)]; omega
      have q1 : (0 : Int) ≤ (K : Int) := by omega
      have q2 : (K : Int) < (l.length : Int) + 1 := by omega
      have q3 : (K : Int) < ((l.length + 1 : Nat) : Int) := by omega
      obtain ⟨a', ea, e0, e1, e2, e3, e4, e5⟩ := hS.at (k := K) (by simpa using hlt)
      cases ea
      have HT : Hid ((l.take (K + 1 - 1)).foldl hullB x = hullB ((l.take (K - 1)).foldl hullB x) ((x :: l)[K]'(by simpa using hlt))) := Lib.hid (by
        obtain ⟨j, rfl⟩ : ∃ j, K = j + 1 := ⟨K - 1, by omega⟩
        rw [Nat.add_sub_cancel, Nat.add_sub_cancel, List.take_succ_eq_append_getElem (by omega), List.foldl_append]
        rfl)
      generalize (x :: l)[K]'(by simpa using hlt) = y at *
      generalize (l.take (K - 1)).foldl hullB x = h at *
      obtain ⟨n0, EL0⟩ : ∃ n, Hid (min h.a y.a = n) := ⟨_, Lib.hid rfl⟩
      obtain ⟨n1, EL1⟩ : ∃ n, Hid (min h.b y.b = n) := ⟨_, Lib.hid rfl⟩
      obtain ⟨n2, EL2⟩ : ∃ n, Hid (min h.c y.c = n) := ⟨_, Lib.hid rfl⟩
      obtain ⟨m0, EH0⟩ : ∃ n, Hid (max h.d y.d = n) := ⟨_, Lib.hid rfl⟩
      obtain ⟨m1, EH1⟩ : ∃ n, Hid (max h.e y.e = n) := ⟨_, Lib.hid rfl⟩
      obtain ⟨m2, EH2⟩ : ∃ n, Hid (max h.f y.f = n) := ⟨_, Lib.hid rfl⟩
      have HU : Hid (hullB h y = ⟨n0, n1, n2, m0, m1, m2⟩) := Lib.hid (by simp only [hullB, mx_mx, mn_mn, EL0.out, EL1.out, EL2.out, EH0.out, EH1.out, EH2.out])
      go_wp2_with fail
      go_loopw [5] (fun v wr' => ∃ j : Nat, v = .int .i64 (j : Int) ∧ j ≤ 3 ∧ Env w wr' (Lhu w.heap.size j h n0 n1 n2 m0 m1 m2)) (fun v _ => 3 - (intOf v).toNat)
      case atStart => exact ⟨0, rfl, by omega, E⟩
      case round =>
        clear E
        obtain ⟨j, rfl, hj, E⟩ := hrel
        rcases (by omega : j = 0 ∨ j = 1 ∨ j = 2 ∨ j = 3) with rfl | rfl | rfl | rfl
        · have C := E.cells
          simp [BC, CF, Lhu] at C
          have clx := fun W => rcoord0 (h.a) (h.b) (h.c) W
          have cly := fun W => rcoord0 y.a y.b y.c W
          have chx := fun W => rcoord0 (h.d) (h.e) (h.f) W
          have chy := fun W => rcoord0 y.d y.e y.f W
          have G1 := EL0.out
          have G2 := EH0.out
          go_upto_region 8 with fail
          go_cut [] (fun wx => Env w wx [⟨w.heap.size + 1, 25, #[.int .i64 n0, .int .i64 h.b, .int .i64 h.c, .int .i64 h.d, .int .i64 h.e, .int .i64 h.f]⟩, ⟨w.heap.size, 25, #[.int .i64 0, .int .i64 0, .int .i64 0, .int .i64 0, .int .i64 0, .int .i64 0]⟩])
          case first =>
            refine wp_region_plan 16 [(0, true), (1, true), (2, true), (3, true), (4, true), (5, true), (7, true), (8, true), (9, true), (10, true), (11, true), (12, true), (6, false), (13, false), (14, true), (15, false)] (fun W' => Env w W' [⟨w.heap.size + 1, 25, #[.int .i64 h.a, .int .i64 h.b, .int .i64 h.c, .int .i64 h.d, .int .i64 h.e, .int .i64 h.f]⟩, ⟨w.heap.size, 25, #[.int .i64 0, .int .i64 0, .int .i64 0, .int .i64 0, .int .i64 0, .int .i64 0]⟩] ∧ W'.cell? ⟨w.heap.size + 1, 0, none⟩ = some (.int .i64 (h.a)) ∧ W'.cell? ⟨w.heap.size + 1, 1, none⟩ = some (.int .i64 (h.b)) ∧ W'.cell? ⟨w.heap.size + 1, 2, none⟩ = some (.int .i64 (h.c)) ∧ W'.cell? ⟨w.heap.size + 1, 3, none⟩ = some (.int .i64 (h.d)) ∧ W'.cell? ⟨w.heap.size + 1, 4, none⟩ = some (.int .i64 (h.e)) ∧ W'.cell? ⟨w.heap.size + 1, 5, none⟩ = some (.int .i64 (h.f)) ∧ W'.cell? (a.add (K * 6)) = some (.int .i64 y.a) ∧ W'.cell? ⟨(a.add (K * 6)).block, (a.add (K * 6)).off + 1, none⟩ = some (.int .i64 y.b) ∧ W'.cell? ⟨(a.add (K * 6)).block, (a.add (K * 6)).off + 2, none⟩ = some (.int .i64 y.c)) (by kernel_rfl) (by kernel_rfl) (fun _ _ d _ _ h => by cases d <;> exact h) (s_hu E.drw e0 e1 e2) ?_
            simp only [List.filterMap_cons, List.filterMap_nil, List.getElem?_cons_zero, List.getElem?_cons_succ, Option.map_some, List.drop_succ_cons, List.drop_zero]
            replace E := E.drw
            repeat (refine wpPlan_still (v := ?_) (Or.inl ⟨by rfl, ?_⟩) ?_; rotate_left; (focus (intro W hW; (try dsimp only at hW); go_split_ands; go_simp; try with_reducible rfl)); try simp only [Act.put, List.setIfInBounds_toArray, List.set_cons_zero, List.set_cons_succ])
            refine wpPlan_only (fun K hK => ?_)
            try go_simp
            (go_at_call 44; (with_reducible refine (clx _).mono ?_); rintro X w1 ⟨rfl, hb⟩; replace E := E.on hb; clear hb)
            try go_wp2_with fail
            refine hK.out _ _ (s_hu E e0 e1 e2) ?_
            clear hK K
            try simp only [Act.put, List.setIfInBounds_toArray, List.set_cons_zero, List.set_cons_succ]
            refine wpPlan_only (fun K hK => ?_)
            try go_simp
            (go_at_call 44; (with_reducible refine (cly _).mono ?_); rintro X w1 ⟨rfl, hb⟩; replace E := E.on hb; clear hb)
            try go_wp2_with fail
            refine hK.out _ _ (s_hu E e0 e1 e2) ?_
            clear hK K
            try simp only [Act.put, List.setIfInBounds_toArray, List.set_cons_zero, List.set_cons_succ]
            (refine wpPlan_still (v := ?_) (Or.inl ⟨by rfl, ?_⟩) ?_; rotate_left; (focus (intro W hW; (try dsimp only at hW); go_split_ands; go_simp; try with_reducible rfl)); try simp only [Act.put, List.setIfInBounds_toArray, List.set_cons_zero, List.set_cons_succ])
            refine wpPlan_only (fun K hK => ?_)
            try go_simp
            (go_at_call 45; (with_reducible refine (rwith0 _ _ _ _ _).mono ?_); rintro X w1 ⟨rfl, hb⟩; replace E := E.on hb; clear hb)
            try go_wp2_with fail
            refine hK.out _ _ (s_hu E e0 e1 e2) ?_
            clear hK K
            try simp only [Act.put, List.setIfInBounds_toArray, List.set_cons_zero, List.set_cons_succ]
            refine wpPlan_end ?_
            have C := E.cells
            simp [BC, CF, Lhu] at C
            go_wp2_with fail
            all_goals go_meet
            all_goals (repeat with_reducible refine Env.drw ?_)
            all_goals exact ((E.put 0 0 (.int .i64 (n0)) rfl).put 0 1 (.int .i64 (h.b)) rfl).put 0 2 (.int .i64 (h.c)) rfl
          case rest =>
            clear E C
            have E := hcut
            have C := E.cells
            simp [BC, CF] at C
            go_wp2_with fail
            refine wp_region_plan 16 [(0, true), (1, true), (2, true), (3, true), (4, true), (5, true), (7, true), (8, true), (9, true), (10, true), (11, true), (12, true), (6, false), (13, false), (14, true), (15, false)] (fun W' => Env w W' [⟨w.heap.size + 1, 25, #[.int .i64 n0, .int .i64 h.b, .int .i64 h.c, .int .i64 h.d, .int .i64 h.e, .int .i64 h.f]⟩, ⟨w.heap.size, 25, #[.int .i64 0, .int .i64 0, .int .i64 0, .int .i64 0, .int .i64 0, .int .i64 0]⟩] ∧ W'.cell? ⟨w.heap.size + 1, 0, none⟩ = some (.int .i64 (n0)) ∧ W'.cell? ⟨w.heap.size + 1, 1, none⟩ = some (.int .i64 (h.b)) ∧ W'.cell? ⟨w.heap.size + 1, 2, none⟩ = some (.int .i64 (h.c)) ∧ W'.cell? ⟨w.heap.size + 1, 3, none⟩ = some (.int .i64 (h.d)) ∧ W'.cell? ⟨w.heap.size + 1, 4, none⟩ = some (.int .i64 (h.e)) ∧ W'.cell? ⟨w.heap.size + 1, 5, none⟩ = some (.int .i64 (h.f)) ∧ W'.cell? ⟨(a.add (K * 6)).block, (a.add (K * 6)).off + 3, none⟩ = some (.int .i64 y.d) ∧ W'.cell? ⟨(a.add (K * 6)).block, (a.add (K * 6)).off + 4, none⟩ = some (.int .i64 y.e) ∧ W'.cell? ⟨(a.add (K * 6)).block, (a.add (K * 6)).off + 5, none⟩ = some (.int .i64 y.f)) (by kernel_rfl) (by kernel_rfl) (fun _ _ d _ _ h => by cases d <;> exact h) (s_hu E.drw e3 e4 e5) ?_
            simp only [List.filterMap_cons, List.filterMap_nil, List.getElem?_cons_zero, List.getElem?_cons_succ, Option.map_some, List.drop_succ_cons, List.drop_zero]
            replace E := E.drw
            repeat (refine wpPlan_still (v := ?_) (Or.inl ⟨by rfl, ?_⟩) ?_; rotate_left; (focus (intro W hW; (try dsimp only at hW); go_split_ands; go_simp; try with_reducible rfl)); try simp only [Act.put, List.setIfInBounds_toArray, List.set_cons_zero, List.set_cons_succ])
            refine wpPlan_only (fun K hK => ?_)
            try go_simp
            (go_at_call 44; (with_reducible refine (chx _).mono ?_); rintro X w1 ⟨rfl, hb⟩; replace E := E.on hb; clear hb)
            try go_wp2_with fail
            refine hK.out _ _ (s_hu E e3 e4 e5) ?_
            clear hK K
            try simp only [Act.put, List.setIfInBounds_toArray, List.set_cons_zero, List.set_cons_succ]
            refine wpPlan_only (fun K hK => ?_)
            try go_simp
            (go_at_call 44; (with_reducible refine (chy _).mono ?_); rintro X w1 ⟨rfl, hb⟩; replace E := E.on hb; clear hb)
            try go_wp2_with fail
            refine hK.out _ _ (s_hu E e3 e4 e5) ?_
            clear hK K
            try simp only [Act.put, List.setIfInBounds_toArray, List.set_cons_zero, List.set_cons_succ]
            (refine wpPlan_still (v := ?_) (Or.inl ⟨by rfl, ?_⟩) ?_; rotate_left; (focus (intro W hW; (try dsimp only at hW); go_split_ands; go_simp; try with_reducible rfl)); try simp only [Act.put, List.setIfInBounds_toArray, List.set_cons_zero, List.set_cons_succ])
            refine wpPlan_only (fun K hK => ?_)
            try go_simp
            (go_at_call 45; (with_reducible refine (rwith0 _ _ _ _ _).mono ?_); rintro X w1 ⟨rfl, hb⟩; replace E := E.on hb; clear hb)
            try go_wp2_with fail
            refine hK.out _ _ (s_hu E e3 e4 e5) ?_
            clear hK K
            try simp only [Act.put, List.setIfInBounds_toArray, List.set_cons_zero, List.set_cons_succ]
            refine wpPlan_end ?_
            have C := E.cells
            simp [BC, CF, Lhu] at C
            go_wp2_with fail
            exact ⟨⟨1, rfl, by omega, ((E.put 0 3 (.int .i64 (m0)) rfl).put 0 4 (.int .i64 (h.e)) rfl).put 0 5 (.int .i64 (h.f)) rfl⟩, by simp [intOf]⟩
        · have C := E.cells
          simp [BC, CF, Lhu] at C
          have clx := fun W => rcoord1 (n0) (h.b) (h.c) W
          have cly := fun W => rcoord1 y.a y.b y.c W
          have chx := fun W => rcoord1 (m0) (h.e) (h.f) W
          have chy := fun W => rcoord1 y.d y.e y.f W
          have G1 := EL1.out
          have G2 := EH1.out
          go_upto_region 8 with fail
          go_cut [] (fun wx => Env w wx [⟨w.heap.size + 1, 25, #[.int .i64 n0, .int .i64 n1, .int .i64 h.c, .int .i64 m0, .int .i64 h.e, .int .i64 h.f]⟩, ⟨w.heap.size, 25, #[.int .i64 0, .int .i64 0, .int .i64 0, .int .i64 0, .int .i64 0, .int .i64 0]⟩])
          case first =>
            refine wp_region_plan 16 [(0, true), (1, true), (2, true), (3, true), (4, true), (5, true), (7, true), (8, true), (9, true), (10, true), (11, true), (12, true), (6, false), (13, false), (14, true), (15, false)] (fun W' => Env w W' [⟨w.heap.size + 1, 25, #[.int .i64 n0, .int .i64 h.b, .int .i64 h.c, .int .i64 m0, .int .i64 h.e, .int .i64 h.f]⟩, ⟨w.heap.size, 25, #[.int .i64 0, .int .i64 0, .int .i64 0, .int .i64 0, .int .i64 0, .int .i64 0]⟩] ∧ W'.cell? ⟨w.heap.size + 1, 0, none⟩ = some (.int .i64 (n0)) ∧ W'.cell? ⟨w.heap.size + 1, 1, none⟩ = some (.int .i64 (h.b)) ∧ W'.cell? ⟨w.heap.size + 1, 2, none⟩ = some (.int .i64 (h.c)) ∧ W'.cell? ⟨w.heap.size + 1, 3, none⟩ = some (.int .i64 (m0)) ∧ W'.cell? ⟨w.heap.size + 1, 4, none⟩ = some (.int .i64 (h.e)) ∧ W'.cell? ⟨w.heap.size + 1, 5, none⟩ = some (.int .i64 (h.f)) ∧ W'.cell? (a.add (K * 6)) = some (.int .i64 y.a) ∧ W'.cell? ⟨(a.add (K * 6)).block, (a.add (K * 6)).off + 1, none⟩ = some (.int .i64 y.b) ∧ W'.cell? ⟨(a.add (K * 6)).block, (a.add (K * 6)).off + 2, none⟩ = some (.int .i64 y.c)) (by kernel_rfl) (by kernel_rfl) (fun _ _ d _ _ h => by cases d <;> exact h) (s_hu E.drw e0 e1 e2) ?_
            simp only [List.filterMap_cons, List.filterMap_nil, List.getElem?_cons_zero, List.getElem?_cons_succ, Option.map_some, List.drop_succ_cons, List.drop_zero]
            replace E := E.drw
            repeat (refine wpPlan_still (v := ?_) (Or.inl ⟨by rfl, ?_⟩) ?_; rotate_left; (focus (intro W hW; (try dsimp only at hW); go_split_ands; go_simp; try with_reducible rfl)); try simp only [Act.put, List.setIfInBounds_toArray, List.set_cons_zero, List.set_cons_succ])
            refine wpPlan_only (fun K hK => ?_)
            try go_simp
            (go_at_call 44; (with_reducible refine (clx _).mono ?_); rintro X w1 ⟨rfl, hb⟩; replace E := E.on hb; clear hb)
            try go_wp2_with fail
            refine hK.out _ _ (s_hu E e0 e1 e2) ?_
            clear hK K
            try simp only [Act.put, List.setIfInBounds_toArray, List.set_cons_zero, List.set_cons_succ]
            refine wpPlan_only (fun K hK => ?_)
            try go_simp
            (go_at_call 44; (with_reducible refine (cly _).mono ?_); rintro X w1 ⟨rfl, hb⟩; replace E := E.on hb; clear hb)
            try go_wp2_with fail
            refine hK.out _ _ (s_hu E e0 e1 e2) ?_
            clear hK K
            try simp only [Act.put, List.setIfInBounds_toArray, List.set_cons_zero, List.set_cons_succ]
            (refine wpPlan_still (v := ?_) (Or.inl ⟨by rfl, ?_⟩) ?_; rotate_left; (focus (intro W hW; (try dsimp only at hW); go_split_ands; go_simp; try with_reducible rfl)); try simp only [Act.put, List.setIfInBounds_toArray, List.set_cons_zero, List.set_cons_succ])
            refine wpPlan_only (fun K hK => ?_)
            try go_simp
            (go_at_call 45; (with_reducible refine (rwith1 _ _ _ _ _).mono ?_); rintro X w1 ⟨rfl, hb⟩; replace E := E.on hb; clear hb)
            try go_wp2_with fail
            refine hK.out _ _ (s_hu E e0 e1 e2) ?_
            clear hK K
            try simp only [Act.put, List.setIfInBounds_toArray, List.set_cons_zero, List.set_cons_succ]
            refine wpPlan_end ?_
            have C := E.cells
            simp [BC, CF, Lhu] at C
            go_wp2_with fail
            all_goals go_meet
            all_goals (repeat with_reducible refine Env.drw ?_)
            all_goals exact ((E.put 0 0 (.int .i64 (n0)) rfl).put 0 1 (.int .i64 (n1)) rfl).put 0 2 (.int .i64 (h.c)) rfl
          case rest =>
            clear E C
            have E := hcut
            have C := E.cells
            simp [BC, CF] at C
            go_wp2_with fail
            refine wp_region_plan 16 [(0, true), (1, true), (2, true), (3, true), (4, true), (5, true), (7, true), (8, true), (9, true), (10, true), (11, true), (12, true), (6, false), (13, false), (14, true), (15, false)] (fun W' => Env w W' [⟨w.heap.size + 1, 25, #[.int .i64 n0, .int .i64 n1, .int .i64 h.c, .int .i64 m0, .int .i64 h.e, .int .i64 h.f]⟩, ⟨w.heap.size, 25, #[.int .i64 0, .int .i64 0, .int .i64 0, .int .i64 0, .int .i64 0, .int .i64 0]⟩] ∧ W'.cell? ⟨w.heap.size + 1, 0, none⟩ = some (.int .i64 (n0)) ∧ W'.cell? ⟨w.heap.size + 1, 1, none⟩ = some (.int .i64 (n1)) ∧ W'.cell? ⟨w.heap.size + 1, 2, none⟩ = some (.int .i64 (h.c)) ∧ W'.cell? ⟨w.heap.size + 1, 3, none⟩ = some (.int .i64 (m0)) ∧ W'.cell? ⟨w.heap.size + 1, 4, none⟩ = some (.int .i64 (h.e)) ∧ W'.cell? ⟨w.heap.size + 1, 5, none⟩ = some (.int .i64 (h.f)) ∧ W'.cell? ⟨(a.add (K * 6)).block, (a.add (K * 6)).off + 3, none⟩ = some (.int .i64 y.d) ∧ W'.cell? ⟨(a.add (K * 6)).block, (a.add (K * 6)).off + 4, none⟩ = some (.int .i64 y.e) ∧ W'.cell? ⟨(a.add (K * 6)).block, (a.add (K * 6)).off + 5, none⟩ = some (.int .i64 y.f)) (by kernel_rfl) (by kernel_rfl) (fun _ _ d _ _ h => by cases d <;> exact h) (s_hu E.drw e3 e4 e5) ?_
            simp only [List.filterMap_cons, List.filterMap_nil, List.getElem?_cons_zero, List.getElem?_cons_succ, Option.map_some, List.drop_succ_cons, List.drop_zero]
            replace E := E.drw
            repeat (refine wpPlan_still (v := ?_) (Or.inl ⟨by rfl, ?_⟩) ?_; rotate_left; (focus (intro W hW; (try dsimp only at hW); go_split_ands; go_simp; try with_reducible rfl)); try simp only [Act.put, List.setIfInBounds_toArray, List.set_cons_zero, List.set_cons_succ])
            refine wpPlan_only (fun K hK => ?_)
            try go_simp
            (go_at_call 44; (with_reducible refine (chx _).mono ?_); rintro X w1 ⟨rfl, hb⟩; replace E := E.on hb; clear hb)
            try go_wp2_with fail
            refine hK.out _ _ (s_hu E e3 e4 e5) ?_
            clear hK K
            try simp only [Act.put, List.setIfInBounds_toArray, List.set_cons_zero, List.set_cons_succ]
            refine wpPlan_only (fun K hK => ?_)
            try go_simp
            (go_at_call 44; (with_reducible refine (chy _).mono ?_); rintro X w1 ⟨rfl, hb⟩; replace E := E.on hb; clear hb)
            try go_wp2_with fail
            refine hK.out _ _ (s_hu E e3 e4 e5) ?_
            clear hK K
            try simp only [Act.put, List.setIfInBounds_toArray, List.set_cons_zero, List.set_cons_succ]
            (refine wpPlan_still (v := ?_) (Or.inl ⟨by rfl, ?_⟩) ?_; rotate_left; (focus (intro W hW; (try dsimp only at hW); go_split_ands; go_simp; try with_reducible rfl)); try simp only [Act.put, List.setIfInBounds_toArray, List.set_cons_zero, List.set_cons_succ])
            refine wpPlan_only (fun K hK => ?_)
            try go_simp
            (go_at_call 45; (with_reducible refine (rwith1 _ _ _ _ _).mono ?_); rintro X w1 ⟨rfl, hb⟩; replace E := E.on hb; clear hb)
            try go_wp2_with fail
            refine hK.out _ _ (s_hu E e3 e4 e5) ?_
            clear hK K
            try simp only [Act.put, List.setIfInBounds_toArray, List.set_cons_zero, List.set_cons_succ]
            refine wpPlan_end ?_
            have C := E.cells
            simp [BC, CF, Lhu] at C
            go_wp2_with fail
            exact ⟨⟨2, rfl, by omega, ((E.put 0 3 (.int .i64 (m0)) rfl).put 0 4 (.int .i64 (m1)) rfl).put 0 5 (.int .i64 (h.f)) rfl⟩, by simp [intOf]⟩
        · have C := E.cells
          simp [BC, CF, Lhu] at C
          have clx := fun W => rcoord2 (n0) (n1) (h.c) W
          have cly := fun W => rcoord2 y.a y.b y.c W
          have chx := fun W => rcoord2 (m0) (m1) (h.f) W
          have chy := fun W => rcoord2 y.d y.e y.f W
          have G1 := EL2.out
          have G2 := EH2.out
          go_upto_region 8 with fail
          go_cut [] (fun wx => Env w wx [⟨w.heap.size + 1, 25, #[.int .i64 n0, .int .i64 n1, .int .i64 n2, .int .i64 m0, .int .i64 m1, .int .i64 h.f]⟩, ⟨w.heap.size, 25, #[.int .i64 0, .int .i64 0, .int .i64 0, .int .i64 0, .int .i64 0, .int .i64 0]⟩])
          case first =>
            refine wp_region_plan 16 [(0, true), (1, true), (2, true), (3, true), (4, true), (5, true), (7, true), (8, true), (9, true), (10, true), (11, true), (12, true), (6, false), (13, false), (14, true), (15, false)] (fun W' => Env w W' [⟨w.heap.size + 1, 25, #[.int .i64 n0, .int .i64 n1, .int .i64 h.c, .int .i64 m0, .int .i64 m1, .int .i64 h.f]⟩, ⟨w.heap.size, 25, #[.int .i64 0, .int .i64 0, .int .i64 0, .int .i64 0, .int .i64 0, .int .i64 0]⟩] ∧ W'.cell? ⟨w.heap.size + 1, 0, none⟩ = some (.int .i64 (n0)) ∧ W'.cell? ⟨w.heap.size + 1, 1, none⟩ = some (.int .i64 (n1)) ∧ W'.cell? ⟨w.heap.size + 1, 2, none⟩ = some (.int .i64 (h.c)) ∧ W'.cell? ⟨w.heap.size + 1, 3, none⟩ = some (.int .i64 (m0)) ∧ W'.cell? ⟨w.heap.size + 1, 4, none⟩ = some (.int .i64 (m1)) ∧ W'.cell? ⟨w.heap.size + 1, 5, none⟩ = some (.int .i64 (h.f)) ∧ W'.cell? (a.add (K * 6)) = some (.int .i64 y.a) ∧ W'.cell? ⟨(a.add (K * 6)).block, (a.add (K * 6)).off + 1, none⟩ = some (.int .i64 y.b) ∧ W'.cell? ⟨(a.add (K * 6)).block, (a.add (K * 6)).off + 2, none⟩ = some (.int .i64 y.c)) (by kernel_rfl) (by kernel_rfl) (fun _ _ d _ _ h => by cases d <;> exact h) (s_hu E.drw e0 e1 e2) ?_
            simp only [List.filterMap_cons, List.filterMap_nil, List.getElem?_cons_zero, List.getElem?_cons_succ, Option.map_some, List.drop_succ_cons, List.drop_zero]
            replace E := E.drw
            repeat (refine wpPlan_still (v := ?_) (Or.inl ⟨by rfl, ?_⟩) ?_; rotate_left; (focus (intro W hW; (try dsimp only at hW); go_split_ands; go_simp; try with_reducible rfl)); try simp only [Act.put, List.setIfInBounds_toArray, List.set_cons_zero, List.set_cons_succ])
            refine wpPlan_only (fun K hK => ?_)
            try go_simp
            (go_at_call 44; (with_reducible refine (clx _).mono ?_); rintro X w1 ⟨rfl, hb⟩; replace E := E.on hb; clear hb)
            try go_wp2_with fail
            refine hK.out _ _ (s_hu E e0 e1 e2) ?_
            clear hK K
            try simp only [Act.put, List.setIfInBounds_toArray, List.set_cons_zero, List.set_cons_succ]
            refine wpPlan_only (fun K hK => ?_)
            try go_simp
            (go_at_call 44; (with_reducible refine (cly _).mono ?_); rintro X w1 ⟨rfl, hb⟩; replace E := E.on hb; clear hb)
            try go_wp2_with fail
            refine hK.out _ _ (s_hu E e0 e1 e2) ?_
            clear hK K
            try simp only [Act.put, List.setIfInBounds_toArray, List.set_cons_zero, List.set_cons_succ]
            (refine wpPlan_still (v := ?_) (Or.inl ⟨by rfl, ?_⟩) ?_; rotate_left; (focus (intro W hW; (try dsimp only at hW); go_split_ands; go_simp; try with_reducible rfl)); try simp only [Act.put, List.setIfInBounds_toArray, List.set_cons_zero, List.set_cons_succ])
            refine wpPlan_only (fun K hK => ?_)
            try go_simp
            (go_at_call 45; (with_reducible refine (rwith2 _ _ _ _ _).mono ?_); rintro X w1 ⟨rfl, hb⟩; replace E := E.on hb; clear hb)
            try go_wp2_with fail
            refine hK.out _ _ (s_hu E e0 e1 e2) ?_
            clear hK K
            try simp only [Act.put, List.setIfInBounds_toArray, List.set_cons_zero, List.set_cons_succ]
            refine wpPlan_end ?_
            have C := E.cells
            simp [BC, CF, Lhu] at C
            go_wp2_with fail
            all_goals go_meet
            all_goals (repeat with_reducible refine Env.drw ?_)
            all_goals exact ((E.put 0 0 (.int .i64 (n0)) rfl).put 0 1 (.int .i64 (n1)) rfl).put 0 2 (.int .i64 (n2)) rfl
          case rest =>
            clear E C
            have E := hcut
            have C := E.cells
            simp [BC, CF] at C
            go_wp2_with fail
            refine wp_region_plan 16 [(0, true), (1, true), (2, true), (3, true), (4, true), (5, true), (7, true), (8, true), (9, true), (10, true), (11, true), (12, true), (6, false), (13, false), (14, true), (15, false)] (fun W' => Env w W' [⟨w.heap.size + 1, 25, #[.int .i64 n0, .int .i64 n1, .int .i64 n2, .int .i64 m0, .int .i64 m1, .int .i64 h.f]⟩, ⟨w.heap.size, 25, #[.int .i64 0, .int .i64 0, .int .i64 0, .int .i64 0, .int .i64 0, .int .i64 0]⟩] ∧ W'.cell? ⟨w.heap.size + 1, 0, none⟩ = some (.int .i64 (n0)) ∧ W'.cell? ⟨w.heap.size + 1, 1, none⟩ = some (.int .i64 (n1)) ∧ W'.cell? ⟨w.heap.size + 1, 2, none⟩ = some (.int .i64 (n2)) ∧ W'.cell? ⟨w.heap.size + 1, 3, none⟩ = some (.int .i64 (m0)) ∧ W'.cell? ⟨w.heap.size + 1, 4, none⟩ = some (.int .i64 (m1)) ∧ W'.cell? ⟨w.heap.size + 1, 5, none⟩ = some (.int .i64 (h.f)) ∧ W'.cell? ⟨(a.add (K * 6)).block, (a.add (K * 6)).off + 3, none⟩ = some (.int .i64 y.d) ∧ W'.cell? ⟨(a.add (K * 6)).block, (a.add (K * 6)).off + 4, none⟩ = some (.int .i64 y.e) ∧ W'.cell? ⟨(a.add (K * 6)).block, (a.add (K * 6)).off + 5, none⟩ = some (.int .i64 y.f)) (by kernel_rfl) (by kernel_rfl) (fun _ _ d _ _ h => by cases d <;> exact h) (s_hu E.drw e3 e4 e5) ?_
            simp only [List.filterMap_cons, List.filterMap_nil, List.getElem?_cons_zero, List.getElem?_cons_succ, Option.map_some, List.drop_succ_cons, List.drop_zero]
            replace E := E.drw
            repeat (refine wpPlan_still (v := ?_) (Or.inl ⟨by rfl, ?_⟩) ?_; rotate_left; (focus (intro W hW; (try dsimp only at hW); go_split_ands; go_simp; try with_reducible rfl)); try simp only [Act.put, List.setIfInBounds_toArray, List.set_cons_zero, List.set_cons_succ])
            refine wpPlan_only (fun K hK => ?_)
            try go_simp
            (go_at_call 44; (with_reducible refine (chx _).mono ?_); rintro X w1 ⟨rfl, hb⟩; replace E := E.on hb; clear hb)
            try go_wp2_with fail
            refine hK.out _ _ (s_hu E e3 e4 e5) ?_
            clear hK K
            try simp only [Act.put, List.setIfInBounds_toArray, List.set_cons_zero, List.set_cons_succ]
            refine wpPlan_only (fun K hK => ?_)
            try go_simp
            (go_at_call 44; (with_reducible refine (chy _).mono ?_); rintro X w1 ⟨rfl, hb⟩; replace E := E.on hb; clear hb)
            try go_wp2_with fail
            refine hK.out _ _ (s_hu E e3 e4 e5) ?_
            clear hK K
            try simp only [Act.put, List.setIfInBounds_toArray, List.set_cons_zero, List.set_cons_succ]
            (refine wpPlan_still (v := ?_) (Or.inl ⟨by rfl, ?_⟩) ?_; rotate_left; (focus (intro W hW; (try dsimp only at hW); go_split_ands; go_simp; try with_reducible rfl)); try simp only [Act.put, List.setIfInBounds_toArray, List.set_cons_zero, List.set_cons_succ])
            refine wpPlan_only (fun K hK => ?_)
            try go_simp
            (go_at_call 45; (with_reducible refine (rwith2 _ _ _ _ _).mono ?_); rintro X w1 ⟨rfl, hb⟩; replace E := E.on hb; clear hb)
            try go_wp2_with fail
            refine hK.out _ _ (s_hu E e3 e4 e5) ?_
            clear hK K
            try simp only [Act.put, List.setIfInBounds_toArray, List.set_cons_zero, List.set_cons_succ]
            refine wpPlan_end ?_
            have C := E.cells
            simp [BC, CF, Lhu] at C
            go_wp2_with fail
            exact ⟨⟨3, rfl, by omega, ((E.put 0 3 (.int .i64 (m0)) rfl).put 0 4 (.int .i64 (m1)) rfl).put 0 5 (.int .i64 (m2)) rfl⟩, by simp [intOf]⟩
        · have C := E.cells
          simp [BC, CF, Lhu] at C
          go_wp2_with fail
          exact ⟨⟨K + 1, rfl, by omega, by omega, by rw [HT.out, HU.out]; exact E⟩, by simp [intOf]; omega⟩
    · have g1 : decide ((K : Int) < (l.length : Int) + 1) = false := by simp; omega
      have g1' : decide ((K : Int) < ((l.length + 1 : Nat) : Int)) = false := by simp; omega
      have eK : l.take (K - 1) = l := List.take_of_length_le (by omega)
      rw [eK] at E
      have C := E.cells
      simp [BC, CF] at C
      have HE : Hid (R = Value.agg #[.int .i64 (l.foldl hullB x).a, .int .i64 (l.foldl hullB x).b, .int .i64 (l.foldl hullB x).c, .int .i64 (l.foldl hullB x).d, .int .i64 (l.foldl hullB x).e, .int .i64 (l.foldl hullB x).f]) := Lib.hid HR.out
      generalize l.foldl hullB x = h at *
      go_wp2_with fail
      refine bodyPost_ret (v := .agg #[.int .i64 h.a, .int .i64 h.b, .int .i64 h.c, .int .i64 h.d, .int .i64 h.e, .int .i64 h.f]) (by simp [results, Try.results28, go_sem, C]) rfl ⟨by rw [HE.out], ?_⟩
      exact ((((((E.1.setCell (by dsimp only; omega) _).setCell (by dsimp only; omega) _).setCell (by dsimp only; omega) _).setCell (by dsimp only; omega) _).setCell (by dsimp only; omega) _).setCell (by dsimp only; omega) _)
end Go.Proofs.Ytffigpkkdljaiaa
