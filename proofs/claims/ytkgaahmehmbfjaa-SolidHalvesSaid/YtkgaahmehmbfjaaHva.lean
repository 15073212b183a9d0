/- SolidHalves, an axis. -/
import Derived.Test.YtkgaahmehmbfjaaHv
namespace Go.Proofs.Ytkgaahmehmbfjaa
open Go.ChangeShapes Go.WideShapes Go.ChangeAt Go.RowKit Go.Maps Go.Shelf
set_option linter.unusedVariables false
set_option linter.unusedSimpArgs false

set_option maxHeartbeats 8000000 in
set_option maxRecDepth 100000 in
theorem halves_0 (p q : Option Addr) (l h : List Bx) (c d : Nat) (b : Bx) (ax pt x y : Int) (w : World) (hS : Sl w p l) (hT : Sl w q h) (hr : rgtS l h = true) (hbo : b.ok = true)
    (hax : 0 ≤ ax ∧ ax ≤ 255) (hpt : 0 ≤ pt ∧ pt ≤ 65535) (hx : 0 ≤ x ∧ x ≤ 65535) (hy : 0 ≤ y ∧ y ≤ 65535) (hm : ax.tmod 3 = 0) :
    Calls Try.prog 7 #[sv p q l h c d, b.val, .int .u8 ax, .int .u16 pt, .int .u16 x, .int .u16 y] w fun e w' => e = .returned (.bool true) ∧ Below w.heap.size w w' := by
  have hs := (rgtS_i.1 hr).2.2
  have hk := Bx.ok_i.1 hbo
  have bp := at_in (lo := b.a) (hi := b.d) (n := pt) (by omega) hpt.1 hpt.2
  have bx := at_in (lo := b.a) (hi := b.d) (n := x) (by omega) hx.1 hx.2
  have by_ := at_in (lo := b.b) (hi := b.e) (n := y) (by omega) hy.1 hy.2
  have bz := at_in (lo := b.c) (hi := b.f) (n := pt) (by omega) hpt.1 hpt.2
  have a0 := fun W (hG : Has W (w.heap.size + 1) 30 #[.int .i64 b.a, .int .i64 b.b, .int .i64 b.c, .int .i64 b.d, .int .i64 b.e, .int .i64 b.f]) => at38_0 (w.heap.size + 1) b x W hbo hx.1 hx.2 hG
  have a1 := fun W (hG : Has W (w.heap.size + 1) 30 #[.int .i64 b.a, .int .i64 b.b, .int .i64 b.c, .int .i64 b.d, .int .i64 b.e, .int .i64 b.f]) => at38_1 (w.heap.size + 1) b y W hbo hy.1 hy.2 hG
  have a2 := fun W (hG : Has W (w.heap.size + 1) 30 #[.int .i64 b.a, .int .i64 b.b, .int .i64 b.c, .int .i64 b.d, .int .i64 b.e, .int .i64 b.f]) => at38_2 (w.heap.size + 1) b pt W hbo hpt.1 hpt.2 hG
  have ak := fun W (hG : Has W (w.heap.size + 1) 30 #[.int .i64 b.a, .int .i64 b.b, .int .i64 b.c, .int .i64 b.d, .int .i64 b.e, .int .i64 b.f]) => at38_0 (w.heap.size + 1) b pt W hbo hpt.1 hpt.2 hG
  have hbx : ∀ {W : World} {f0 f1 f2 : Fb}, Env w W [f0, f1, ⟨w.heap.size + 1, 30, #[.int .i64 b.a, .int .i64 b.b, .int .i64 b.c, .int .i64 b.d, .int .i64 b.e, .int .i64 b.f]⟩, f2] → Has W (w.heap.size + 1) 30 #[.int .i64 b.a, .int .i64 b.b, .int .i64 b.c, .int .i64 b.d, .int .i64 b.e, .int .i64 b.f] := fun E => E.2.2.2.2.2.2.2.2.1
  have W0 : IntKind.i64.wrap ax = ax := IntWalk.i64_in _ (by omega)
  have awk := fun W => awake_9 W
  have h30 := fun W a b => right_30 p q l h c d W a b
  have h19 : ∀ W, Calls Try.prog 19 #[b.val] W fun e w' => e = .returned (.bool b.ok) ∧ Below W.heap.size W w' := fun W => rvalid_any b W
  have E := ((Env.nil w).add w.heap.size 24 #[.slice p l.length c, .slice q h.length d] rfl).add (w.heap.size + 1) 30 #[.int .i64 b.a, .int .i64 b.b, .int .i64 b.c, .int .i64 b.d, .int .i64 b.e, .int .i64 b.f] (by simp)
  have C := E.cells
  simp [BC, CF] at C
  unfold Bx.val sv at *
  simp only [hr] at h30
  simp only [hbo] at h19
  generalize atI b.a b.d pt = P at *
  generalize atI b.a b.d x = PX at *
  generalize atI b.b b.e y = PY at *
  generalize atI b.c b.f pt = PZ at *
  have hv := hv_ok (k := 0) (p := P) hbo bp
  have hpo : (ptX PX PY PZ).ok = true := by rw [Bx.ok_i]; simp only [ptX]; omega
  have hI := in_halves hs (k := 0) (p := P) hbo bp
  have hP := in_point (l := l) (h := h) (x := PX) (y := PY) (z := PZ) hbo bx by_ bz
  have hcb : ∀ W, Sl W p l → Sl W q h → Calls Try.prog 13 #[.agg #[.slice p l.length c, .slice q h.length d], .agg #[.int .i64 b.a, .int .i64 b.b, .int .i64 b.c, .int .i64 b.d, .int .i64 b.e, .int .i64 b.f]] W fun e w' => e = .returned (.tuple #[.bool (inS l h b), .int .i64 0]) ∧ Below W.heap.size W w' := fun W a e => Contains_ok p q l h c d b W a e hs hbo
  have hcl : ∀ W, Sl W p l → Sl W q h → Calls Try.prog 13 #[.agg #[.slice p l.length c, .slice q h.length d], .agg #[.int .i64 b.a, .int .i64 b.b, .int .i64 b.c, .int .i64 P, .int .i64 b.e, .int .i64 b.f]] W fun e w' => e = .returned (.tuple #[.bool (inS l h (lfB 0 b P)), .int .i64 0]) ∧ Below W.heap.size W w' := fun W a e => Contains_ok p q l h c d (lfB 0 b P) W a e hs hv.1
  have hcr : ∀ W, Sl W p l → Sl W q h → Calls Try.prog 13 #[.agg #[.slice p l.length c, .slice q h.length d], .agg #[.int .i64 P, .int .i64 b.b, .int .i64 b.c, .int .i64 b.d, .int .i64 b.e, .int .i64 b.f]] W fun e w' => e = .returned (.tuple #[.bool (inS l h (rtB 0 b P)), .int .i64 0]) ∧ Below W.heap.size W w' := fun W a e => Contains_ok p q l h c d (rtB 0 b P) W a e hs hv.2
  have hcp : ∀ W, Sl W p l → Sl W q h → Calls Try.prog 13 #[.agg #[.slice p l.length c, .slice q h.length d], .agg #[.int .i64 PX, .int .i64 PY, .int .i64 PZ, .int .i64 PX, .int .i64 PY, .int .i64 PZ]] W fun e w' => e = .returned (.tuple #[.bool (inS l h (ptX PX PY PZ)), .int .i64 0]) ∧ Below W.heap.size W w' := fun W a e => Contains_ok p q l h c d (ptX PX PY PZ) W a e hs hpo
  have hin : ∀ W, Sl W p l → Sl W q h → Calls Try.prog 12 #[.agg #[.slice p l.length c, .slice q h.length d], .agg #[.int .i64 PX, .int .i64 PY, .int .i64 PZ]] W fun e w' => e = .returned (.tuple #[.bool (inS l h (ptX PX PY PZ)), .int .i64 0]) ∧ Below W.heap.size W w' := fun W a e => Inside_ok p q l h c d PX PY PZ W a e hs hpo
  have w1 := fun W => rwith0 b.d b.e b.f P W
  have w2 := fun W => rwith0 b.a b.b b.c P W
  generalize inS l h (ptX PX PY PZ) = Ip at *
  generalize inS l h (lfB 0 b P) = Il at *
  generalize inS l h (rtB 0 b P) = Ir at *
  generalize inS l h b = Ib at *
  have HI := Lib.hid (And.intro hI hP)
  clear hI hP hv hpo bp bx by_ bz hk hs hr
  go_enter Try.func7, Try.ntmps7
  go_upto_region 7 with (first
    | (go_at_call 9; (with_reducible refine (awk _).mono ?_); rintro X wq ⟨rfl, hb⟩; replace E := E.on hb; replace C := E.cells; simp [BC, CF] at C; clear hb)
    | (go_at_call 30; (with_reducible refine (h30 _ (hS.on (envB E)) (hT.on (envB E))).mono ?_); rintro X wq ⟨rfl, hb⟩; replace E := E.on hb; replace C := E.cells; simp [BC, CF] at C; clear hb)
    | (go_at_call 19; (with_reducible refine (h19 _).mono ?_); rintro X wq ⟨rfl, hb⟩; replace E := E.on hb; replace C := E.cells; simp [BC, CF] at C; clear hb))
  go_cut [15, 16] (fun s t wx => ∃ g k : Nat, s = .pointer (some ⟨g, 0, none⟩) ∧ t = .pointer (some ⟨k, 0, none⟩) ∧ Env w wx [⟨k, 30, #[.int .i64 b.a, .int .i64 b.b, .int .i64 b.c, .int .i64 b.d, .int .i64 b.e, .int .i64 b.f]⟩, ⟨g, 30, #[.int .i64 b.a, .int .i64 b.b, .int .i64 b.c, .int .i64 b.d, .int .i64 b.e, .int .i64 b.f]⟩, ⟨w.heap.size + 1, 30, #[.int .i64 b.a, .int .i64 b.b, .int .i64 b.c, .int .i64 b.d, .int .i64 b.e, .int .i64 b.f]⟩, ⟨w.heap.size, 24, #[.slice p l.length c, .slice q h.length d]⟩])
  case first =>
    go_region_law (fail)
    all_goals (go_wp2_with fail)
    all_goals go_meet
    all_goals refine ⟨_, _, rfl, rfl, ?_⟩
    all_goals (repeat with_reducible refine Env.drw ?_)
    all_goals (try with_reducible exact tw1 E)
    all_goals (try with_reducible exact tw2 E)
    all_goals (try with_reducible exact ((E.add _ 30 #[.int .i64 0, .int .i64 0, .int .i64 0, .int .i64 0, .int .i64 0, .int .i64 0] rfl).add _ 30 #[.int .i64 b.a, .int .i64 b.b, .int .i64 b.c, .int .i64 b.d, .int .i64 b.e, .int .i64 b.f] (sz1 rfl)).six 1 rfl)
    all_goals (try with_reducible exact ((((E.add _ 30 #[.int .i64 0, .int .i64 0, .int .i64 0, .int .i64 0, .int .i64 0, .int .i64 0] rfl).add _ 30 #[.int .i64 b.a, .int .i64 b.b, .int .i64 b.c, .int .i64 b.d, .int .i64 b.e, .int .i64 b.f] (sz1 rfl)).six 1 rfl).swap))
    all_goals exact (0 : Nat)
  case rest =>
  clear E C
  obtain ⟨gl, gr, rfl, rfl, E⟩ := hcut
  have C := E.cells
  simp [BC, CF] at C
  go_upto_region 9 with (first | (go_at_call 38; (with_reducible refine (ak _ (hbx E)).mono ?_); rintro X wq ⟨rfl, hb⟩; replace E := E.on hb; replace C := E.cells; simp [BC, CF] at C; clear hb))
  refine wp_region_plan 11 [(0, true), (1, true), (2, true), (3, true), (5, true), (6, true), (7, true), (8, true), (4, false), (10, true), (9, false)] (fun W' => W'.cell? ⟨gl, 3, none⟩ = some (.int .i64 b.d) ∧ W'.cell? ⟨gl, 4, none⟩ = some (.int .i64 b.e) ∧ W'.cell? ⟨gl, 5, none⟩ = some (.int .i64 b.f) ∧ W'.cell? ⟨gr, 0, none⟩ = some (.int .i64 b.a) ∧ W'.cell? ⟨gr, 1, none⟩ = some (.int .i64 b.b) ∧ W'.cell? ⟨gr, 2, none⟩ = some (.int .i64 b.c)) (by kernel_rfl) (by kernel_rfl) (fun _ _ d _ _ h => by cases d <;> exact h) (hv_s9 E.drw) ?_
  replace E := E.drw
  simp only [List.filterMap_cons, List.filterMap_nil, List.getElem?_cons_zero, List.getElem?_cons_succ, Option.map_some, List.drop_succ_cons, List.drop_zero]
  iterate 8 (first | (refine wpPlan_still (v := ?_) (Or.inl ⟨by rfl, ?_⟩) ?_; rotate_left; (focus (intro W hW; (try dsimp only at hW); go_split_ands; go_simp; try with_reducible rfl)); try simp only [Act.put, List.setIfInBounds_toArray, List.set_cons_zero, List.set_cons_succ]) | (refine wpPlan_still (Or.inr ⟨by rfl, rfl⟩) ?_; try simp only [Act.put, List.setIfInBounds_toArray, List.set_cons_zero, List.set_cons_succ]))
  refine wpPlan_only (fun K hK => ?_)
  try go_simp
  (go_at_call 40; (with_reducible refine (w1 _).mono ?_); rintro X wq ⟨rfl, hb⟩)
  replace E := E.on hb
  clear hb
  refine hK.out _ _ (hv_s9 E) ?_
  clear hK K
  try simp only [Act.put, List.setIfInBounds_toArray, List.set_cons_zero, List.set_cons_succ]
  iterate 1 (first | (refine wpPlan_still (v := ?_) (Or.inl ⟨by rfl, ?_⟩) ?_; rotate_left; (focus (intro W hW; (try dsimp only at hW); go_split_ands; go_simp; try with_reducible rfl)); try simp only [Act.put, List.setIfInBounds_toArray, List.set_cons_zero, List.set_cons_succ]) | (refine wpPlan_still (Or.inr ⟨by rfl, rfl⟩) ?_; try simp only [Act.put, List.setIfInBounds_toArray, List.set_cons_zero, List.set_cons_succ]))
  refine wpPlan_only (fun K hK => ?_)
  try go_simp
  (go_at_call 40; (with_reducible refine (w2 _).mono ?_); rintro X wq ⟨rfl, hb⟩)
  replace E := E.on hb
  clear hb
  refine hK.out _ _ (hv_s9 E) ?_
  clear hK K
  try simp only [Act.put, List.setIfInBounds_toArray, List.set_cons_zero, List.set_cons_succ]
  refine wpPlan_end ?_
  have hNe : gl ≠ gr := by
    have := E.2.2.2.1 ⟨gl, 30, #[.int .i64 b.a, .int .i64 b.b, .int .i64 b.c, .int .i64 b.d, .int .i64 b.e, .int .i64 b.f]⟩ (by simp)
    simpa using this
  have hNe2 : gr ≠ gl := Ne.symm hNe
  replace C := E.cells
  simp [BC, CF] at C
  go_upto_region 10 with fail
  have E1 : Env w ((((((wq.setCell ⟨gl, 3, none⟩ (.int .i64 P)).setCell ⟨gl, 4, none⟩ (.int .i64 b.e)).setCell ⟨gl, 5, none⟩ (.int .i64 b.f)).setCell ⟨gr, 0, none⟩ (.int .i64 P)).setCell ⟨gr, 1, none⟩ (.int .i64 b.b)).setCell ⟨gr, 2, none⟩ (.int .i64 b.c)) [⟨gr, 30, #[.int .i64 P, .int .i64 b.b, .int .i64 b.c, .int .i64 b.d, .int .i64 b.e, .int .i64 b.f]⟩, ⟨gl, 30, #[.int .i64 b.a, .int .i64 b.b, .int .i64 b.c, .int .i64 P, .int .i64 b.e, .int .i64 b.f]⟩, ⟨w.heap.size + 1, 30, #[.int .i64 b.a, .int .i64 b.b, .int .i64 b.c, .int .i64 b.d, .int .i64 b.e, .int .i64 b.f]⟩, ⟨w.heap.size, 24, #[.slice p l.length c, .slice q h.length d]⟩] := (((((E.put 1 3 _ rfl).put 1 4 _ rfl).put 1 5 _ rfl).put 0 0 _ rfl).put 0 1 _ rfl).put 0 2 _ rfl
  clear E C
  generalize ((((((wq.setCell ⟨gl, 3, none⟩ (.int .i64 P)).setCell ⟨gl, 4, none⟩ (.int .i64 b.e)).setCell ⟨gl, 5, none⟩ (.int .i64 b.f)).setCell ⟨gr, 0, none⟩ (.int .i64 P)).setCell ⟨gr, 1, none⟩ (.int .i64 b.b)).setCell ⟨gr, 2, none⟩ (.int .i64 b.c)) = w9 at *
  have E := E1
  clear E1
  have C := E.cells
  simp [BC, CF] at C
  go_upto_region 13 with (first | (go_at_call 13; (with_reducible refine (hcb _ (hS.on (envB E)) (hT.on (envB E))).mono ?_); rintro X wq ⟨rfl, hb⟩; replace E := E.on hb; replace C := E.cells; simp [BC, CF] at C; clear hb) | (go_at_call 13; (with_reducible refine (hcl _ (hS.on (envB E)) (hT.on (envB E))).mono ?_); rintro X wq ⟨rfl, hb⟩; replace E := E.on hb; replace C := E.cells; simp [BC, CF] at C; clear hb) | (go_at_call 13; (with_reducible refine (hcr _ (hS.on (envB E)) (hT.on (envB E))).mono ?_); rintro X wq ⟨rfl, hb⟩; replace E := E.on hb; replace C := E.cells; simp [BC, CF] at C; clear hb))
  cases Il
  · have e : Ib = false := HI.out.1
    subst e
    clear HI
    cases Ip
    · go_upto_region 16 with (first | (go_at_call 38; (with_reducible refine (a0 _ (hbx E)).mono ?_); rintro X wq ⟨rfl, hb⟩; replace E := E.on hb; replace C := E.cells; simp [BC, CF] at C; clear hb) | (go_at_call 38; (with_reducible refine (a1 _ (hbx E)).mono ?_); rintro X wq ⟨rfl, hb⟩; replace E := E.on hb; replace C := E.cells; simp [BC, CF] at C; clear hb) | (go_at_call 38; (with_reducible refine (a2 _ (hbx E)).mono ?_); rintro X wq ⟨rfl, hb⟩; replace E := E.on hb; replace C := E.cells; simp [BC, CF] at C; clear hb))
      replace E := E.add wq.heap.size 28 #[.int .i64 PX, .int .i64 PY, .int .i64 PZ] rfl
      replace C := E.cells
      simp [BC, CF] at C
      go_wp2_with (first
        | (go_at_call 12; (with_reducible refine (hin _ (hS.on (envB E)) (hT.on (envB E))).mono ?_); rintro X wq ⟨rfl, hb⟩; replace E := E.on hb; replace C := E.cells; simp [BC, CF] at C; clear hb)
        | (go_at_call 13; (with_reducible refine (hcp _ (hS.on (envB E)) (hT.on (envB E))).mono ?_); rintro X wq ⟨rfl, hb⟩; replace E := E.on hb; replace C := E.cells; simp [BC, CF] at C; clear hb))
      go_ret
      exact ⟨by first | rfl | simp, E.1⟩
    · go_upto_region 16 with (first | (go_at_call 38; (with_reducible refine (a0 _ (hbx E)).mono ?_); rintro X wq ⟨rfl, hb⟩; replace E := E.on hb; replace C := E.cells; simp [BC, CF] at C; clear hb) | (go_at_call 38; (with_reducible refine (a1 _ (hbx E)).mono ?_); rintro X wq ⟨rfl, hb⟩; replace E := E.on hb; replace C := E.cells; simp [BC, CF] at C; clear hb) | (go_at_call 38; (with_reducible refine (a2 _ (hbx E)).mono ?_); rintro X wq ⟨rfl, hb⟩; replace E := E.on hb; replace C := E.cells; simp [BC, CF] at C; clear hb))
      replace E := E.add wq.heap.size 28 #[.int .i64 PX, .int .i64 PY, .int .i64 PZ] rfl
      replace C := E.cells
      simp [BC, CF] at C
      go_wp2_with (first
        | (go_at_call 12; (with_reducible refine (hin _ (hS.on (envB E)) (hT.on (envB E))).mono ?_); rintro X wq ⟨rfl, hb⟩; replace E := E.on hb; replace C := E.cells; simp [BC, CF] at C; clear hb)
        | (go_at_call 13; (with_reducible refine (hcp _ (hS.on (envB E)) (hT.on (envB E))).mono ?_); rintro X wq ⟨rfl, hb⟩; replace E := E.on hb; replace C := E.cells; simp [BC, CF] at C; clear hb))
      go_ret
      exact ⟨by first | rfl | simp, E.1⟩
  cases Ir
  · have e : Ib = false := HI.out.1
    subst e
    clear HI
    cases Ip
    · go_upto_region 16 with (first | (go_at_call 38; (with_reducible refine (a0 _ (hbx E)).mono ?_); rintro X wq ⟨rfl, hb⟩; replace E := E.on hb; replace C := E.cells; simp [BC, CF] at C; clear hb) | (go_at_call 38; (with_reducible refine (a1 _ (hbx E)).mono ?_); rintro X wq ⟨rfl, hb⟩; replace E := E.on hb; replace C := E.cells; simp [BC, CF] at C; clear hb) | (go_at_call 38; (with_reducible refine (a2 _ (hbx E)).mono ?_); rintro X wq ⟨rfl, hb⟩; replace E := E.on hb; replace C := E.cells; simp [BC, CF] at C; clear hb))
      replace E := E.add wq.heap.size 28 #[.int .i64 PX, .int .i64 PY, .int .i64 PZ] rfl
      replace C := E.cells
      simp [BC, CF] at C
      go_wp2_with (first
        | (go_at_call 12; (with_reducible refine (hin _ (hS.on (envB E)) (hT.on (envB E))).mono ?_); rintro X wq ⟨rfl, hb⟩; replace E := E.on hb; replace C := E.cells; simp [BC, CF] at C; clear hb)
        | (go_at_call 13; (with_reducible refine (hcp _ (hS.on (envB E)) (hT.on (envB E))).mono ?_); rintro X wq ⟨rfl, hb⟩; replace E := E.on hb; replace C := E.cells; simp [BC, CF] at C; clear hb))
      go_ret
      exact ⟨by first | rfl | simp, E.1⟩
    · go_upto_region 16 with (first | (go_at_call 38; (with_reducible refine (a0 _ (hbx E)).mono ?_); rintro X wq ⟨rfl, hb⟩; replace E := E.on hb; replace C := E.cells; simp [BC, CF] at C; clear hb) | (go_at_call 38; (with_reducible refine (a1 _ (hbx E)).mono ?_); rintro X wq ⟨rfl, hb⟩; replace E := E.on hb; replace C := E.cells; simp [BC, CF] at C; clear hb) | (go_at_call 38; (with_reducible refine (a2 _ (hbx E)).mono ?_); rintro X wq ⟨rfl, hb⟩; replace E := E.on hb; replace C := E.cells; simp [BC, CF] at C; clear hb))
      replace E := E.add wq.heap.size 28 #[.int .i64 PX, .int .i64 PY, .int .i64 PZ] rfl
      replace C := E.cells
      simp [BC, CF] at C
      go_wp2_with (first
        | (go_at_call 12; (with_reducible refine (hin _ (hS.on (envB E)) (hT.on (envB E))).mono ?_); rintro X wq ⟨rfl, hb⟩; replace E := E.on hb; replace C := E.cells; simp [BC, CF] at C; clear hb)
        | (go_at_call 13; (with_reducible refine (hcp _ (hS.on (envB E)) (hT.on (envB E))).mono ?_); rintro X wq ⟨rfl, hb⟩; replace E := E.on hb; replace C := E.cells; simp [BC, CF] at C; clear hb))
      go_ret
      exact ⟨by first | rfl | simp, E.1⟩
  have e : Ib = true := HI.out.1
  subst e
  have e : Ip = true := HI.out.2 rfl
  subst e
  clear HI
  go_upto_region 16 with (first | (go_at_call 38; (with_reducible refine (a0 _ (hbx E)).mono ?_); rintro X wq ⟨rfl, hb⟩; replace E := E.on hb; replace C := E.cells; simp [BC, CF] at C; clear hb) | (go_at_call 38; (with_reducible refine (a1 _ (hbx E)).mono ?_); rintro X wq ⟨rfl, hb⟩; replace E := E.on hb; replace C := E.cells; simp [BC, CF] at C; clear hb) | (go_at_call 38; (with_reducible refine (a2 _ (hbx E)).mono ?_); rintro X wq ⟨rfl, hb⟩; replace E := E.on hb; replace C := E.cells; simp [BC, CF] at C; clear hb))
  replace E := E.add wq.heap.size 28 #[.int .i64 PX, .int .i64 PY, .int .i64 PZ] rfl
  replace C := E.cells
  simp [BC, CF] at C
  go_wp2_with (first
    | (go_at_call 12; (with_reducible refine (hin _ (hS.on (envB E)) (hT.on (envB E))).mono ?_); rintro X wq ⟨rfl, hb⟩; replace E := E.on hb; replace C := E.cells; simp [BC, CF] at C; clear hb)
    | (go_at_call 13; (with_reducible refine (hcp _ (hS.on (envB E)) (hT.on (envB E))).mono ?_); rintro X wq ⟨rfl, hb⟩; replace E := E.on hb; replace C := E.cells; simp [BC, CF] at C; clear hb))
  go_ret
  exact ⟨by first | rfl | simp, E.1⟩
end Go.Proofs.Ytkgaahmehmbfjaa
