/- The reference's Path; FramePaths. -/
import Derived.Test.YtmfclelnaceonaaS
namespace Go.Proofs.Ytmfclelnaceonaa
open Go.ChangeShapes Go.WideShapes Go.ChangeAt Go.RowKit
set_option linter.unusedVariables false
set_option linter.unusedSimpArgs false

set_option maxHeartbeats 8000000 in
set_option maxRecDepth 100000 in
theorem rPath_main (t : Tn) (at_ : Pt) (p : Option Addr) (l : List Pt) (cap : Nat) (w : World) (hS : Sl w p l) (ht : vT t = true) (hl : l.length ≤ 1000) (hn : nearB at_ = true) (cd : Int) (LL : List Pt)
    (hgood : l.all nearB = true → cd = 0 ∧ LL = psL t at_ l) (hbad : l.all nearB = false → cd = 2 ∧ LL = []) :
    Calls Try.prog 26 #[t.val, at_.val, .slice p l.length cap] w fun e w' => ∃ v, e = .returned (.tuple #[v, .int .i64 cd]) ∧ Own pc 37 3 w.heap.size w' v LL ∧ Below w.heap.size w w' := by
  have h1 := fun W => valid_12 t W
  have f1 := fun W => near_23 at_ W
  have HI := Lib.hid (fun x (hx : nearB x = true) W => image_24 t x W ht (bd_mono (nearB_bd hx) (by decide)))
  have HB := Lib.hid (fun x (hx : nearB x = true) => img_bd ht (nearB_bd hx))
  have HF := Lib.hid (fun x W => near_23 x W)
  rw [ht] at h1
  rw [hn] at f1
  have HA := Lib.hid (nearB_bd hn)
  have HS := Lib.hid hS
  have HP := Lib.hid (fun k (hk : k < l.length) => ps_step (t := t) (at_ := at_) hk)
  have H0 : Hid (psL t at_ (l.take 0) = []) := Lib.hid rfl
  have HG : Hid ((∀ x ∈ l.take l.length, nearB x = true) → cd = 0 ∧ LL = psL t at_ (l.take l.length)) := Lib.hid (fun h => by
    rw [List.take_length] at h ⊢
    exact hgood (List.all_eq_true.2 h))
  have HX : Hid (∀ k (hk : k < l.length), nearB l[k] = false → cd = 2 ∧ LL = []) := Lib.hid (fun k hk h => hbad (List.all_eq_false.2 ⟨_, List.getElem_mem hk, by simp [h]⟩))
  have HL2 := Lib.hid (fun k (hk : k ≤ l.length) => show (psL t at_ (l.take k)).length = k by rw [psL, List.length_map, List.length_take]; omega)
  clear ht hn hS hgood hbad
  obtain ⟨PS, hPS⟩ : ∃ PS : Nat → List Pt, PS = fun k => psL t at_ (l.take k) := ⟨_, rfl⟩
  have HPS : ∀ k, psL t at_ (l.take k) = PS k := fun k => by rw [hPS]
  simp only [HPS] at HP H0 HG HL2
  clear HPS hPS
  obtain ⟨n, hn⟩ : ∃ n, Hid (l.length = n) := ⟨_, Lib.hid rfl⟩
  rw [hn.out] at hl HG ⊢
  obtain ⟨i0, hinf, hz0, hz1, hz2⟩ := info_parts info37
  obtain ⟨im, hm⟩ : ∃ im : Pt → Pt, im = img t := ⟨_, rfl⟩
  rw [← hm] at HI HB HP
  clear hm
  obtain ⟨x, y⟩ := t
  obtain ⟨p0, p1, p2⟩ := at_
  unfold Tn.val Pt.val at *
  dsimp only at *
  have W9 : decide ((n : Int) > 1000) = false := by simp; omega
  have W8 : decide (1000 < (n : Int)) = false := by simp; omega
  have E := ((Env.nil w).add (w.heap.size) 23 #[.int .i64 x, .int .i64 y] rfl).add (w.heap.size + 1) 37 #[.int .i64 p0, .int .i64 p1, .int .i64 p2] (by simp)
  have C := E.cells
  simp [BC, CF] at C
  go_enter Try.func26, Try.ntmps26
  go_wp2_with (first
    | (go_at_call 12; (with_reducible refine (h1 _).mono ?_); rintro X wq ⟨rfl, hb⟩; replace E := E.on hb; replace C := E.cells; simp [BC, CF] at C; clear hb)
    | (go_at_call 23; (with_reducible refine (f1 _).mono ?_); rintro X wq ⟨rfl, hb⟩; replace E := E.on hb; replace C := E.cells; simp [BC, CF] at C; clear hb))
  go_loopw [8, 9] (fun v8 v9 wr => ∃ (k : Nat) (F : Value), v9 = .int .i64 k ∧ F = v8 ∧ k ≤ n ∧ Hid (∀ x ∈ l.take k, nearB x = true) ∧ Env w wr [⟨w.heap.size + 1, 37, #[.int .i64 p0, .int .i64 p1, .int .i64 p2]⟩, ⟨w.heap.size, 23, #[.int .i64 x, .int .i64 y]⟩] ∧ Own pc 37 3 (w.heap.size + 2) wr F (PS k)) (fun _ v _ => n - (intOf v).toNat)
  case atStart => exact ⟨0, _, rfl, rfl, Nat.zero_le _, Lib.hid (by simp), E, by rw [H0.out]; exact own_nil _ _ _ _ _⟩
  case round =>
    clear E C
    obtain ⟨k, F, rfl, rfl, hk, hK, E, hO⟩ := hrel
    have C := E.cells
    simp [BC, CF] at C
    by_cases hlt : k < n
    · have hkl : k < l.length := by rw [hn.out]; exact hlt
      have g1 : decide ((k : Int) < (n : Int)) = true := by simp [hlt]
      have W1 : IntKind.i64.wrap ((k : Int) + 1) = ((k + 1 : Nat) : Int) := by rw [IntWalk.i64_in _ (by omega)]; omega
      have q1 : (0 : Int) ≤ (k : Int) := by omega
      have q2 : (k : Int) < (n : Int) := by omega
      obtain ⟨a, rfl, c0, c1, c2⟩ := (HS.out.on E.1).at hkl
      have hx := Lib.hid (HX.out k hkl)
      have hf := HF.out l[k]
      have hp := Lib.hid (HP.out k hkl)
      have hol := HL2.out k (by rw [hn.out]; exact hk)
      have hi := Lib.hid (HI.out l[k])
      have hbd := Lib.hid (HB.out l[k])
      have hA2 := Lib.hid (fun hv => all_drop (k := k) hkl hK.out hv)
      generalize l[k] = el at *
      cases hv : nearB el
      · rw [hv] at hf
        obtain ⟨x0, x1, x2⟩ := el
        dsimp only at *
        have hxx := Lib.hid (hx.out hv)
        clear hv hx hi hbd hp hA2
        go_wp2_with (go_at_call 23; (with_reducible refine (hf _).mono ?_); rintro X wq ⟨rfl, hb⟩; replace E := E.on hb; replace C := E.cells; simp [BC, CF] at C; clear hb)
        exact bodyPost_ret (v := .tuple #[.slice none 0 0, .int .i64 2]) (by simp [results, Try.results26, go_sem]) rfl ⟨_, by rw [hxx.out.1], by rw [hxx.out.2]; exact own_nil _ _ _ _ _, envb E⟩
      · rw [hv] at hf
        replace hi := hi.out hv
        replace hbd := hbd.out hv
        replace hA2 := Lib.hid (hA2.out hv)
        clear hx hv
        generalize im el = U at *
        obtain ⟨x0, x1, x2⟩ := el
        obtain ⟨u0, u1, u2⟩ := U
        have o1 := bd_ok (ad_bd hbd HA.out) (by decide)
        have hs : ∀ W, Calls Try.prog 49 #[.agg #[.int .i64 u0, .int .i64 u1, .int .i64 u2], .agg #[.int .i64 p0, .int .i64 p1, .int .i64 p2]] W fun e w' => e = .returned (.agg #[.int .i64 (u0 + p0), .int .i64 (u1 + p1), .int .i64 (u2 + p2)]) ∧ Below W.heap.size W w' := fun W => plus_49 u0 u1 u2 p0 p1 p2 o1.1 o1.2.1 o1.2.2 W
        simp only [ad] at hp
        dsimp only at *
        clear o1 hbd
        generalize PS k = O at *
        have hsz := E.1.size
        go_upto_region 13 with (go_at_call 23; (with_reducible refine (hf _).mono ?_); rintro X wq ⟨rfl, hb⟩; replace E := E.on hb; replace hO := own_on hO hb; replace c0 := cell_later hb c0; replace c1 := cell_later hb c1; replace c2 := cell_later hb c2; replace C := E.cells; simp [BC, CF] at C; clear hb)
        refine wp_region_plan 10 [(0, true), (1, true), (2, true), (3, true), (4, true), (5, true), (7, true), (6, false), (8, false), (9, false)] (fun W' => Env w W' [⟨w.heap.size + 1, 37, #[.int .i64 p0, .int .i64 p1, .int .i64 p2]⟩, ⟨w.heap.size, 23, #[.int .i64 x, .int .i64 y]⟩] ∧ W'.cell? ⟨w.heap.size + 1, 0, none⟩ = some (.int .i64 p0) ∧ W'.cell? ⟨w.heap.size + 1, 1, none⟩ = some (.int .i64 p1) ∧ W'.cell? ⟨w.heap.size + 1, 2, none⟩ = some (.int .i64 p2) ∧ W'.cell? ⟨w.heap.size, 0, none⟩ = some (.int .i64 x) ∧ W'.cell? ⟨w.heap.size, 1, none⟩ = some (.int .i64 y) ∧ W'.cell? (a.add (k * 3)) = some (.int .i64 x0) ∧ W'.cell? ⟨(a.add (k * 3)).block, (a.add (k * 3)).off + 1, none⟩ = some (.int .i64 x1) ∧ W'.cell? ⟨(a.add (k * 3)).block, (a.add (k * 3)).off + 2, none⟩ = some (.int .i64 x2)) (by kernel_rfl) (by kernel_rfl) (fun _ _ d _ _ h => by cases d <;> exact h) ⟨(s_pb E.drw).1, (s_pb E.drw).2.1, (s_pb E.drw).2.2.1, (s_pb E.drw).2.2.2.1, (s_pb E.drw).2.2.2.2.1, (s_pb E.drw).2.2.2.2.2, c0, c1, c2⟩ ?_
        simp only [List.filterMap_cons, List.filterMap_nil, List.getElem?_cons_zero, List.getElem?_cons_succ, Option.map_some, List.drop_succ_cons, List.drop_zero]
        replace E := E.drw
        replace hO := own_on hO (below_dr (Below.refl _ _))
        replace c0 := cell_later (below_dr (Below.refl wq.heap.size wq)) c0
        replace c1 := cell_later (below_dr (Below.refl wq.heap.size wq)) c1
        replace c2 := cell_later (below_dr (Below.refl wq.heap.size wq)) c2
        iterate 7 (first | (refine wpPlan_still (v := ?_) (Or.inl ⟨by rfl, ?_⟩) ?_; rotate_left; (focus (intro W hW; (try dsimp only at hW); go_split_ands; go_simp; try with_reducible rfl)); try simp only [Act.put, List.setIfInBounds_toArray, List.set_cons_zero, List.set_cons_succ]) | (refine wpPlan_still (Or.inr ⟨by rfl, rfl⟩) ?_; try simp only [Act.put, List.setIfInBounds_toArray, List.set_cons_zero, List.set_cons_succ]))
        refine wpPlan_only (fun K hK => ?_)
        try go_simp
        (go_at_call 24; (with_reducible refine (hi _).mono ?_); rintro X wq ⟨rfl, hb⟩)
        replace E := E.on hb
        replace hO := own_on hO hb
        replace c0 := cell_later hb c0
        replace c1 := cell_later hb c1
        replace c2 := cell_later hb c2
        clear hb
        refine hK.out _ _ ⟨(s_pb E).1, (s_pb E).2.1, (s_pb E).2.2.1, (s_pb E).2.2.2.1, (s_pb E).2.2.2.2.1, (s_pb E).2.2.2.2.2, c0, c1, c2⟩ ?_
        clear hK K
        try simp only [Act.put, List.setIfInBounds_toArray, List.set_cons_zero, List.set_cons_succ]
        refine wpPlan_only (fun K hK => ?_)
        try go_simp
        (go_at_call 49; (with_reducible refine (hs _).mono ?_); rintro X wq ⟨rfl, hb⟩)
        replace E := E.on hb
        replace hO := own_on hO hb
        replace c0 := cell_later hb c0
        replace c1 := cell_later hb c1
        replace c2 := cell_later hb c2
        clear hb
        refine hK.out _ _ ⟨(s_pb E).1, (s_pb E).2.1, (s_pb E).2.2.1, (s_pb E).2.2.2.1, (s_pb E).2.2.2.2.1, (s_pb E).2.2.2.2.2, c0, c1, c2⟩ ?_
        clear hK K
        try simp only [Act.put, List.setIfInBounds_toArray, List.set_cons_zero, List.set_cons_succ]
        refine wpPlan_only (fun K hK => ?_)
        try go_simp
        have hN := Has.new_ wq 37 #[.int .i64 (u0 + p0), .int .i64 (u1 + p1), .int .i64 (u2 + p2)]
        replace E := E.more (.cells #[.int .i64 (u0 + p0), .int .i64 (u1 + p1), .int .i64 (u2 + p2)] 37)
        replace hO := own_on hO (al1 wq (.cells #[.int .i64 (u0 + p0), .int .i64 (u1 + p1), .int .i64 (u2 + p2)] 37))
        replace c0 := cell_later (al1 wq (.cells #[.int .i64 (u0 + p0), .int .i64 (u1 + p1), .int .i64 (u2 + p2)] 37)) c0
        replace c1 := cell_later (al1 wq (.cells #[.int .i64 (u0 + p0), .int .i64 (u1 + p1), .int .i64 (u2 + p2)] 37)) c1
        replace c2 := cell_later (al1 wq (.cells #[.int .i64 (u0 + p0), .int .i64 (u1 + p1), .int .i64 (u2 + p2)] 37)) c2
        refine hK.out _ _ ⟨(s_pb E).1, (s_pb E).2.1, (s_pb E).2.2.1, (s_pb E).2.2.2.1, (s_pb E).2.2.2.2.1, (s_pb E).2.2.2.2.2, c0, c1, c2⟩ ?_
        clear hK K
        try simp only [Act.put, List.setIfInBounds_toArray, List.set_cons_zero, List.set_cons_succ]
        refine wpPlan_end ?_
        clear c0 c1 c2
        have hsz9 := E.lt 0 (by simp)
        simp [numB] at hsz9
        go_wp2_with (at_builtin; refine wpList_append_own_at _ rfl _ _ 49 rfl (w.heap.size + 2) 37 i0 _ 3 24 Try.underlying49 hinf hz0 hz1 hz2 rfl (by decide) _ O.length (O.flatMap pc) rfl hO ⟨_, 0, none⟩ 1 1 [.int .i64 (u0 + p0), .int .i64 (u1 + p1), .int .i64 (u2 + p2)] rfl rfl (World.news_of_block (cs := #[.int .i64 (u0 + p0), .int .i64 (u1 + p1), .int .i64 (u2 + p2)]) (t := 37) (fr := (0, 0)) hN) (by simp [Value.oneCell']) (by unfold maxLen; omega) (by omega) (by simp; omega) ?_)
        intro v' w6 p1_ p2_ p3_ p4_
        have O5 : Own pc 37 3 (w.heap.size + 2) w6 v' (O ++ [⟨u0 + p0, u1 + p1, u2 + p2⟩]) := own_snoc (by rw [hol]; exact p1_)
        have E5 := env_grown E p2_ (fun k hk => by
          have := (World.ownsRow.lt hO k hk).1
          intro y hy
          simp only [List.mem_cons, List.not_mem_nil, or_false] at hy
          rcases hy with rfl | rfl <;> (dsimp only; omega)) (fun k hk => by have := (World.ownsRow.lt hO k hk).1; omega)
        clear p1_ p2_ p3_ p4_ hO E
        try simp only [Act.put, List.setIfInBounds_toArray, List.set_cons_zero, List.set_cons_succ]
        go_wp2
        exact ⟨⟨k + 1, _, rfl, rfl, hlt, hA2, E5, by rw [hp.out]; exact O5⟩, by simp [intOf]; omega⟩
    · have hkn : k = n := by omega
      subst hkn
      have g1 : decide ((k : Int) < (k : Int)) = false := by simp
      have hgg := Lib.hid (HG.out hK.out)
      go_wp2
      exact bodyPost_ret (v := .tuple #[F, .int .i64 0]) (by simp [results, Try.results26, go_sem]) rfl ⟨_, by rw [hgg.out.1], by rw [hgg.out.2]; exact Own.mono hO (by omega), envb E⟩
/-- Both paths are the same, with the same code. -/
theorem path_same (t : Tn) (at_ : Pt) (p : Option Addr) (l : List Pt) (cap : Nat) (w : World) (hS : Sl w p l) : ∃ (L : List Pt) (c : Int), L.length ≤ 1000 ∧
    (∀ W, Below w.heap.size w W → Calls Try.prog 25 #[t.val, at_.val, .slice p l.length cap] W fun e w' => ∃ v, e = .returned (.tuple #[v, .int .i64 c]) ∧ Own pc 37 3 W.heap.size w' v L ∧ Below W.heap.size W w') ∧
    ∀ W, Below w.heap.size w W → Calls Try.prog 26 #[t.val, at_.val, .slice p l.length cap] W fun e w' => ∃ v, e = .returned (.tuple #[v, .int .i64 c]) ∧ Own pc 37 3 W.heap.size w' v L ∧ Below W.heap.size W w' := by
  cases ht : vT t
  · exact ⟨[], 1, by simp, fun W h => Path_arg t at_ p l cap W (hS.on h) ht, fun W h => rPath_arg t at_ p l cap W (hS.on h) ht⟩
  · by_cases hl : l.length ≤ 1000
    · cases hn : nearB at_
      · exact ⟨[], 2, by simp, fun W h => Path_far t at_ p l cap W (hS.on h) ht hl hn, fun W h => rPath_far t at_ p l cap W (hS.on h) ht hl hn⟩
      · cases ha : l.all nearB
        · exact ⟨[], 2, by simp, fun W h => Path_bad t at_ p l cap W (hS.on h) ht hl hn ha, fun W h => rPath_main t at_ p l cap W (hS.on h) ht hl hn 2 [] (fun h => by rw [ha] at h; cases h) (fun _ => ⟨rfl, rfl⟩)⟩
        · exact ⟨psL t at_ l, 0, by rw [psL, List.length_map]; exact hl, fun W h => Path_ok t at_ p l cap W (hS.on h) ht hl hn ha, fun W h => rPath_main t at_ p l cap W (hS.on h) ht hl hn 0 _ (fun _ => ⟨rfl, rfl⟩) (fun h => by rw [ha] at h; cases h)⟩
    · exact ⟨[], 4, by simp, fun W h => Path_full t at_ p l cap W (hS.on h) ht (by omega), fun W h => rPath_full t at_ p l cap W (hS.on h) ht (by omega)⟩
set_option maxHeartbeats 8000000 in
set_option maxRecDepth 100000 in
theorem paths_walk (t : Tn) (at_ : Pt) (p : Option Addr) (l : List Pt) (cap : Nat) (w : World) (hS : Sl w p l) : Calls Try.prog 5 #[t.val, at_.val, .slice p l.length cap] w fun e w' => e = .returned (.bool true) ∧ Below w.heap.size w w' := by
  obtain ⟨L, c, hL, h1, h2⟩ := path_same t at_ p l cap w hS
  have hm := hS.2.2
  unfold maxLen at hm
  clear hS
  have hq := fun v v' W (r1 : Rd pc 3 W v L) (r2 : Rd pc 3 W v' L) => equalp_any v v' L L W r1 r2 (by omega)
  simp only [decide_true] at hq
  have cc : decide (c = c) = true := by simp
  clear hL
  generalize l.length = n at *
  obtain ⟨x, y⟩ := t
  obtain ⟨p0, p1, p2⟩ := at_
  unfold Tn.val Pt.val at *
  dsimp only at *
  have E := ((Env.nil w).add (w.heap.size) 23 #[.int .i64 x, .int .i64 y] rfl).add (w.heap.size + 1) 37 #[.int .i64 p0, .int .i64 p1, .int .i64 p2] (by simp)
  have C := E.cells
  simp [BC, CF] at C
  by_cases a1 : (n : Int) ≤ 60
  · have b1 : decide ((n : Int) > 60) = false := by simp; omega
    have b2 : decide (60 < (n : Int)) = false := by simp; omega
    have b3 : decide ((n : Int) > 1010) = false := by simp; omega
    have b4 : decide (1010 < (n : Int)) = false := by simp; omega
    clear a1
    go_enter Try.func5, Try.ntmps5
    go_wp2_with (first
      | (go_at_call 10; (with_reducible refine (awake_10 _).mono ?_); rintro X wq ⟨rfl, hb⟩; replace E := E.on hb; replace C := E.cells; simp [BC, CF] at C; clear hb)
      | (go_at_call 25; (with_reducible refine (h1 _ (envb E)).mono ?_); rintro X wq ⟨v1, rfl, O1, hb⟩; replace E := E.on hb; replace C := E.cells; simp [BC, CF] at C; clear hb)
      | (go_at_call 26; (with_reducible refine (h2 _ (envb E)).mono ?_); rintro X wq ⟨v2, rfl, O2, hb⟩; replace E := E.on hb; replace O1 := Own.on O1 hb; replace C := E.cells; simp [BC, CF] at C; clear hb)
      | (go_at_call 27; (with_reducible refine (hq _ _ _ (Own.rd pl O1) (Own.rd pl O2)).mono ?_); rintro X wq ⟨rfl, hb⟩; replace E := E.on hb; replace C := E.cells; simp [BC, CF] at C; clear hb))
    go_ret
    exact ⟨rfl, envb E⟩
  · have b1 : decide ((n : Int) > 60) = true := by simp; omega
    have b2 : decide (60 < (n : Int)) = true := by simp; omega
    by_cases a2 : (n : Int) ≤ 1000
    · have b3 : decide ((n : Int) ≤ 1000) = true := by simp; omega
      clear a1
      go_enter Try.func5, Try.ntmps5
      go_wp2_with (go_at_call 10; (with_reducible refine (awake_10 _).mono ?_); rintro X wq ⟨rfl, hb⟩; replace E := E.on hb; replace C := E.cells; simp [BC, CF] at C; clear hb)
      go_ret
      exact ⟨rfl, envb E⟩
    · have b3 : decide ((n : Int) ≤ 1000) = false := by simp; omega
      by_cases a3 : (n : Int) ≤ 1010
      · have b4 : decide ((n : Int) > 1010) = false := by simp; omega
        have b5 : decide (1010 < (n : Int)) = false := by simp; omega
        clear a1 a2 a3
        go_enter Try.func5, Try.ntmps5
        go_wp2_with (first
          | (go_at_call 10; (with_reducible refine (awake_10 _).mono ?_); rintro X wq ⟨rfl, hb⟩; replace E := E.on hb; replace C := E.cells; simp [BC, CF] at C; clear hb)
          | (go_at_call 25; (with_reducible refine (h1 _ (envb E)).mono ?_); rintro X wq ⟨v1, rfl, O1, hb⟩; replace E := E.on hb; replace C := E.cells; simp [BC, CF] at C; clear hb)
          | (go_at_call 26; (with_reducible refine (h2 _ (envb E)).mono ?_); rintro X wq ⟨v2, rfl, O2, hb⟩; replace E := E.on hb; replace O1 := Own.on O1 hb; replace C := E.cells; simp [BC, CF] at C; clear hb)
          | (go_at_call 27; (with_reducible refine (hq _ _ _ (Own.rd pl O1) (Own.rd pl O2)).mono ?_); rintro X wq ⟨rfl, hb⟩; replace E := E.on hb; replace C := E.cells; simp [BC, CF] at C; clear hb))
        go_ret
        exact ⟨rfl, envb E⟩
      · have b4 : decide ((n : Int) > 1010) = true := by simp; omega
        have b5 : decide (1010 < (n : Int)) = true := by simp; omega
        clear a1 a2 a3
        go_enter Try.func5, Try.ntmps5
        go_wp2_with (go_at_call 10; (with_reducible refine (awake_10 _).mono ?_); rintro X wq ⟨rfl, hb⟩; replace E := E.on hb; replace C := E.cells; simp [BC, CF] at C; clear hb)
        go_ret
        exact ⟨rfl, envb E⟩
end Go.Proofs.Ytmfclelnaceonaa
