/- The reference's Check; lists of findings compared; BendChecks. -/
import Derived.Test.YthphgppgdlimeaaLj
import Derived.Deep.CutBlock
namespace Go.Proofs.Ythphgppgdlimeaa
open Go.ChangeShapes Go.WideShapes Go.ChangeAt Go.RowKit
set_option linter.unusedVariables false
set_option linter.unusedSimpArgs false

set_option maxHeartbeats 16000000 in
set_option maxRecDepth 100000 in
theorem rCheck_ok (b : Bar) (w : World) (hk : b.Ok w) (hv : barB b = true) : Calls Try.prog 28 #[b.val] w fun e w' => ∃ v, e = .returned v ∧ Own (fc b.mark) 44 2 w.heap.size w' v (chk b) ∧ Below w.heap.size w w' := by
  have hL := fun W (h : Below w.heap.size w W) => rLegs_any b W (hk.on h) hv
  have h44 := fun W => rbend_ok b.size (barB_and hv).2.2.2.2.1 W
  have E := (Env.nil w).add w.heap.size 32 b.cs rfl
  have n6 := nl_le (barB_and hv).1
  have n0 := nl_pos (barB_and hv).1
  have hr := bn_bd (barB_and hv).2.2.2.2.1
  have hs : 6 ≤ b.size ∧ b.size ≤ 40 := by
    rcases isz_cases (barB_and hv).2.2.2.2.1 with e | e | e | e | e | e | e | e | e <;> omega
  have HC := Lib.hid (show chk b = if nl b.code = 1 then [] else kds (bn b.size) b.size (nl b.code) (legF b) (nl b.code) from rfl)
  have HQ := Lib.hid (show legs b = (List.range (nl b.code)).map (legF b) from rfl)
  have HN := Lib.hid (legs_len b)
  have hcs : b.cs = #[.string b.mark, .int .i64 b.size, .int .i64 b.count, .int .i64 b.code, .slice b.p b.ds.length b.cap] := rfl
  have hvv : b.val = .agg b.cs := rfl
  rw [hcs] at E hvv
  rw [hvv] at hL ⊢
  clear hk hv hcs hvv
  generalize chk b = CH at *
  generalize bn b.size = r at *
  generalize legs b = LS at *
  generalize legF b = lf at *
  generalize nl b.code = n at *
  have C := E.cells
  simp [BC, CF] at C
  obtain ⟨i0, hinf, hz0, hz1, hz2⟩ := info_parts info44
  by_cases hn : n = 1
  · subst hn
    rw [if_pos rfl] at HC
    go_enter Try.func28, Try.ntmps28
    go_upto_region 4 with (first
      | (go_at_call 52; (with_reducible refine (hL _ (envb E)).mono ?_); rintro X w1 ⟨v, rfl, hR, hb⟩; obtain ⟨q, c, rfl, hr2⟩ := hR; replace E := E.on hb; replace C := E.cells; simp [BC, CF] at C; clear hb)
      | (go_at_call 44; (with_reducible refine (h44 _).mono ?_); rintro X wq ⟨rfl, rfl⟩))
    rw [HN.out]
    go_wp2
    go_ret
    exact ⟨_, rfl, by rw [HC.out]; exact ⟨rfl, .inl ⟨rfl, rfl⟩⟩, envb E⟩
  rw [if_neg hn] at HC
  have t0 : decide ((n : Int) < 2) = false := by simp; omega
  have t1 : decide (n < 2) = false := by simp; omega
  have W5 : IntKind.i64.wrap (5 * b.size) = 5 * b.size := IntWalk.i64_in _ (by omega)
  have W6 : IntKind.i64.wrap (r + 5 * b.size) = r + 5 * b.size := IntWalk.i64_in _ (by omega)
  have W7 : IntKind.i64.wrap (2 * r) = 2 * r := IntWalk.i64_in _ (by omega)
  clear hr hs
  go_enter Try.func28, Try.ntmps28
  go_upto_region 4 with (first
    | (go_at_call 52; (with_reducible refine (hL _ (envb E)).mono ?_); rintro X w1 ⟨v, rfl, hR, hb⟩; obtain ⟨q, c, rfl, hr2⟩ := hR; replace E := E.on hb; replace C := E.cells; simp [BC, CF] at C; clear hb)
    | (go_at_call 44; (with_reducible refine (h44 _).mono ?_); rintro X wq ⟨rfl, rfl⟩))
  obtain ⟨a, rfl⟩ : ∃ a, q = some a := by
    obtain ⟨a, e, -⟩ := hr2 0 (by rw [HN.out]; omega)
    exact ⟨a, e⟩
  rw [HN.out]
  have HR := Lib.hid hr2
  have hw1 : w.heap.size + 1 ≤ w1.heap.size := C.1
  clear hr2
  go_wp2
  go_loopw [5, 6] (fun v5 v6 wr => ∃ (k : Nat) (F : Value), v6 = .int .i64 k ∧ F = v5 ∧ k ≤ n ∧ Env w wr [⟨w.heap.size, 32, #[.string b.mark, .int .i64 b.size, .int .i64 b.count, .int .i64 b.code, .slice b.p b.ds.length b.cap]⟩] ∧ Own (fc b.mark) 44 2 w1.heap.size wr F (kds r b.size n lf k) ∧ Below w1.heap.size w1 wr) (fun _ v _ => n - (intOf v).toNat)
  case atStart => exact ⟨0, _, rfl, rfl, Nat.zero_le _, E, ⟨rfl, .inl ⟨rfl, rfl⟩⟩, Below.refl _ _⟩
  case round =>
    clear E C
    obtain ⟨k, F, rfl, rfl, hk, E, hO, B⟩ := hrel
    have C := E.cells
    simp [BC, CF] at C
    have hsz := B.size
    have hle := kds_le r b.size n lf k
    by_cases hlt : k < n
    · have g1 : decide ((k : Int) < (n : Int)) = true := by simp [hlt]
      have W1 : IntKind.i64.wrap ((k : Int) + 1) = ((k + 1 : Nat) : Int) := by rw [IntWalk.i64_in _ (by omega)]; omega
      have q1 : (0 : Int) ≤ (k : Int) := by omega
      have q2 : (k : Int) < (n : Int) := by omega
      obtain ⟨a2, ea, d0⟩ := HR.out k (by rw [HN.out]; exact hlt)
      cases ea
      have d2 := cellLater B d0
      rw [show LS[k]'(by rw [HN.out]; exact hlt) = lf k by simp [HQ.out]] at d2
      clear d0
      obtain ⟨O, HO⟩ : ∃ O, Hid (kds r b.size n lf k = O) := ⟨_, Lib.hid rfl⟩
      rw [HO.out] at hO hle
      by_cases h0 : k = 0
      · by_cases hc : lf k < r + 5 * b.size
        · have c1 : decide (lf k < r + 5 * b.size) = true := by simp; omega
          have HK : Hid (kds r b.size n lf (k + 1) = O ++ [1]) := Lib.hid (by rw [kds_succ, HO.out]; unfold kd; rw [if_pos (by omega), if_pos hc])
          clear hc HO
          subst h0
          go_upto_region 10 with fail
          refine wp_region_plan 9 [(0, true), (1, true), (2, true), (3, true), (4, true), (5, true), (6, true), (7, true), (8, true)] (fun W' => Env w W' [⟨w.heap.size, 32, #[.string b.mark, .int .i64 b.size, .int .i64 b.count, .int .i64 b.code, .slice b.p b.ds.length b.cap]⟩] ∧ W'.cell? ⟨w.heap.size, 1, none⟩ = some (.int .i64 b.size) ∧ W'.cell? a = some (.int .i64 (lf 0))) (by kernel_rfl) (by kernel_rfl) (fun _ _ d _ _ h => by cases d <;> exact h) ⟨E.drw, C.2.2.1.1, d2⟩ ?_
          simp only [List.filterMap_cons, List.filterMap_nil, List.getElem?_cons_zero, List.getElem?_cons_succ, Option.map_some, List.drop_succ_cons, List.drop_zero]
          replace E := E.drw
          replace hO := own_on hO (Below.drew (Below.refl _ _))
          replace B := belows B (Below.drew (Below.refl wr.heap.size wr))
          have hsz2 := B.size
          iterate 9 (first | (refine wpPlan_still (v := ?_) (Or.inl ⟨by rfl, ?_⟩) ?_; rotate_left; (focus (intro W hW; (try dsimp only at hW); go_split_ands; go_simp; try with_reducible rfl)); try simp only [Act.put, List.setIfInBounds_toArray, List.set_cons_zero, List.set_cons_succ]) | (refine wpPlan_still (Or.inr ⟨by rfl, rfl⟩) ?_; try simp only [Act.put, List.setIfInBounds_toArray, List.set_cons_zero, List.set_cons_succ]))
          refine wpPlan_end ?_
          replace C := E.cells
          simp [BC, CF] at C
          go_wp2_with (at_builtin; refine wpList_append_own_at _ rfl _ _ 39 rfl w1.heap.size 44 i0 _ 2 24 Try.underlying39 hinf hz0 hz1 hz2 rfl (by decide) _ O.length (O.flatMap (fc b.mark)) rfl (own_on hO (al1 _ _)) ⟨_, 0, none⟩ 1 1 [.int .i64 1, .string b.mark] rfl rfl (World.news_of_block (cs := #[.int .i64 1, .string b.mark]) (t := 44) (fr := (0, 0)) (heap_alloc_new wr.drew _)) (by simp [Value.oneCell']) (by unfold maxLen; omega) (by omega) (by simp; omega) ?_)
          intro v' w6 p1 p2 p3 p4
          have O5 : Own (fc b.mark) 44 2 w1.heap.size w6 v' (O ++ [1]) := own_snoc p1
          have E5 := env_row (E.more _) p2 (fun k hk => Nat.le_trans hw1 (World.ownsRow.lt hO k hk).1)
          have B5 : Below w1.heap.size w1 w6 := (al B _).grown p2 (by have := B.size; simp; omega) (fun q hq => (World.ownsRow.lt hO q hq).1)
          clear p1 p2 p3 p4 hO E
          go_wp2
          go_roundw
          · exact ⟨1, _, by simp, rfl, hlt, E5, by rw [HK.out]; exact O5, B5⟩
          · simp [intOf]; omega
        · have c1 : decide (lf k < r + 5 * b.size) = false := by simp; omega
          have HK : Hid (kds r b.size n lf (k + 1) = O ++ []) := Lib.hid (by rw [kds_succ, HO.out]; unfold kd; rw [if_pos (by omega), if_neg hc])
          clear hc HO
          subst h0
          rw [List.append_nil] at HK
          go_upto_region 10 with fail
          refine wp_region_plan 9 [(0, true), (1, true), (2, true), (3, true), (4, true), (5, true), (6, true), (7, true), (8, true)] (fun W' => Env w W' [⟨w.heap.size, 32, #[.string b.mark, .int .i64 b.size, .int .i64 b.count, .int .i64 b.code, .slice b.p b.ds.length b.cap]⟩] ∧ W'.cell? ⟨w.heap.size, 1, none⟩ = some (.int .i64 b.size) ∧ W'.cell? a = some (.int .i64 (lf 0))) (by kernel_rfl) (by kernel_rfl) (fun _ _ d _ _ h => by cases d <;> exact h) ⟨E.drw, C.2.2.1.1, d2⟩ ?_
          simp only [List.filterMap_cons, List.filterMap_nil, List.getElem?_cons_zero, List.getElem?_cons_succ, Option.map_some, List.drop_succ_cons, List.drop_zero]
          replace E := E.drw
          replace hO := own_on hO (Below.drew (Below.refl _ _))
          replace B := belows B (Below.drew (Below.refl wr.heap.size wr))
          have hsz2 := B.size
          iterate 9 (first | (refine wpPlan_still (v := ?_) (Or.inl ⟨by rfl, ?_⟩) ?_; rotate_left; (focus (intro W hW; (try dsimp only at hW); go_split_ands; go_simp; try with_reducible rfl)); try simp only [Act.put, List.setIfInBounds_toArray, List.set_cons_zero, List.set_cons_succ]) | (refine wpPlan_still (Or.inr ⟨by rfl, rfl⟩) ?_; try simp only [Act.put, List.setIfInBounds_toArray, List.set_cons_zero, List.set_cons_succ]))
          refine wpPlan_end ?_
          replace C := E.cells
          simp [BC, CF] at C
          go_wp2
          go_roundw
          · exact ⟨1, _, by simp, rfl, hlt, E, by rw [HK.out]; exact hO, B⟩
          · simp [intOf]; omega
      by_cases h1 : k + 1 = n
      · by_cases hc : lf k < r + 5 * b.size
        · have c1 : decide (lf k < r + 5 * b.size) = true := by simp; omega
          have HK : Hid (kds r b.size n lf (k + 1) = O ++ [1]) := Lib.hid (by rw [kds_succ, HO.out]; unfold kd; rw [if_pos (by omega), if_pos hc])
          have b0 : ((k : Int) == 0) = false := by simp; omega
          have b1 : ¬ (k : Int) = 0 := by omega
          have b2 : IntKind.i64.wrap ((n : Int) - 1) = (k : Int) := by rw [IntWalk.i64_in _ (by omega)]; omega
          clear hc HO
          clear h0
          clear h1
          go_upto_region 10 with fail
          refine wp_region_plan 9 [(0, true), (1, true), (2, true), (3, true), (4, true), (5, true), (6, true), (7, true), (8, true)] (fun W' => Env w W' [⟨w.heap.size, 32, #[.string b.mark, .int .i64 b.size, .int .i64 b.count, .int .i64 b.code, .slice b.p b.ds.length b.cap]⟩] ∧ W'.cell? ⟨w.heap.size, 1, none⟩ = some (.int .i64 b.size) ∧ W'.cell? (a.add k) = some (.int .i64 (lf k))) (by kernel_rfl) (by kernel_rfl) (fun _ _ d _ _ h => by cases d <;> exact h) ⟨E.drw, C.2.2.1.1, d2⟩ ?_
          simp only [List.filterMap_cons, List.filterMap_nil, List.getElem?_cons_zero, List.getElem?_cons_succ, Option.map_some, List.drop_succ_cons, List.drop_zero]
          replace E := E.drw
          replace hO := own_on hO (Below.drew (Below.refl _ _))
          replace B := belows B (Below.drew (Below.refl wr.heap.size wr))
          have hsz2 := B.size
          iterate 9 (first | (refine wpPlan_still (v := ?_) (Or.inl ⟨by rfl, ?_⟩) ?_; rotate_left; (focus (intro W hW; (try dsimp only at hW); go_split_ands; go_simp; try with_reducible rfl)); try simp only [Act.put, List.setIfInBounds_toArray, List.set_cons_zero, List.set_cons_succ]) | (refine wpPlan_still (Or.inr ⟨by rfl, rfl⟩) ?_; try simp only [Act.put, List.setIfInBounds_toArray, List.set_cons_zero, List.set_cons_succ]))
          refine wpPlan_end ?_
          replace C := E.cells
          simp [BC, CF] at C
          go_wp2_with (at_builtin; refine wpList_append_own_at _ rfl _ _ 39 rfl w1.heap.size 44 i0 _ 2 24 Try.underlying39 hinf hz0 hz1 hz2 rfl (by decide) _ O.length (O.flatMap (fc b.mark)) rfl (own_on hO (al1 _ _)) ⟨_, 0, none⟩ 1 1 [.int .i64 1, .string b.mark] rfl rfl (World.news_of_block (cs := #[.int .i64 1, .string b.mark]) (t := 44) (fr := (0, 0)) (heap_alloc_new wr.drew _)) (by simp [Value.oneCell']) (by unfold maxLen; omega) (by omega) (by simp; omega) ?_)
          intro v' w6 p1 p2 p3 p4
          have O5 : Own (fc b.mark) 44 2 w1.heap.size w6 v' (O ++ [1]) := own_snoc p1
          have E5 := env_row (E.more _) p2 (fun k hk => Nat.le_trans hw1 (World.ownsRow.lt hO k hk).1)
          have B5 : Below w1.heap.size w1 w6 := (al B _).grown p2 (by have := B.size; simp; omega) (fun q hq => (World.ownsRow.lt hO q hq).1)
          clear p1 p2 p3 p4 hO E
          go_wp2
          go_roundw
          · exact ⟨k + 1, _, rfl, rfl, hlt, E5, by rw [HK.out]; exact O5, B5⟩
          · simp [intOf]; omega
        · have c1 : decide (lf k < r + 5 * b.size) = false := by simp; omega
          have HK : Hid (kds r b.size n lf (k + 1) = O ++ []) := Lib.hid (by rw [kds_succ, HO.out]; unfold kd; rw [if_pos (by omega), if_neg hc])
          have b0 : ((k : Int) == 0) = false := by simp; omega
          have b1 : ¬ (k : Int) = 0 := by omega
          have b2 : IntKind.i64.wrap ((n : Int) - 1) = (k : Int) := by rw [IntWalk.i64_in _ (by omega)]; omega
          clear hc HO
          clear h0
          clear h1
          rw [List.append_nil] at HK
          go_upto_region 10 with fail
          refine wp_region_plan 9 [(0, true), (1, true), (2, true), (3, true), (4, true), (5, true), (6, true), (7, true), (8, true)] (fun W' => Env w W' [⟨w.heap.size, 32, #[.string b.mark, .int .i64 b.size, .int .i64 b.count, .int .i64 b.code, .slice b.p b.ds.length b.cap]⟩] ∧ W'.cell? ⟨w.heap.size, 1, none⟩ = some (.int .i64 b.size) ∧ W'.cell? (a.add k) = some (.int .i64 (lf k))) (by kernel_rfl) (by kernel_rfl) (fun _ _ d _ _ h => by cases d <;> exact h) ⟨E.drw, C.2.2.1.1, d2⟩ ?_
          simp only [List.filterMap_cons, List.filterMap_nil, List.getElem?_cons_zero, List.getElem?_cons_succ, Option.map_some, List.drop_succ_cons, List.drop_zero]
          replace E := E.drw
          replace hO := own_on hO (Below.drew (Below.refl _ _))
          replace B := belows B (Below.drew (Below.refl wr.heap.size wr))
          have hsz2 := B.size
          iterate 9 (first | (refine wpPlan_still (v := ?_) (Or.inl ⟨by rfl, ?_⟩) ?_; rotate_left; (focus (intro W hW; (try dsimp only at hW); go_split_ands; go_simp; try with_reducible rfl)); try simp only [Act.put, List.setIfInBounds_toArray, List.set_cons_zero, List.set_cons_succ]) | (refine wpPlan_still (Or.inr ⟨by rfl, rfl⟩) ?_; try simp only [Act.put, List.setIfInBounds_toArray, List.set_cons_zero, List.set_cons_succ]))
          refine wpPlan_end ?_
          replace C := E.cells
          simp [BC, CF] at C
          go_wp2
          go_roundw
          · exact ⟨k + 1, _, rfl, rfl, hlt, E, by rw [HK.out]; exact hO, B⟩
          · simp [intOf]; omega
      by_cases hc : lf k < 2 * r
      · have c1 : decide (lf k < 2 * r) = true := by simp; omega
        have HK : Hid (kds r b.size n lf (k + 1) = O ++ [2]) := Lib.hid (by rw [kds_succ, HO.out]; unfold kd; rw [if_neg (by omega), if_pos hc])
        have b0 : ((k : Int) == 0) = false := by simp; omega
        have b1 : ¬ (k : Int) = 0 := by omega
        have b2 : IntKind.i64.wrap ((n : Int) - 1) = (n : Int) - 1 := by rw [IntWalk.i64_in _ (by omega)]
        have b3 : ((k : Int) == (n : Int) - 1) = false := by simp; omega
        have b4 : ¬ (k : Int) = (n : Int) - 1 := by omega
        clear hc HO
        clear h0
        clear h1
        go_wp2_with (at_builtin; refine wpList_append_own_at _ rfl _ _ 39 rfl w1.heap.size 44 i0 _ 2 24 Try.underlying39 hinf hz0 hz1 hz2 rfl (by decide) _ O.length (O.flatMap (fc b.mark)) rfl (own_on hO (al1 _ _)) ⟨_, 0, none⟩ 1 1 [.int .i64 2, .string b.mark] rfl rfl (World.news_of_block (cs := #[.int .i64 2, .string b.mark]) (t := 44) (fr := (0, 0)) (heap_alloc_new wr _)) (by simp [Value.oneCell']) (by unfold maxLen; omega) (by omega) (by simp; omega) ?_)
        intro v' w6 p1 p2 p3 p4
        have O5 : Own (fc b.mark) 44 2 w1.heap.size w6 v' (O ++ [2]) := own_snoc p1
        have E5 := env_row (E.more _) p2 (fun k hk => Nat.le_trans hw1 (World.ownsRow.lt hO k hk).1)
        have B5 : Below w1.heap.size w1 w6 := (al B _).grown p2 (by have := B.size; simp; omega) (fun q hq => (World.ownsRow.lt hO q hq).1)
        clear p1 p2 p3 p4 hO E
        go_wp2
        go_roundw
        · exact ⟨k + 1, _, rfl, rfl, hlt, E5, by rw [HK.out]; exact O5, B5⟩
        · simp [intOf]; omega
      · have c1 : decide (lf k < 2 * r) = false := by simp; omega
        have HK : Hid (kds r b.size n lf (k + 1) = O ++ []) := Lib.hid (by rw [kds_succ, HO.out]; unfold kd; rw [if_neg (by omega), if_neg hc])
        have b0 : ((k : Int) == 0) = false := by simp; omega
        have b1 : ¬ (k : Int) = 0 := by omega
        have b2 : IntKind.i64.wrap ((n : Int) - 1) = (n : Int) - 1 := by rw [IntWalk.i64_in _ (by omega)]
        have b3 : ((k : Int) == (n : Int) - 1) = false := by simp; omega
        have b4 : ¬ (k : Int) = (n : Int) - 1 := by omega
        clear hc HO
        clear h0
        clear h1
        rw [List.append_nil] at HK
        go_wp2
        go_roundw
        · exact ⟨k + 1, _, rfl, rfl, hlt, E, by rw [HK.out]; exact hO, B⟩
        · simp [intOf]; omega
    · have g1 : decide ((k : Int) < (n : Int)) = false := by simp; omega
      obtain rfl : k = n := by omega
      rw [← HC.out] at hO
      have HO := hO.mono (B' := w.heap.size) (by omega)
      go_wp2
      go_ret
      exact ⟨_, rfl, HO, envb E⟩
end Go.Proofs.Ythphgppgdlimeaa
