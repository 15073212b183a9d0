/- Lists of findings compared; BendChecks. -/
import Derived.Test.YthphgppgdlimeaaLk
import Derived.Deep.CutBlock
namespace Go.Proofs.Ythphgppgdlimeaa
open Go.ChangeShapes Go.WideShapes Go.ChangeAt Go.RowKit
set_option linter.unusedVariables false
set_option linter.unusedSimpArgs false

theorem ne44 (k : Int) (s : ByteArray) (W : World) : (binOp .neq 44 (.agg #[.int .i64 k, .string s]) (.agg #[.int .i64 k, .string s])).run Try.prog W = .ok (.bool false) W := by
  rw [run_neq_struct, run_equalIn_agg (ht := by kernel_rfl) (hp := by kernel_rfl)]
  simp [go_sem, Program.fieldsOf, Try.underlying44]
set_option maxHeartbeats 8000000 in
set_option maxRecDepth 100000 in
theorem equalf_any (mk : ByteArray) (v1 v2 : Value) (l : List Int) (w : World) (h1 : Rd (fc mk) 2 w v1 l) (h2 : Rd (fc mk) 2 w v2 l) (hl : l.length ≤ 1000) :
    Calls Try.prog 27 #[v1, v2] w fun e w' => e = .returned (.bool true) ∧ Below w.heap.size w w' := by
  obtain ⟨p1, c1, rfl, k1⟩ := h1
  obtain ⟨p2, c2, rfl, k2⟩ := h2
  have K1 := Lib.hid k1
  have K2 := Lib.hid k2
  clear k1 k2
  have q44 := fun k W => ne44 k mk W
  obtain ⟨n, hn⟩ : ∃ n, Hid (l.length = n) := ⟨_, Lib.hid rfl⟩
  rw [hn.out] at hl ⊢
  go_enter Try.func27, Try.ntmps27
  go_wp2
  go_loopw [13] (fun v wr => ∃ k : Nat, v = .int .i64 k ∧ k ≤ n ∧ Below w.heap.size w wr) (fun v _ => n - (intOf v).toNat)
  case atStart => exact ⟨0, rfl, Nat.zero_le _, Below.refl _ _⟩
  case round =>
    obtain ⟨k, rfl, hk, B⟩ := hrel
    by_cases hlt : k < n
    · have g1 : decide ((k : Int) < (n : Int)) = true := by simp [hlt]
      have W1 : IntKind.i64.wrap ((k : Int) + 1) = ((k + 1 : Nat) : Int) := by rw [IntWalk.i64_in _ (by omega)]; omega
      have q1 : (0 : Int) ≤ (k : Int) := by omega
      have q2 : (k : Int) < (n : Int) := by omega
      obtain ⟨ga, rfl, a⟩ := K1.out k (by rw [hn.out]; exact hlt)
      obtain ⟨gb, rfl, b⟩ := K2.out k (by rw [hn.out]; exact hlt)
      have a0 := cell_later B (a 0 (by omega))
      have a1 := cell_later B (a 1 (by omega))
      have b0 := cell_later B (b 0 (by omega))
      have b1 := cell_later B (b 1 (by omega))
      clear a b
      generalize l[k]'(by rw [hn.out]; exact hlt) = y at *
      simp only [Nat.add_zero] at a0 b0
      go_upto_region 6 with fail
      refine wp_region_plan 8 [(0, true), (1, true), (2, true), (3, true), (4, true), (5, true), (6, true), (7, true)] (fun W' => W'.cell? ⟨ga, k * 2, none⟩ = some (.int .i64 y) ∧ W'.cell? ⟨ga, k * 2 + 1, none⟩ = some (.string mk) ∧ W'.cell? ⟨gb, k * 2, none⟩ = some (.int .i64 y) ∧ W'.cell? ⟨gb, k * 2 + 1, none⟩ = some (.string mk)) (by kernel_rfl) (by kernel_rfl) (fun _ _ d _ _ h => by cases d <;> exact h) ⟨a0, a1, b0, b1⟩ ?_
      simp only [List.filterMap_cons, List.filterMap_nil, List.getElem?_cons_zero, List.getElem?_cons_succ, Option.map_some, List.drop_succ_cons, List.drop_zero]
      replace B := belows B (Below.drew (Below.refl wr.heap.size wr))
      iterate 8 (first | (refine wpPlan_still (v := ?_) (Or.inl ⟨by rfl, ?_⟩) ?_; rotate_left; (focus (intro W hW; (try dsimp only at hW); go_split_ands; go_simp; try with_reducible rfl)); try simp only [Act.put, List.setIfInBounds_toArray, List.set_cons_zero, List.set_cons_succ]) | (refine wpPlan_still (Or.inr ⟨by rfl, rfl⟩) ?_; try simp only [Act.put, List.setIfInBounds_toArray, List.set_cons_zero, List.set_cons_succ]))
      refine wpPlan_end ?_
      go_wp2
      go_roundw
      · exact ⟨k + 1, rfl, hlt, B⟩
      · simp [intOf]; omega
    · have g1 : decide ((k : Int) < (n : Int)) = false := by simp; omega
      go_wp2
      go_ret
      exact ⟨rfl, B⟩
theorem chk_le (b : Bar) (h : barB b = true) : (chk b).length ≤ 6 := by
  have := nl_le (barB_and h).1
  unfold chk
  split
  · simp
  · exact Nat.le_trans (kds_le _ _ _ _ _) this
set_option maxHeartbeats 8000000 in
set_option maxRecDepth 100000 in
theorem checks_walk (b : Bar) (w : World) (hk : b.Ok w) : Calls Try.prog 5 #[b.val] w fun e w' => e = .returned (.bool true) ∧ Below w.heap.size w w' := by
  have h10 := fun W => awake_any W
  have h16 := fun W => long_any b W
  have h21 := fun W (h : Below w.heap.size w W) => rValid_any b W (hk.on h)
  have E := (Env.nil w).add w.heap.size 32 b.cs rfl
  have hcs : b.cs = #[.string b.mark, .int .i64 b.size, .int .i64 b.count, .int .i64 b.code, .slice b.p b.ds.length b.cap] := rfl
  have hvv : b.val = .agg b.cs := rfl
  rw [hcs] at E hvv
  cases hl : longB b
  · cases hv : barB b
    · have h26 := fun W (h : Below w.heap.size w W) => Check_no b W (hk.on h) hv
      rw [hl] at h16
      rw [hv] at h21
      rw [hvv] at h16 h21 h26 ⊢
      clear hl hv hk hcs hvv
      have C := E.cells
      simp [BC, CF] at C
      go_enter Try.func5, Try.ntmps5
      go_wp2_with (first
        | (go_at_call 10; (with_reducible refine (h10 _).mono ?_); rintro X wq ⟨rfl, hb⟩; replace E := E.on hb; replace C := E.cells; simp [BC, CF] at C; clear hb)
        | (go_at_call 16; (with_reducible refine (h16 _).mono ?_); rintro X wq ⟨rfl, hb⟩; replace E := E.on hb; replace C := E.cells; simp [BC, CF] at C; clear hb)
        | (go_at_call 26; (with_reducible refine (h26 _ (envb E)).mono ?_); rintro X wq ⟨rfl, hb⟩; replace E := E.on hb; replace C := E.cells; simp [BC, CF] at C; clear hb)
        | (go_at_call 21; (with_reducible refine (h21 _ (envb E)).mono ?_); rintro X wq ⟨rfl, hb⟩; replace E := E.on hb; replace C := E.cells; simp [BC, CF] at C; clear hb))
      go_ret
      exact ⟨by simp, envb E⟩
    · have h26 := fun W (h : Below w.heap.size w W) => Check_ok b W (hk.on h) hv
      have h28 := fun W (h : Below w.heap.size w W) => rCheck_ok b W (hk.on h) hv
      have hle := chk_le b hv
      rw [hl] at h16
      rw [hv] at h21
      rw [hvv] at h16 h21 h26 h28 ⊢
      clear hl hv hk hcs hvv
      generalize chk b = CH at *
      have C := E.cells
      simp [BC, CF] at C
      go_enter Try.func5, Try.ntmps5
      go_wp2_with (first
        | (go_at_call 10; (with_reducible refine (h10 _).mono ?_); rintro X wq ⟨rfl, hb⟩; replace E := E.on hb; replace C := E.cells; simp [BC, CF] at C; clear hb)
        | (go_at_call 16; (with_reducible refine (h16 _).mono ?_); rintro X wq ⟨rfl, hb⟩; replace E := E.on hb; replace C := E.cells; simp [BC, CF] at C; clear hb)
        | (go_at_call 26; (with_reducible refine (h26 _ (envb E)).mono ?_); rintro X wq ⟨v1, rfl, hO, hb⟩; replace E := E.on hb; replace hO := Own.rd (fl b.mark) hO; replace C := E.cells; simp [BC, CF] at C; clear hb)
        | (go_at_call 21; (with_reducible refine (h21 _ (envb E)).mono ?_); rintro X wq ⟨rfl, hb⟩; replace hO := Rd.on (fl b.mark) hO hb; replace E := E.on hb; replace C := E.cells; simp [BC, CF] at C; clear hb)
        | (go_at_call 28; (with_reducible refine (h28 _ (envb E)).mono ?_); rintro X wq ⟨v2, rfl, hO2, hb⟩; replace hO := Rd.on (fl b.mark) hO hb; replace E := E.on hb; replace hO2 := Own.rd (fl b.mark) hO2; replace C := E.cells; simp [BC, CF] at C; clear hb)
        | (go_at_call 27; (with_reducible refine (equalf_any b.mark _ _ CH _ hO hO2 (by omega)).mono ?_); rintro X wq ⟨rfl, hb⟩; replace E := E.on hb; replace C := E.cells; simp [BC, CF] at C; clear hb))
      go_ret
      exact ⟨by simp, envb E⟩
  · rw [hl] at h16
    rw [hvv] at h16 ⊢
    clear hl hk h21 hcs hvv
    have C := E.cells
    simp [BC, CF] at C
    go_enter Try.func5, Try.ntmps5
    go_wp2_with (first
      | (go_at_call 10; (with_reducible refine (h10 _).mono ?_); rintro X wq ⟨rfl, hb⟩; replace E := E.on hb; replace C := E.cells; simp [BC, CF] at C; clear hb)
      | (go_at_call 16; (with_reducible refine (h16 _).mono ?_); rintro X wq ⟨rfl, hb⟩; replace E := E.on hb; replace C := E.cells; simp [BC, CF] at C; clear hb))
    go_ret
    exact ⟨rfl, envb E⟩
end Go.Proofs.Ythphgppgdlimeaa
