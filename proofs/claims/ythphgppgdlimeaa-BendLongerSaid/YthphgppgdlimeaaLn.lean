/- BendFindings. -/
import Derived.Test.YthphgppgdlimeaaLm
import Derived.Deep.CutBlock
namespace Go.Proofs.Ythphgppgdlimeaa
open Go.ChangeShapes Go.WideShapes Go.ChangeAt Go.RowKit
set_option linter.unusedVariables false
set_option linter.unusedSimpArgs false

def inr (r : Int) (lf : Nat → Int) (k : Nat) : Bool := (List.range k).any fun i => decide (lf (i + 1) < 2 * r)
theorem inr_succ (r : Int) (lf : Nat → Int) (k : Nat) : inr r lf (k + 1) = (inr r lf k || decide (lf (k + 1) < 2 * r)) := by
  unfold inr
  rw [List.range_succ, List.any_append]; simp
theorem hasK_iff (y : Int) (l : List Int) : hasK y l = true ↔ y ∈ l := by
  unfold hasK
  simp
theorem kds_mem {r s : Int} {n : Nat} {lf : Nat → Int} {k : Nat} {x : Int} : x ∈ kds r s n lf k ↔ ∃ i, i < k ∧ x ∈ kd r s n lf i := by
  unfold kds
  simp
theorem kd_one {r s : Int} {n : Nat} {lf : Nat → Int} {i : Nat} : (1 : Int) ∈ kd r s n lf i ↔ (i = 0 ∨ i + 1 = n) ∧ lf i < r + 5 * s := by
  unfold kd
  by_cases h : i = 0 ∨ i + 1 = n
  · rw [if_pos h]
    by_cases h2 : lf i < r + 5 * s
    · rw [if_pos h2]; simp [h, h2]
    · rw [if_neg h2]; simp [h2]
  · rw [if_neg h]
    by_cases h2 : lf i < 2 * r
    · rw [if_pos h2]; simp [h]
    · rw [if_neg h2]; simp [h]
theorem kd_two {r s : Int} {n : Nat} {lf : Nat → Int} {i : Nat} : (2 : Int) ∈ kd r s n lf i ↔ ¬ (i = 0 ∨ i + 1 = n) ∧ lf i < 2 * r := by
  unfold kd
  by_cases h : i = 0 ∨ i + 1 = n
  · rw [if_pos h]
    by_cases h2 : lf i < r + 5 * s
    · rw [if_pos h2]; simp [h]
    · rw [if_neg h2]; simp [h]
  · rw [if_neg h]
    by_cases h2 : lf i < 2 * r
    · rw [if_pos h2]; simp [h, h2]
    · rw [if_neg h2]; simp [h, h2]
theorem kd_in {r s : Int} {n : Nat} {lf : Nat → Int} {i : Nat} {x : Int} (h : x ∈ kd r s n lf i) : x = 1 ∨ x = 2 := by
  unfold kd at h
  repeat' split at h
  all_goals simp at h
  all_goals omega
theorem kds_in {r s : Int} {n : Nat} {lf : Nat → Int} {k : Nat} : ∀ x ∈ kds r s n lf k, x = 1 ∨ x = 2 := fun x hx => by
  obtain ⟨i, -, h⟩ := kds_mem.1 hx
  exact kd_in h
theorem has_one (r s : Int) (lf : Nat → Int) (j : Nat) : hasK 1 (kds r s (j + 2) lf (j + 2)) = decide (min (lf 0) (lf (j + 1)) < r + 5 * s) := by
  rw [Bool.eq_iff_iff, hasK_iff, kds_mem, decide_eq_true_iff]
  constructor
  · rintro ⟨i, hi, h⟩
    obtain ⟨h1, h2⟩ := kd_one.1 h
    rcases h1 with rfl | h1
    · omega
    · obtain rfl : i = j + 1 := by omega
      omega
  · intro h
    by_cases h0 : lf 0 < r + 5 * s
    · exact ⟨0, by omega, kd_one.2 ⟨.inl rfl, h0⟩⟩
    · exact ⟨j + 1, by omega, kd_one.2 ⟨.inr rfl, by omega⟩⟩
theorem has_two (r s : Int) (lf : Nat → Int) (j : Nat) : hasK 2 (kds r s (j + 2) lf (j + 2)) = inr r lf j := by
  rw [Bool.eq_iff_iff, hasK_iff, kds_mem]
  unfold inr
  rw [List.any_eq_true]
  constructor
  · rintro ⟨i, hi, h⟩
    obtain ⟨h1, h2⟩ := kd_two.1 h
    refine ⟨i - 1, List.mem_range.2 (by omega), ?_⟩
    rw [show i - 1 + 1 = i by omega]
    exact decide_eq_true h2
  · rintro ⟨i, hi, h⟩
    have := List.mem_range.1 hi
    exact ⟨i + 1, by omega, kd_two.2 ⟨by omega, of_decide_eq_true h⟩⟩
theorem rdz_at {w : World} {g n m : Nat} {l : List Int} (h : Rdz w (.slice (some ⟨g, 0, none⟩) n m) l) : ∀ j (hj : j < l.length), w.cell? ⟨g, j, none⟩ = some (.int .i64 l[j]) := fun j hj => by
  obtain ⟨q, c, e, k⟩ := h
  simp only [Value.slice.injEq] at e
  obtain ⟨rfl, -, -⟩ := e
  obtain ⟨a, e, h⟩ := k j hj
  cases e
  rw [Addr.add_lit, Nat.zero_add] at h
  exact h
theorem hd1 {w W : World} {g : Nat} {t : TypeId} {v : Value} {l : List Fb} (E : Env w W (⟨g, t, #[v]⟩ :: l)) : W.cell? ⟨g, 0, none⟩ = some v := E.cells.1.2.1.1
theorem tl0 {w W : World} {x : Fb} {h : Nat} {t : TypeId} {v a b c d : Value} (E : Env w W [x, ⟨h, t, #[v, a, b, c, d]⟩]) : W.cell? ⟨h, 0, none⟩ = some v := E.cells.2.1.2.1.1
theorem tl1 {w W : World} {x : Fb} {h : Nat} {t : TypeId} {v a b c d : Value} (E : Env w W [x, ⟨h, t, #[v, a, b, c, d]⟩]) : W.cell? ⟨h, 1, none⟩ = some a := E.cells.2.1.2.2.1.1
set_option maxHeartbeats 8000000 in
set_option maxRecDepth 100000 in
theorem finds_not (b : Bar) (w : World) (hk : b.Ok w) (hr : rightB b = false) : Calls Try.prog 9 #[b.val] w fun e w' => e = .returned (.bool true) ∧ Below w.heap.size w w' := by
  have h10 := fun W => awake_any W
  have h29 := fun W (h : Below w.heap.size w W) => right_any b W (hk.on h)
  have E := (Env.nil w).add w.heap.size 32 b.cs rfl
  have hcs : b.cs = #[.string b.mark, .int .i64 b.size, .int .i64 b.count, .int .i64 b.code, .slice b.p b.ds.length b.cap] := rfl
  have hvv : b.val = .agg b.cs := rfl
  rw [hcs] at E hvv
  rw [hr] at h29
  rw [hvv] at h29 ⊢
  clear hr hk hcs hvv
  have C := E.cells
  simp [BC, CF] at C
  go_enter Try.func9, Try.ntmps9
  go_wp2_with (first
    | (go_at_call 10; (with_reducible refine (h10 _).mono ?_); rintro X wq ⟨rfl, hb⟩; replace E := E.on hb; replace C := E.cells; simp [BC, CF] at C; clear hb)
    | (go_at_call 29; (with_reducible refine (h29 _ (envb E)).mono ?_); rintro X wq ⟨rfl, hb⟩; replace E := E.on hb; replace C := E.cells; simp [BC, CF] at C; clear hb))
  go_ret
  exact ⟨rfl, envb E⟩
set_option maxHeartbeats 8000000 in
set_option maxRecDepth 100000 in
theorem finds_one (b : Bar) (w : World) (hk : b.Ok w) (hr : rightB b = true) (hn : nl b.code = 1) : Calls Try.prog 9 #[b.val] w fun e w' => e = .returned (.bool true) ∧ Below w.heap.size w w' := by
  have hv : barB b = true := by
    unfold rightB at hr
    simp only [Bool.and_eq_true] at hr
    exact hr.2
  have hs := (barB_and hv).2.2.2.2.1
  have h10 := fun W => awake_any W
  have h29 := fun W (h : Below w.heap.size w W) => right_any b W (hk.on h)
  have h26 := fun W (h : Below w.heap.size w W) => Check_ok b W (hk.on h) hv
  have h17 := fun W (h : Below w.heap.size w W) => Bends_ok b W (hk.on h) hv
  have h31 := fun W => bend_ok b.size hs W
  have h30 := fun W (h : Below w.heap.size w W) => Legs_ok b W (hk.on h) hv
  have hle := chk_le b hv
  have E := (Env.nil w).add w.heap.size 32 b.cs rfl
  have HC := Lib.hid (show chk b = if nl b.code = 1 then [] else kds (bn b.size) b.size (nl b.code) (legF b) (nl b.code) from rfl)
  have HQ := Lib.hid (show legs b = (List.range (nl b.code)).map (legF b) from rfl)
  have n6 := nl_le (barB_and hv).1
  have nm := nl_mc (barB_and hv).1
  have hbn := bn_bd hs
  have hsz : 6 ≤ b.size ∧ b.size ≤ 40 := by
    rcases isz_cases hs with e | e | e | e | e | e | e | e | e <;> omega
  have hcs : b.cs = #[.string b.mark, .int .i64 b.size, .int .i64 b.count, .int .i64 b.code, .slice b.p b.ds.length b.cap] := rfl
  have hvv : b.val = .agg b.cs := rfl
  rw [hcs] at E hvv
  rw [hr] at h29
  rw [hvv] at h29 h26 h17 h30 ⊢
  clear hr hk hcs hvv hv hs
  generalize chk b = CH at *
  generalize legs b = LS at *
  generalize bn b.size = r at *
  generalize legF b = lf at *
  generalize nl b.code = n at *
  generalize mc b.code = m at *
  subst hn
  rw [if_pos rfl] at HC
  obtain rfl := HC.out
  clear HC HQ nm hbn hsz n6 hle
  have C := E.cells
  simp [BC, CF] at C
  go_enter Try.func9, Try.ntmps9
  go_wp2_with (first
    | (go_at_call 10; (with_reducible refine (h10 _).mono ?_); rintro X wq ⟨rfl, hb⟩; replace E := E.on hb; replace C := E.cells; simp [BC, CF] at C; clear hb)
    | (go_at_call 29; (with_reducible refine (h29 _ (envb E)).mono ?_); rintro X wq ⟨rfl, hb⟩; replace E := E.on hb; replace C := E.cells; simp [BC, CF] at C; clear hb)
    | (go_at_call 26; (with_reducible refine (h26 _ (envb E)).mono ?_); rintro X w1 ⟨v1, rfl, hO, hb⟩; replace hO := Own.rd (fl b.mark) hO; obtain ⟨p1, c1, rfl⟩ : ∃ p c, v1 = .slice p 0 c := (let ⟨p, c, e, _⟩ := hO; ⟨p, c, e⟩); replace hO := Rd.on (fl b.mark) hO (al1 w1 (.cells #[.slice p1 0 c1] 39)); replace E := (E.on hb).add w1.heap.size 39 #[.slice p1 0 c1] rfl; replace C := E.cells; simp [BC, CF] at C; clear hb)
    | (go_at_call 17; (with_reducible refine (h17 _ (envb E)).mono ?_); rintro X wq ⟨rfl, hb⟩; replace E := E.on hb; replace C := E.cells; simp [BC, CF] at C; clear hb)
    | (go_at_call 31; (with_reducible refine (h31 _).mono ?_); rintro X wq ⟨rfl, hb⟩; replace E := E.on hb; replace C := E.cells; simp [BC, CF] at C; clear hb)
    | (go_at_call 30; (with_reducible refine (h30 _ (envb E)).mono ?_); rintro X wq ⟨gL, rfl, hR, hb⟩; replace E := E.on hb; replace C := E.cells; simp [BC, CF] at C; clear hb))
  go_ret
  exact ⟨by simp, envb E⟩
set_option maxHeartbeats 8000000 in
set_option maxRecDepth 100000 in
theorem finds_more (b : Bar) (w : World) (hk : b.Ok w) (hr : rightB b = true) (hn : 2 ≤ nl b.code) : Calls Try.prog 9 #[b.val] w fun e w' => e = .returned (.bool true) ∧ Below w.heap.size w w' := by
  have hv : barB b = true := by
    unfold rightB at hr
    simp only [Bool.and_eq_true] at hr
    exact hr.2
  have hs := (barB_and hv).2.2.2.2.1
  have h10 := fun W => awake_any W
  have h29 := fun W (h : Below w.heap.size w W) => right_any b W (hk.on h)
  have h26 := fun W (h : Below w.heap.size w W) => Check_ok b W (hk.on h) hv
  have h17 := fun W (h : Below w.heap.size w W) => Bends_ok b W (hk.on h) hv
  have h31 := fun W => bend_ok b.size hs W
  have h30 := fun W (h : Below w.heap.size w W) => Legs_ok b W (hk.on h) hv
  have hle := chk_le b hv
  have E := (Env.nil w).add w.heap.size 32 b.cs rfl
  have HC := Lib.hid (show chk b = if nl b.code = 1 then [] else kds (bn b.size) b.size (nl b.code) (legF b) (nl b.code) from rfl)
  have HQ := Lib.hid (show legs b = (List.range (nl b.code)).map (legF b) from rfl)
  have n6 := nl_le (barB_and hv).1
  have nm := nl_mc (barB_and hv).1
  have hbn := bn_bd hs
  have hsz : 6 ≤ b.size ∧ b.size ≤ 40 := by
    rcases isz_cases hs with e | e | e | e | e | e | e | e | e <;> omega
  have hcs : b.cs = #[.string b.mark, .int .i64 b.size, .int .i64 b.count, .int .i64 b.code, .slice b.p b.ds.length b.cap] := rfl
  have hvv : b.val = .agg b.cs := rfl
  rw [hcs] at E hvv
  rw [hr] at h29
  rw [hvv] at h29 h26 h17 h30 ⊢
  clear hr hk hcs hvv hv hs
  generalize chk b = CH at *
  generalize legs b = LS at *
  generalize bn b.size = r at *
  generalize legF b = lf at *
  generalize nl b.code = n at *
  generalize mc b.code = m at *
  obtain ⟨j, hj⟩ : ∃ j, Hid (n = j + 2) := ⟨n - 2, Lib.hid (by omega)⟩
  obtain ⟨jj, hjj⟩ : ∃ jj, Hid (jj = j + 1) := ⟨_, Lib.hid rfl⟩
  rw [if_neg (by omega)] at HC
  have H1 : hasK 1 CH = decide (min (lf 0) (lf jj) < r + 5 * b.size) := by rw [HC.out, hj.out, hjj.out]; exact has_one _ _ _ _
  have H2 : hasK 2 CH = inr r lf j := by rw [HC.out, hj.out]; exact has_two _ _ _ _
  have hA : ∀ x ∈ CH, x = 1 ∨ x = 2 := by rw [HC.out]; exact kds_in
  have hlen : CH.length ≤ n := by rw [HC.out]; exact kds_le _ _ _ _ _
  obtain ⟨X, hX⟩ : ∃ X, decide (min (lf 0) (lf jj) < r + 5 * b.size) = X := ⟨_, rfl⟩
  rw [hX] at H1
  have t0 : decide ((CH.length : Int) > (n : Int)) = false := by simp; omega
  have t1 : decide ((n : Int) < (CH.length : Int)) = false := by simp; omega
  have t2 : (((n : Int) - 1) == 0) = false := by simp; omega
  have t3 : ¬ ((n : Int) - 1) = 0 := by omega
  have W0 : IntKind.i64.wrap ((n : Int) - 1) = (jj : Int) := by have := hj.out; have := hjj.out; rw [IntWalk.i64_in _ (by omega)]; omega
  have W5 : IntKind.i64.wrap (5 * b.size) = 5 * b.size := IntWalk.i64_in _ (by omega)
  have W6 : IntKind.i64.wrap (r + 5 * b.size) = r + 5 * b.size := IntWalk.i64_in _ (by omega)
  have W7 : IntKind.i64.wrap (2 * r) = 2 * r := IntWalk.i64_in _ (by omega)
  have q0 : (0 : Int) < (n : Int) := by omega
  have q0' : 0 < n := by omega
  have q1 : (0 : Int) ≤ (jj : Int) := by omega
  have q2 : (jj : Int) < (n : Int) := by have := hj.out; have := hjj.out; omega
  have q3 : (1 : Int) ≤ (jj : Int) := by have := hjj.out; omega
  have q4 : (jj : Int) ≤ (m : Int) := by have := hj.out; have := hjj.out; omega
  clear HC hbn hsz hn
  have C := E.cells
  simp [BC, CF] at C
  go_enter Try.func9, Try.ntmps9
  go_upto_region 13 with (first
    | (go_at_call 10; (with_reducible refine (h10 _).mono ?_); rintro X wq ⟨rfl, hb⟩; replace E := E.on hb; replace C := E.cells; simp [BC, CF] at C; clear hb)
    | (go_at_call 29; (with_reducible refine (h29 _ (envb E)).mono ?_); rintro X wq ⟨rfl, hb⟩; replace E := E.on hb; replace C := E.cells; simp [BC, CF] at C; clear hb)
    | (go_at_call 26; (with_reducible refine (h26 _ (envb E)).mono ?_); rintro X w1 ⟨v1, rfl, hO, hb⟩; replace hO := Own.rd (fl b.mark) hO; obtain ⟨p1, c1, rfl⟩ : ∃ p c, v1 = .slice p CH.length c := (let ⟨p, c, e, _⟩ := hO; ⟨p, c, e⟩); replace hO := Rd.on (fl b.mark) hO (al1 w1 (.cells #[.slice p1 CH.length c1] 39)); replace E := (E.on hb).add w1.heap.size 39 #[.slice p1 CH.length c1] rfl; replace C := E.cells; simp [BC, CF] at C; clear hb)
    | (go_at_call 17; (with_reducible refine (h17 _ (envb E)).mono ?_); rintro X wq ⟨rfl, hb⟩; replace hO := Rd.on (fl b.mark) hO hb; replace E := E.on hb; replace C := E.cells; simp [BC, CF] at C; clear hb)
    | (go_at_call 31; (with_reducible refine (h31 _).mono ?_); rintro X wq ⟨rfl, hb⟩; replace hO := Rd.on (fl b.mark) hO hb; replace E := E.on hb; replace C := E.cells; simp [BC, CF] at C; clear hb)
    | (go_at_call 30; (with_reducible refine (h30 _ (envb E)).mono ?_); rintro X wq ⟨gL, rfl, hR, hb⟩; replace hO := Rd.on (fl b.mark) hO hb; replace E := E.on hb; replace C := E.cells; simp [BC, CF] at C; clear hb))
  have d := rdz_at hR
  have d0 : wq.cell? ⟨gL, 0, none⟩ = some (.int .i64 (lf 0)) := by
    have := d 0 (by simp [HQ.out]; omega)
    rw [this]; simp [HQ.out]
  have d1 : wq.cell? ⟨gL, jj, none⟩ = some (.int .i64 (lf jj)) := by
    have := d jj (by simp [HQ.out]; omega)
    rw [this]; simp [HQ.out]
  clear d
  refine wp_region_plan 16 [(0, true), (1, true), (2, true), (3, true), (4, true), (5, true), (6, true), (7, true), (8, true), (9, true), (10, true), (11, true), (12, true), (13, true), (14, true), (15, true)] (fun W' => Env w W' [⟨w1.heap.size, 39, #[.slice p1 CH.length c1]⟩, ⟨w.heap.size, 32, #[.string b.mark, .int .i64 b.size, .int .i64 b.count, .int .i64 b.code, .slice b.p b.ds.length b.cap]⟩] ∧ W'.cell? ⟨w.heap.size, 1, none⟩ = some (.int .i64 b.size) ∧ W'.cell? ⟨gL, 0, none⟩ = some (.int .i64 (lf 0)) ∧ W'.cell? ⟨gL, jj, none⟩ = some (.int .i64 (lf jj))) (by kernel_rfl) (by kernel_rfl) (fun _ _ d _ _ h => by cases d <;> exact h) ⟨E.drw, tl1 E.drw, d0, d1⟩ ?_
  simp only [List.filterMap_cons, List.filterMap_nil, List.getElem?_cons_zero, List.getElem?_cons_succ, Option.map_some, List.drop_succ_cons, List.drop_zero]
  replace E := E.drw
  replace hO := Rd.on (fl b.mark) hO (Below.drew (Below.refl wq.heap.size wq))
  replace hR := hR.on (Below.drew (Below.refl wq.heap.size wq))
  iterate 16 (first | (refine wpPlan_still (v := ?_) (Or.inl ⟨by rfl, ?_⟩) ?_; rotate_left; (focus (intro W hW; (try dsimp only at hW); go_split_ands; go_simp; try with_reducible rfl)); try simp only [Act.put, List.setIfInBounds_toArray, List.set_cons_zero, List.set_cons_succ]) | (refine wpPlan_still (Or.inr ⟨by rfl, rfl⟩) ?_; try simp only [Act.put, List.setIfInBounds_toArray, List.set_cons_zero, List.set_cons_succ]))
  refine wpPlan_end ?_
  replace C := E.cells
  simp [BC, CF] at C
  go_upto_region 16 with fail
  have ej : jj - 1 = j := by have := hjj.out; omega
  rw [ej]
  have HD := Lib.hid (rdz_at hR)
  have HJ : Hid (∀ k, k < j → k + 1 < LS.length ∧ ∀ h, LS[k + 1]'h = lf (k + 1)) := Lib.hid fun k hk => ⟨by have := hj.out; simp [HQ.out]; omega, fun h => by simp [HQ.out]⟩
  generalize wq.drew = V at *
  clear ej d0 d1 hR
  go_loop [12, 90] (fun v12 v90 => ∃ k : Nat, v12 = .bool (inr r lf k) ∧ v90 = .int .i64 k ∧ k ≤ j) (fun _ v => j - (intOf v).toNat)
  case atStart => exact ⟨0, rfl, rfl, Nat.zero_le _⟩
  case round =>
    obtain ⟨k, rfl, rfl, hk⟩ := hrel
    by_cases hlt : k < j
    · have g1 : decide ((k : Int) < (j : Int)) = true := by simp [hlt]
      have W1 : IntKind.i64.wrap ((k : Int) + 1) = ((k + 1 : Nat) : Int) := by have := hj.out; rw [IntWalk.i64_in _ (by omega)]; omega
      have p0 : (0 : Int) ≤ (k : Int) := by omega
      have p2 : (k : Int) < (j : Int) := by omega
      obtain ⟨hkl, hke⟩ := HJ.out k hlt
      have d2 := HD.out (k + 1) hkl
      rw [hke] at d2
      have d3 : V.cell? ⟨gL, 1 + k, none⟩ = some (.int .i64 (lf (k + 1))) := by rw [Nat.add_comm]; exact d2
      have HS := Lib.hid (inr_succ r lf k)
      clear hke hkl
      cases hI : inr r lf k
      · rw [hI] at HS
        by_cases hy : lf (k + 1) < 2 * r
        · have y1 : decide (lf (k + 1) < 2 * r) = true := by simp [hy]
          rw [y1] at HS
          go_wp2
          exact ⟨⟨k + 1, by rw [HS.out]; rfl, rfl, hlt⟩, by simp [intOf]; omega⟩
        · have y1 : decide (lf (k + 1) < 2 * r) = false := by simp [hy]
          rw [y1] at HS
          go_wp2
          exact ⟨⟨k + 1, by rw [HS.out]; rfl, rfl, hlt⟩, by simp [intOf]; omega⟩
      · rw [hI] at HS
        go_wp2
        exact ⟨⟨k + 1, by rw [HS.out]; rfl, rfl, hlt⟩, by simp [intOf]; omega⟩
    · have g1 : decide ((k : Int) < (j : Int)) = false := by simp; omega
      obtain rfl : k = j := by omega
      generalize inr r lf k = Y at *
      go_wp2_with (first
        | (go_at_call 36; (with_reducible refine (has36 b.mark _ CH _ _ _ hO (by omega) (hd1 E)).mono ?_); rintro X' wk ⟨rfl, hb⟩; (first | rw [H1] | rw [H2]); replace hO := Rd.on (fl b.mark) hO hb; replace E := E.on hb; replace C := E.cells; simp [BC, CF] at C; clear hb)
        | (go_at_call 37; (with_reducible refine (con39 b.mark _ CH _ _ hO (by omega) hA (tl0 E)).mono ?_); rintro X' wk ⟨rfl, hb⟩; replace hO := Rd.on (fl b.mark) hO hb; replace E := E.on hb; replace C := E.cells; simp [BC, CF] at C; clear hb))
      go_ret
      exact ⟨by simp, envb E⟩
theorem finds_walk (b : Bar) (w : World) (hk : b.Ok w) : Calls Try.prog 9 #[b.val] w fun e w' => e = .returned (.bool true) ∧ Below w.heap.size w w' := by
  cases hr : rightB b
  · exact finds_not b w hk hr
  · have hv : barB b = true := by
      unfold rightB at hr
      simp only [Bool.and_eq_true] at hr
      exact hr.2
    have := nl_pos (barB_and hv).1
    by_cases h : nl b.code = 1
    · exact finds_one b w hk hr h
    · exact finds_more b w hk hr (by omega)
end Go.Proofs.Ythphgppgdlimeaa
