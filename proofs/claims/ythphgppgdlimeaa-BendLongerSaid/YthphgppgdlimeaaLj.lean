/- Check of the program. -/
import Derived.Test.YthphgppgdlimeaaLi
import Derived.Deep.CutBlock
namespace Go.Proofs.Ythphgppgdlimeaa
open Go.ChangeShapes Go.WideShapes Go.ChangeAt Go.RowKit
set_option linter.unusedVariables false
set_option linter.unusedSimpArgs false

/-- A finding: its kind, with the bar's mark. -/
def fc (mk : ByteArray) (k : Int) : List Value := [.int .i64 k, .string mk]
theorem fl (mk : ByteArray) (k : Int) : (fc mk k).length = 2 := rfl
def kd (r s : Int) (n : Nat) (lf : Nat → Int) (j : Nat) : List Int :=
  if j = 0 ∨ j + 1 = n then (if lf j < r + 5 * s then [1] else []) else (if lf j < 2 * r then [2] else [])
def kds (r s : Int) (n : Nat) (lf : Nat → Int) (k : Nat) : List Int := (List.range k).flatMap (kd r s n lf)
def chk (b : Bar) : List Int := if nl b.code = 1 then [] else kds (bn b.size) b.size (nl b.code) (legF b) (nl b.code)
theorem kd_le (r s : Int) (n : Nat) (lf : Nat → Int) (j : Nat) : (kd r s n lf j).length ≤ 1 := by
  unfold kd
  repeat' split
  all_goals simp
theorem kds_succ (r s : Int) (n : Nat) (lf : Nat → Int) (k : Nat) : kds r s n lf (k + 1) = kds r s n lf k ++ kd r s n lf k := by
  unfold kds
  rw [List.range_succ, List.flatMap_append]; simp
theorem kds_le (r s : Int) (n : Nat) (lf : Nat → Int) : ∀ k, (kds r s n lf k).length ≤ k
  | 0 => by simp [kds]
  | k + 1 => by
    rw [kds_succ, List.length_append]
    have := kds_le r s n lf k
    have := kd_le r s n lf k
    omega
theorem info44 : (Try.prog.info? 44).map (fun i => (i.zero, i.size, i.bytes)) = some (some (.agg #[.int .i64 0, .string ByteArray.empty]), 2, 24) := by kernel_rfl
set_option maxHeartbeats 8000000 in
set_option maxRecDepth 100000 in
theorem Check_no (b : Bar) (w : World) (hk : b.Ok w) (hv : barB b = false) : Calls Try.prog 26 #[b.val] w fun e w' => e = .returned (.tuple #[.slice none 0 0, .int .i64 1]) ∧ Below w.heap.size w w' := by
  have hL := fun W (h : Below w.heap.size w W) => parts_no b W (hk.on h) hv
  have E := (Env.nil w).add w.heap.size 32 b.cs rfl
  have hcs : b.cs = #[.string b.mark, .int .i64 b.size, .int .i64 b.count, .int .i64 b.code, .slice b.p b.ds.length b.cap] := rfl
  have hvv : b.val = .agg b.cs := rfl
  rw [hcs] at E hvv
  rw [hvv] at hL ⊢
  clear hk hv hcs hvv
  have C := E.cells
  simp [BC, CF] at C
  go_enter Try.func26, Try.ntmps26
  go_wp2_with (first
    | (go_at_call 45; (with_reducible refine (hL _ (envb E)).mono ?_); rintro X wq ⟨rfl, hb⟩; replace E := E.on hb; replace C := E.cells; simp [BC, CF] at C; clear hb))
  exact bodyPost_ret (v := .tuple #[.slice none 0 0, .int .i64 1]) (by simp [results, Try.results26, go_sem]) rfl ⟨rfl, envb E⟩
set_option maxHeartbeats 16000000 in
set_option maxRecDepth 100000 in
theorem Check_ok (b : Bar) (w : World) (hk : b.Ok w) (hv : barB b = true) : Calls Try.prog 26 #[b.val] w fun e w' => ∃ v, e = .returned (.tuple #[v, .int .i64 0]) ∧ Own (fc b.mark) 44 2 w.heap.size w' v (chk b) ∧ Below w.heap.size w w' := by
  have hL := fun W (h : Below w.heap.size w W) => parts_ok b W (hk.on h) hv
  have E := (Env.nil w).add w.heap.size 32 b.cs rfl
  have n6 := nl_le (barB_and hv).1
  have n0 := nl_pos (barB_and hv).1
  have hr := bn_bd (barB_and hv).2.2.2.2.1
  have hs : 6 ≤ b.size ∧ b.size ≤ 40 := by
    rcases isz_cases (barB_and hv).2.2.2.2.1 with e | e | e | e | e | e | e | e | e <;> omega
  have HC := Lib.hid (show chk b = if nl b.code = 1 then [] else kds (bn b.size) b.size (nl b.code) (legF b) (nl b.code) from rfl)
  have HQ := Lib.hid (show legs b = (List.range (nl b.code)).map (legF b) from rfl)
  have hcs : b.cs = #[.string b.mark, .int .i64 b.size, .int .i64 b.count, .int .i64 b.code, .slice b.p b.ds.length b.cap] := rfl
  have hvv : b.val = .agg b.cs := rfl
  rw [hcs] at E hvv
  rw [hvv] at hL ⊢
  clear hk hv hcs hvv
  generalize chk b = CH at *
  generalize bn b.size = r at *
  generalize legs b = LS at *
  generalize legF b = lf at *
  generalize nl b.code = n at *
  generalize mc b.code = m at *
  have C := E.cells
  simp [BC, CF] at C
  obtain ⟨i0, hinf, hz0, hz1, hz2⟩ := info_parts info44
  by_cases hn : n = 1
  · subst hn
    rw [if_pos rfl] at HC
    go_enter Try.func26, Try.ntmps26
    go_wp2_with (first
      | (go_at_call 45; (with_reducible refine (hL _ (envb E)).mono ?_); rintro X wq ⟨gL, rfl, hR, hb⟩; replace E := E.on hb; replace C := E.cells; simp [BC, CF] at C; clear hb))
    exact bodyPost_ret (v := .tuple #[.slice none 0 0, .int .i64 0]) (by simp [results, Try.results26, go_sem]) rfl ⟨_, rfl, by rw [HC.out]; exact ⟨rfl, .inl ⟨rfl, rfl⟩⟩, envb E⟩
  rw [if_neg hn] at HC
  have t0 : ((n : Int) == 1) = false := by simp; omega
  have t1 : ¬ (n : Int) = 1 := by omega
  have W5 : IntKind.i64.wrap (5 * b.size) = 5 * b.size := IntWalk.i64_in _ (by omega)
  have W6 : IntKind.i64.wrap (r + 5 * b.size) = r + 5 * b.size := IntWalk.i64_in _ (by omega)
  have W7 : IntKind.i64.wrap (2 * r) = 2 * r := IntWalk.i64_in _ (by omega)
  clear hr hs
  go_enter Try.func26, Try.ntmps26
  go_wp2_with (go_at_call 45; (with_reducible refine (hL _ (envb E)).mono ?_); rintro X w1 ⟨gL, rfl, hR, hb⟩; replace E := E.on hb; replace C := E.cells; simp [BC, CF] at C; clear hb)
  have HR := Lib.hid hR
  have hw1 : w.heap.size + 1 ≤ w1.heap.size := C.1
  clear hR
  go_loopw [7, 27] (fun v7 v27 wr => ∃ (k : Nat) (F : Value), v27 = .int .i64 k ∧ F = v7 ∧ k ≤ n ∧ Env w wr [⟨w.heap.size, 32, #[.string b.mark, .int .i64 b.size, .int .i64 b.count, .int .i64 b.code, .slice b.p b.ds.length b.cap]⟩] ∧ Own (fc b.mark) 44 2 w1.heap.size wr F (kds r b.size n lf k) ∧ Below w1.heap.size w1 wr) (fun _ v _ => n - (intOf v).toNat)
  case atStart => exact ⟨0, _, rfl, rfl, Nat.zero_le _, E, ⟨rfl, .inl ⟨rfl, rfl⟩⟩, Below.refl _ _⟩
  case round =>
    clear E C
    obtain ⟨k, F, rfl, rfl, hk, E, hO, B⟩ := hrel
    have C := E.cells
    simp [BC, CF] at C
    have hsz := B.size
    have hle := kds_le r b.size n lf k
    by_cases hlt : k < n
    · have g1 : decide ((k : Int) < (n : Int)) = true := by simp [hlt]
      have W1 : IntKind.i64.wrap ((k : Int) + 1) = ((k + 1 : Nat) : Int) := by rw [IntWalk.i64_in _ (by omega)]; omega
      have q1 : (0 : Int) ≤ (k : Int) := by omega
      have q2 : (k : Int) < (n : Int) := by omega
      obtain ⟨q, c, e0, hr⟩ := HR.out
      simp only [Value.slice.injEq] at e0
      obtain ⟨rfl, e1, -⟩ := e0
      obtain ⟨a, ea, d0⟩ := hr k (by omega)
      cases ea
      rw [Addr.add_lit, Nat.zero_add] at d0
      have d2 := cellLater B d0
      rw [show LS[k] = lf k by simp [HQ.out]] at d2
      clear d0 hr e1
      obtain ⟨O, HO⟩ : ∃ O, Hid (kds r b.size n lf k = O) := ⟨_, Lib.hid rfl⟩
      rw [HO.out] at hO hle
      by_cases h0 : k = 0
      · by_cases hc : lf k < r + 5 * b.size
        · have c1 : decide (lf k < r + 5 * b.size) = true := by simp; omega
          have HK : Hid (kds r b.size n lf (k + 1) = O ++ [1]) := Lib.hid (by rw [kds_succ, HO.out]; unfold kd; rw [if_pos (by omega), if_pos hc])
          clear hc HO
          subst h0
          go_wp2_with (at_builtin; refine wpList_append_own_at _ rfl _ _ 39 rfl w1.heap.size 44 i0 _ 2 24 Try.underlying39 hinf hz0 hz1 hz2 rfl (by decide) _ O.length (O.flatMap (fc b.mark)) rfl (own_on hO (al1 _ _)) ⟨_, 0, none⟩ 1 1 [.int .i64 1, .string b.mark] rfl rfl (World.news_of_block (cs := #[.int .i64 1, .string b.mark]) (t := 44) (fr := (0, 0)) (heap_alloc_new wr _)) (by simp [Value.oneCell']) (by unfold maxLen; omega) (by omega) (by simp; omega) ?_)
          intro v' w6 p1 p2 p3 p4
          have O5 : Own (fc b.mark) 44 2 w1.heap.size w6 v' (O ++ [1]) := own_snoc p1
          have E5 := env_row (E.more _) p2 (fun k hk => Nat.le_trans hw1 (World.ownsRow.lt hO k hk).1)
          have B5 : Below w1.heap.size w1 w6 := (al B _).grown p2 (by have := B.size; simp; omega) (fun q hq => (World.ownsRow.lt hO q hq).1)
          clear p1 p2 p3 p4 hO E
          go_wp2
          go_roundw
          · exact ⟨1, _, by simp, rfl, hlt, E5, by rw [HK.out]; exact O5, B5⟩
          · simp [intOf]; omega
        · have c1 : decide (lf k < r + 5 * b.size) = false := by simp; omega
          have HK : Hid (kds r b.size n lf (k + 1) = O ++ []) := Lib.hid (by rw [kds_succ, HO.out]; unfold kd; rw [if_pos (by omega), if_neg hc])
          clear hc HO
          subst h0
          rw [List.append_nil] at HK
          go_wp2
          go_roundw
          · exact ⟨1, _, by simp, rfl, hlt, E, by rw [HK.out]; exact hO, B⟩
          · simp [intOf]; omega
      by_cases h1 : k + 1 = n
      · by_cases hc : lf k < r + 5 * b.size
        · have c1 : decide (lf k < r + 5 * b.size) = true := by simp; omega
          have HK : Hid (kds r b.size n lf (k + 1) = O ++ [1]) := Lib.hid (by rw [kds_succ, HO.out]; unfold kd; rw [if_pos (by omega), if_pos hc])
          have b0 : ((k : Int) == 0) = false := by simp; omega
          have b1 : ¬ (k : Int) = 0 := by omega
          have b2 : IntKind.i64.wrap ((n : Int) - 1) = (k : Int) := by rw [IntWalk.i64_in _ (by omega)]; omega
          clear hc HO
          clear h0
          clear h1
          go_wp2_with (at_builtin; refine wpList_append_own_at _ rfl _ _ 39 rfl w1.heap.size 44 i0 _ 2 24 Try.underlying39 hinf hz0 hz1 hz2 rfl (by decide) _ O.length (O.flatMap (fc b.mark)) rfl (own_on hO (al1 _ _)) ⟨_, 0, none⟩ 1 1 [.int .i64 1, .string b.mark] rfl rfl (World.news_of_block (cs := #[.int .i64 1, .string b.mark]) (t := 44) (fr := (0, 0)) (heap_alloc_new wr _)) (by simp [Value.oneCell']) (by unfold maxLen; omega) (by omega) (by simp; omega) ?_)
          intro v' w6 p1 p2 p3 p4
          have O5 : Own (fc b.mark) 44 2 w1.heap.size w6 v' (O ++ [1]) := own_snoc p1
          have E5 := env_row (E.more _) p2 (fun k hk => Nat.le_trans hw1 (World.ownsRow.lt hO k hk).1)
          have B5 : Below w1.heap.size w1 w6 := (al B _).grown p2 (by have := B.size; simp; omega) (fun q hq => (World.ownsRow.lt hO q hq).1)
          clear p1 p2 p3 p4 hO E
          go_wp2
          go_roundw
          · exact ⟨k + 1, _, rfl, rfl, hlt, E5, by rw [HK.out]; exact O5, B5⟩
          · simp [intOf]; omega
        · have c1 : decide (lf k < r + 5 * b.size) = false := by simp; omega
          have HK : Hid (kds r b.size n lf (k + 1) = O ++ []) := Lib.hid (by rw [kds_succ, HO.out]; unfold kd; rw [if_pos (by omega), if_neg hc])
          have b0 : ((k : Int) == 0) = false := by simp; omega
          have b1 : ¬ (k : Int) = 0 := by omega
          have b2 : IntKind.i64.wrap ((n : Int) - 1) = (k : Int) := by rw [IntWalk.i64_in _ (by omega)]; omega
          clear hc HO
          clear h0
          clear h1
          rw [List.append_nil] at HK
          go_wp2
          go_roundw
          · exact ⟨k + 1, _, rfl, rfl, hlt, E, by rw [HK.out]; exact hO, B⟩
          · simp [intOf]; omega
      by_cases hc : lf k < 2 * r
      · have c1 : decide (lf k < 2 * r) = true := by simp; omega
        have HK : Hid (kds r b.size n lf (k + 1) = O ++ [2]) := Lib.hid (by rw [kds_succ, HO.out]; unfold kd; rw [if_neg (by omega), if_pos hc])
        have b0 : ((k : Int) == 0) = false := by simp; omega
        have b1 : ¬ (k : Int) = 0 := by omega
        have b2 : IntKind.i64.wrap ((n : Int) - 1) = (n : Int) - 1 := by rw [IntWalk.i64_in _ (by omega)]
        have b3 : ((k : Int) == (n : Int) - 1) = false := by simp; omega
        have b4 : ¬ (k : Int) = (n : Int) - 1 := by omega
        clear hc HO
        clear h0
        clear h1
        go_wp2_with (at_builtin; refine wpList_append_own_at _ rfl _ _ 39 rfl w1.heap.size 44 i0 _ 2 24 Try.underlying39 hinf hz0 hz1 hz2 rfl (by decide) _ O.length (O.flatMap (fc b.mark)) rfl (own_on hO (al1 _ _)) ⟨_, 0, none⟩ 1 1 [.int .i64 2, .string b.mark] rfl rfl (World.news_of_block (cs := #[.int .i64 2, .string b.mark]) (t := 44) (fr := (0, 0)) (heap_alloc_new wr _)) (by simp [Value.oneCell']) (by unfold maxLen; omega) (by omega) (by simp; omega) ?_)
        intro v' w6 p1 p2 p3 p4
        have O5 : Own (fc b.mark) 44 2 w1.heap.size w6 v' (O ++ [2]) := own_snoc p1
        have E5 := env_row (E.more _) p2 (fun k hk => Nat.le_trans hw1 (World.ownsRow.lt hO k hk).1)
        have B5 : Below w1.heap.size w1 w6 := (al B _).grown p2 (by have := B.size; simp; omega) (fun q hq => (World.ownsRow.lt hO q hq).1)
        clear p1 p2 p3 p4 hO E
        go_wp2
        go_roundw
        · exact ⟨k + 1, _, rfl, rfl, hlt, E5, by rw [HK.out]; exact O5, B5⟩
        · simp [intOf]; omega
      · have c1 : decide (lf k < 2 * r) = false := by simp; omega
        have HK : Hid (kds r b.size n lf (k + 1) = O ++ []) := Lib.hid (by rw [kds_succ, HO.out]; unfold kd; rw [if_neg (by omega), if_neg hc])
        have b0 : ((k : Int) == 0) = false := by simp; omega
        have b1 : ¬ (k : Int) = 0 := by omega
        have b2 : IntKind.i64.wrap ((n : Int) - 1) = (n : Int) - 1 := by rw [IntWalk.i64_in _ (by omega)]
        have b3 : ((k : Int) == (n : Int) - 1) = false := by simp; omega
        have b4 : ¬ (k : Int) = (n : Int) - 1 := by omega
        clear hc HO
        clear h0
        clear h1
        rw [List.append_nil] at HK
        go_wp2
        go_roundw
        · exact ⟨k + 1, _, rfl, rfl, hlt, E, by rw [HK.out]; exact hO, B⟩
        · simp [intOf]; omega
    · have g1 : decide ((k : Int) < (n : Int)) = false := by simp; omega
      obtain rfl : k = n := by omega
      rw [← HC.out] at hO
      have HO := hO.mono (B' := w.heap.size) (by omega)
      go_wp2
      exact bodyPost_ret (v := .tuple #[_, .int .i64 0]) (by simp [results, Try.results26, go_sem]) rfl ⟨_, rfl, HO, envb E⟩
end Go.Proofs.Ythphgppgdlimeaa
