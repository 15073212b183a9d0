/- The program: barOf, the words one by one. -/
import Derived.Test.YthdafpbmmfelpaaGreatDoorBp
import Derived.StillTailTactics
namespace Go.Proofs.YthdafpbmmfelpaaGreatDoor
open Go.ChangeShapes Go.WideShapes Go.ChangeAt Go.RowKit Dec
set_option linter.unusedVariables false
set_option linter.unusedSimpArgs false

theorem env_row2 {w w1 w2 : World} {t1 t2 : TypeId} {c1 c2 : Array Value} {row : Option Nat} (E : Env w w1 [⟨w.heap.size + 1, t1, c1⟩, ⟨w.heap.size, t2, c2⟩]) (hg : w1.grownBy w2 row) (hr : ∀ k, row = some k → w.heap.size + 2 ≤ k) : Env w w2 [⟨w.heap.size + 1, t1, c1⟩, ⟨w.heap.size, t2, c2⟩] := by
  obtain ⟨h1, h2, h3, h4, k2, k3, k4, k5⟩ := E
  exact ⟨h1.grown hg h1.size (fun k hk => by have := hr k hk; omega), h2, Has.grown_ h3 hg (fun e => by have := hr _ e.symm; dsimp only at *; omega), h4, k2, Has.grown_ k3 hg (fun e => by have := hr _ e.symm; dsimp only at *; omega), k4, k5⟩
set_option maxHeartbeats 8000000 in
set_option maxRecDepth 100000 in
theorem barOf_words (s t : ByteArray) (ws : List ByteArray) (w : World)
    (h79 : ∀ W, Calls Tryz.prog 79 #[.string s, .string ⟨#[10]⟩] W fun e w' => e = .returned (.tuple #[.string t, .bool true]) ∧ w' = W)
    (h80 : ∀ W, Cut1 W → Calls Tryz.prog 80 #[.string t, .string ⟨#[32]⟩] W fun e w' => e = .returned (.slice (some ⟨W.heap.size, 0, none⟩) ws.length ws.length) ∧ w' = W.alloc (.cells (ws.map Value.string).toArray 9))
    (hC : Cut1 w) (hF : Frm w) (hl : ws.length ≤ 300000) (hx : ∀ x ∈ ws, x.size ≤ maxLen) (h5 : 5 ≤ ws.length) :
    Calls Tryz.prog 48 #[.string s] w fun e w' => (wrdsB ws = false → e = .returned (.tuple #[zeroB, .bool false])) ∧ (wrdsB ws = true → ∃ p c, e = .returned (.tuple #[.agg #[.string (ws.getD 0 ⟨#[]⟩), .int .i64 (wrdV 1 (ws.getD 1 ⟨#[]⟩)), .int .i64 (wrdV 2 (ws.getD 2 ⟨#[]⟩)), .int .i64 (wrdV 3 (ws.getD 3 ⟨#[]⟩)), .slice p (ws.length - 4) c], .bool true]) ∧ (∀ a, p = some a → w.heap.size ≤ a.block) ∧ Rdz w' (.slice p (ws.length - 4) c) ((vals ws ws.length).drop 4)) ∧ Below w.heap.size w w' := by
  obtain ⟨i0, hi, hz0, hz1, hz2⟩ := info_parts info3
  have E := ((Env.nil w).add w.heap.size 60 #[.string ⟨#[]⟩, .int .i64 0, .int .i64 0, .int .i64 0, .slice none 0 0] rfl).add (w.heap.size + 1) 9 (ws.map Value.string).toArray (by simp)
  have h80' := h80 _ (hC.on (al1 w (.cells #[.string ⟨#[]⟩, .int .i64 0, .int .i64 0, .int .i64 0, .slice none 0 0] 60)))
  have g1 : decide ((ws.length : Int) < 5) = false := by simp; omega
  have HE := Lib.hid E
  have HX := Lib.hid hx
  clear E h80 hx
  go_enter Tryz.func48, Tryz.ntmps48
  go_wp2_with (first
    | (go_at_call 79; (with_reducible refine (h79 _).mono ?_); rintro X w1 ⟨rfl, rfl⟩)
    | (go_at_call 80; (with_reducible refine h80'.mono ?_); rintro X w2 ⟨rfl, rfl⟩))
  clear h79 h80'
  go_loopw [6, 28] (fun v6 v28 wr => ∃ (k : Nat) (F : Value), v28 = .int .i64 k ∧ F = v6 ∧ k ≤ ws.length ∧ OwnI (w.heap.size + 2) wr F (vals ws k) ∧ Hid (∀ i, i < k → wrdB i (ws.getD i ⟨#[]⟩) = true) ∧ Hid (Env w wr [⟨w.heap.size + 1, 9, (ws.map Value.string).toArray⟩, ⟨w.heap.size, 60, #[.string ⟨#[]⟩, .int .i64 0, .int .i64 0, .int .i64 0, .slice none 0 0]⟩])) (fun _ v _ => ws.length - (intOf v).toNat)
  case atStart => exact ⟨0, _, rfl, rfl, Nat.zero_le _, ⟨rfl, .inl ⟨rfl, rfl⟩⟩, Lib.hid (fun i h => absurd h (Nat.not_lt_zero i)), HE⟩
  case round =>
    obtain ⟨k, F, rfl, rfl, hk, hO, hA, hE⟩ := hrel
    by_cases hlt : k < ws.length
    · have t1 : decide ((k : Int) < (ws.length : Int)) = true := by simp; omega
      have V1 : IntKind.i64.wrap ((k : Int) + 1) = ((k + 1 : Nat) : Int) := by rw [IntWalk.i64_in _ (by omega)]; omega
      have u1 : (0 : Int) ≤ (k : Int) := by omega
      have u2 : (k : Int) < (ws.length : Int) := by omega
      have c0 : wr.cell? ⟨w.heap.size + 1, k, none⟩ = some (.string ws[k]) := by
        have := hE.out.2.2.1.read k
        rw [this]; simp [hlt]
      have hB := envb hE.out
      have f0 : wr.cell? ⟨0, (min (k : Int) 4).toNat, none⟩ = some (.int .i64 (frmI k)) := by
        rw [← frm_min k, show (min (k : Int) 4).toNat = min k 4 by omega]
        exact (hF.on hB) (min k 4) (by omega)
      have m1 : (0 : Int) ≤ min (k : Int) 4 := by omega
      have m2 : min (k : Int) 4 < 5 := by omega
      have h81 := value_any k ws[k] wr (HX.out _ (List.getElem_mem hlt))
      have HNo := Lib.hid (fun h => wrds_no hlt h)
      have HVs := Lib.hid (vals_succ ws hlt)
      have HD : ws.getD k ⟨#[]⟩ = ws[k] := by simp [List.getD_eq_getElem?_getD, hlt]
      have HA2 : Hid (wrdB k ws[k] = true → ∀ i, i < k + 1 → wrdB i (ws.getD i ⟨#[]⟩) = true) := Lib.hid fun h i hi => by
        rcases Nat.lt_or_ge i k with h2 | h2
        · exact hA.out i h2
        · obtain rfl : i = k := by omega
          rw [HD]; exact h
      clear HD
      generalize wrdV k ws[k] = V at *
      generalize ws[k] = x at *
      have HO := Lib.hid hO
      clear hO
      cases hb : wrdB k x
      · rw [hb] at h81
        have HNo2 := Lib.hid (HNo.out hb)
        go_wp2_with (go_at_call 81; (with_reducible refine h81.mono ?_); rintro X w1 ⟨v, rfl, hv, hb1⟩; have E1 := (hE.out.on hb1).tail; obtain ⟨-, C0, C1, C2, C3, C4⟩ := s_b5 E1; have F0 : w1.frozen? ⟨w.heap.size, 0, none⟩ = false := Has.open_ E1.2.2.1 0; have F1 : w1.frozen? ⟨w.heap.size, 1, none⟩ = false := Has.open_ E1.2.2.1 1; have F2 : w1.frozen? ⟨w.heap.size, 2, none⟩ = false := Has.open_ E1.2.2.1 2; have F3 : w1.frozen? ⟨w.heap.size, 3, none⟩ = false := Has.open_ E1.2.2.1 3; have F4 : w1.frozen? ⟨w.heap.size, 4, none⟩ = false := Has.open_ E1.2.2.1 4)
        have P0 := Env.put E1 0 0 (.string ⟨#[]⟩) rfl
        have P1 := Env.put P0 0 1 (.int .i64 0) rfl
        have P2 := Env.put P1 0 2 (.int .i64 0) rfl
        have P3 := Env.put P2 0 3 (.int .i64 0) rfl
        have P4 := Env.put P3 0 4 (.slice none 0 0) rfl
        obtain ⟨-, D0, D1, D2, D3, D4⟩ := s_b5 P4
        have HBe := Lib.hid (envb P4)
        clear E1 P0 P1 P2 P3 P4 hE HA2 HO HE
        exact bodyPost_ret (v := .tuple #[zeroB, .bool false]) (by unfold zeroB; simp [results, Tryz.results48, go_sem, *]) rfl ⟨fun _ => rfl, fun h => absurd h (by rw [HNo2.out]; decide), HBe.out⟩
      · rw [hb] at h81
        have HA3 := Lib.hid (HA2.out hb)
        go_wp2_with (first
          | (go_at_call 81; (with_reducible refine h81.mono ?_); rintro X w1 ⟨v, rfl, hv, hb1⟩; have hvV : v = V := hv rfl; subst hvV; have E1 := Lib.hid (hE.out.on hb1); have hsz : w.heap.size + 1 < w1.heap.size := Has.size_ E1.out.2.2.1; have ho := own_on (own_on HO.out hb1) (al1 w1 (.cells #[.int .i64 v] 3)))
          | (at_builtin; refine wpList_append_own_at _ rfl _ _ 58 rfl (w.heap.size + 2) 3 i0 _ 1 8 Tryz.underlying58 hi hz0 hz1 hz2 rfl (by decide) _ (vals ws k).length ((vals ws k).map (Value.int .i64)) rfl ho _ 1 1 [.int .i64 v] rfl rfl (cell_one_new w1 (.int .i64 v) 3) (by simp [Value.oneCell']) (by rw [vals_len]; unfold maxLen; omega) (by rw [vals_len]; omega) (by rw [World.size_alloc]; omega) ?_))
        intro v' w6 r1 r2 r3 r4
        have O7 : OwnI (w.heap.size + 2) w6 v' (vals ws (k + 1)) := by
          unfold OwnI
          rw [HVs.out, List.length_append, List.map_append]
          exact r1
        have E7 := env_row2 (E1.out.more (.cells #[.int .i64 v] 3)) r2 (fun q hq => (World.ownsRow.lt ho q hq).1)
        have HO7 := Lib.hid (And.intro O7 E7)
        clear r1 r2 r3 r4 O7 E7 ho
        go_wp2
        exact ⟨⟨k + 1, v', rfl, rfl, hlt, HO7.out.1, HA3, Lib.hid HO7.out.2⟩, by simp [intOf]; omega⟩
    · obtain rfl : k = ws.length := by omega
      have t1 : decide ((ws.length : Int) < (ws.length : Int)) = false := by simp
      have hO' := hO
      obtain ⟨hl2, ⟨rfl, h0⟩ | ⟨g, cap, cur, rfl, hB2, hg, hn, hm, hs, ht⟩⟩ := hO'
      · rw [vals_len] at h0; omega
      have cv : ∀ j, j < ws.length → wr.cell? ⟨g, j, none⟩ = some (.int .i64 (wrdV j (ws.getD j ⟨#[]⟩))) := fun j hj => by
        rw [World.ownsRow.cellAt hO j (by rw [vals_len]; omega)]; simp [vals, hj]
      have c1 := cv 1 (by omega)
      have c2 := cv 2 (by omega)
      have c3 := cv 3 (by omega)
      have cw : wr.cell? ⟨w.heap.size + 1, 0, none⟩ = some (.string (ws.getD 0 ⟨#[]⟩)) := by
        have h0 : 0 < ws.length := by omega
        rw [hE.out.2.2.1.read 0]
        simp [List.getD_eq_getElem?_getD, h0]
      have E1 := hE.out.tail
      obtain ⟨-, C0, C1, C2, C3, C4⟩ := s_b5 E1
      have F0 : wr.frozen? ⟨w.heap.size, 0, none⟩ = false := Has.open_ E1.2.2.1 0
      have F1 : wr.frozen? ⟨w.heap.size, 1, none⟩ = false := Has.open_ E1.2.2.1 1
      have F2 : wr.frozen? ⟨w.heap.size, 2, none⟩ = false := Has.open_ E1.2.2.1 2
      have F3 : wr.frozen? ⟨w.heap.size, 3, none⟩ = false := Has.open_ E1.2.2.1 3
      have F4 : wr.frozen? ⟨w.heap.size, 4, none⟩ = false := Has.open_ E1.2.2.1 4
      rw [vals_len] at hn
      have n0 : 0 < ws.length := by omega
      have n1 : 1 < ws.length := by omega
      have n2 : 2 < ws.length := by omega
      have n3 : 3 < ws.length := by omega
      have n4 : 4 ≤ ws.length := by omega
      have v0 : (0 : Int) < (ws.length : Int) := by omega
      have v1 : (1 : Int) < (ws.length : Int) := by omega
      have v2 : (2 : Int) < (ws.length : Int) := by omega
      have v3 : (3 : Int) < (ws.length : Int) := by omega
      have v4 : (4 : Int) ≤ (ws.length : Int) := by omega
      have v5 : (ws.length : Int) ≤ (cap : Int) := by omega
      have hlen := vals_len ws ws.length
      have HW : Hid (¬ wrdsB ws = false) := Lib.hid fun h => by
        have : wrdsB ws = true := by
          unfold wrdsB
          rw [List.all_eq_true]
          intro i hi
          exact hA.out i (List.mem_range.1 hi)
        rw [this] at h; cases h
      have HOk := Lib.hid hO
      have HE1 := Lib.hid E1
      clear hO hE hA cv E1 hl2 hg hm hs ht HE
      go_upto_region 14 with fail
      go_still_tail 15, (by kernel_rfl)
      go_wp2
      clear F0 F1 F2 F3 F4 c1 c2 c3 cw
      have P0 := Env.put HE1.out 0 0 (.string (ws[0]'n0)) rfl
      have P1 := Env.put P0 0 1 (.int .i64 (wrdV 1 (ws[1]'n1))) rfl
      have P2 := Env.put P1 0 2 (.int .i64 (wrdV 2 (ws[2]'n2))) rfl
      have P3 := Env.put P2 0 3 (.int .i64 (wrdV 3 (ws[3]'n3))) rfl
      have P4 := (Env.put P3 0 4 (.slice (some ⟨g, 4, none⟩) (ws.length - 4) (cap - 4)) rfl).drw
      have HB4 := Lib.hid (envb P4)
      obtain ⟨-, D0, D1, D2, D3, D4⟩ := s_b5 P4
      have HOf := Lib.hid (own_kept (w' := (((((wr.setCell ⟨w.heap.size, 0, none⟩ (.string (ws[0]'n0))).setCell ⟨w.heap.size, 1, none⟩ (.int .i64 (wrdV 1 (ws[1]'n1)))).setCell ⟨w.heap.size, 2, none⟩ (.int .i64 (wrdV 2 (ws[2]'n2)))).setCell ⟨w.heap.size, 3, none⟩ (.int .i64 (wrdV 3 (ws[3]'n3)))).setCell ⟨w.heap.size, 4, none⟩ (.slice (some ⟨g, 4, none⟩) (ws.length - 4) (cap - 4))).drew) HOk.out (fun q hq hBq => by
        have hne : q ≠ w.heap.size := by omega
        show (World.setCell _ _ _).heap[q]? = _
        rw [Below.heap_setCell _ _ _ _ hne, Below.heap_setCell _ _ _ _ hne, Below.heap_setCell _ _ _ _ hne, Below.heap_setCell _ _ _ _ hne, Below.heap_setCell _ _ _ _ hne]))
      clear P0 P1 P2 P3 P4 HE1 HOk
      refine bodyPost_ret (v := .tuple #[.agg #[.string (ws[0]'n0), .int .i64 (wrdV 1 (ws[1]'n1)), .int .i64 (wrdV 2 (ws[2]'n2)), .int .i64 (wrdV 3 (ws[3]'n3)), .slice (some ⟨g, 4, none⟩) (ws.length - 4) (cap - 4)], .bool true]) (by simp [results, Tryz.results48, go_sem, *]) rfl ⟨fun h => absurd h HW.out, fun _ => ⟨some ⟨g, 4, none⟩, cap - 4, rfl, fun a e => (by cases e; show w.heap.size ≤ g; omega), ?_⟩, HB4.out⟩
      refine ⟨some ⟨g, 4, none⟩, cap - 4, by rw [List.length_drop, vals_len], fun j hj => ⟨_, rfl, ?_⟩⟩
      rw [List.length_drop] at hj
      rw [Addr.add_lit, World.ownsRow.cellAt HOf.out (4 + j) (by omega)]
      simp
end Go.Proofs.YthdafpbmmfelpaaGreatDoor
