/- The walk of mostParts. -/
import Derived.Test.YtepcokgpepcccaaDoorMst
namespace Go.Proofs.YtepcokgpepcccaaDoor
open Go.ChangeShapes Go.WideShapes Go.ChangeAt Go.RowKit
set_option linter.unusedVariables false
set_option linter.unusedSimpArgs false

theorem mtab_zero (S : List Int) : ∀ n j, n ≤ j → mtab S n j = 0
  | 0, _, _ => rfl
  | n + 1, j, h => by
    rw [mtab]; unfold upd
    rw [if_neg (by omega), mtab_zero S n j (by omega)]
theorem has_full {w : World} {base g n size : Nat} {e : TypeId} {xs : List Value} (h : w.ownsRow base e size (.slice (some ⟨g, 0, none⟩) n n) n xs) : Has w g e xs.toArray := by
  obtain ⟨hl, ⟨h, -⟩ | ⟨g', cap, cur, hv, -, hg, -, -, hs, ht⟩⟩ := h
  · cases h
  · simp only [Value.slice.injEq, Option.some.injEq, Addr.mk.injEq] at hv
    obtain ⟨⟨rfl, -⟩, -, rfl⟩ := hv
    have : cur = xs.toArray := by
      rw [← ht, List.take_of_length_le (by simp [hs])]
    rw [← this]; exact hg
theorem row_zero {w : World} {base g n : Nat} (h : w.ownsRow base 3 1 (.slice (some ⟨g, 0, none⟩) n n) n (madeCells #[Value.int .i64 0] n).toList) : Row w g n (fun _ => 0) := by
  have k := has_full h
  unfold Row
  have e : (madeCells #[Value.int .i64 0] n).toList = (List.range n).map fun _ => Value.int .i64 0 := by
    rw [toList_madeCells_one]
    apply List.ext_getElem <;> simp
  rw [e] at k; exact k
set_option maxRecDepth 100000 in
set_option maxHeartbeats 2000000 in
theorem most_any (N cap : Nat) (a : Addr) (S : List Int) (w : World) (hN : N ≤ 1024) (hS : S.length = N) (h3 : ∀ j (h : j < S.length), w.cell? (a.add j) = some (.int .i64 S[j])) :
    Calls Tryd.prog 55 #[.slice (some a) N cap] w fun e w' => e = .returned (.slice (some ⟨w.heap.size, 0, none⟩) N N) ∧ Row w' w.heap.size N (fun i => ((mtab S N i : Nat) : Int)) ∧ Below w.heap.size w w' := by
  obtain ⟨i0, hi, hz0, hz1, hz2⟩ := info_parts info3
  have H3 := Lib.hid h3
  have HS := Lib.hid hS
  clear h3 hS
  go_enter Tryd.func55, Tryd.ntmps55
  go_wp2_with (at_make; refine wpList_make_full _ rfl _ _ 22 rfl w.heap.size 3 i0 _ 1 Tryd.underlying22 hi hz0 hz1 _ _ _ _ N rfl rfl rfl rfl (by rw [hz2]; omega) (by unfold maxLen; omega) (Nat.le_refl _) ?_)
  intro w1 hown hgrow
  have hR := Lib.hid (row_zero hown)
  have hB : Below w.heap.size w w1 := (Below.refl _ w).grown hgrow (Nat.le_refl _) (fun k hk => by cases hk)
  clear hown hgrow
  go_wp2
  go_loopw [12] (fun v wr => ∃ k : Nat, v = .int .u64 k ∧ k ≤ N ∧ Hid (Row wr w.heap.size N (fun i => ((mtab S k i : Nat) : Int))) ∧ Below w.heap.size w wr) (fun v _ => N - (intOf v).toNat)
  case atStart => exact ⟨0, rfl, Nat.zero_le _, Lib.hid (hR.out.cong fun i _ => rfl), hB⟩
  case round =>
    clear hR hB
    obtain ⟨k, rfl, hk, hR, hB⟩ := hrel
    by_cases hlt : k < N
    · have g : decide ((k : Int) < (N : Int)) = true := by simp [hlt]
      have W1 : IntKind.u64.wrap ((k : Int) + 1) = ((k + 1 : Nat) : Int) := by rw [IntKind.wrap_u64]; omega
      have q1 : (0 : Int) ≤ (k : Int) := by omega
      have q2 : (k : Int) < (N : Int) := by omega
      obtain ⟨F, hF⟩ : ∃ F, mtab S k = F := ⟨_, rfl⟩
      have hle : ∀ j, F j ≤ 1024 := fun j => by rw [← hF]; exact Nat.le_trans (mtab_le S k j) (by omega)
      have h0 : F k = 0 := by rw [← hF]; exact mtab_zero S k k (Nat.le_refl _)
      have hst : Hid (mtab S (k + 1) = upd F k (mx F k 10 + if k != 0 && S.getD k 0 == 0 then 1 else 0)) := Lib.hid (by rw [mtab, hF])
      rw [hF] at hR
      have HF := Lib.hid hF
      have HLE := Lib.hid hle
      clear hF hle
      have hb := bit_facts k (by omega)
      have HBT := Lib.hid hb
      clear hb
      go_wp2
      go_loopw [5] (fun v wr => ∃ i : Nat, v = .int .i64 i ∧ i ≤ 10 ∧ Hid (Row wr w.heap.size N (fun j => ((upd F k (mx F k i) j : Nat) : Int))) ∧ Below w.heap.size w wr) (fun v _ => 11 - (intOf v).toNat)
      case atStart => exact ⟨0, rfl, by omega, Lib.hid (hR.out.cong fun j _ => by unfold upd; by_cases e : j = k <;> simp [e, h0, mx]), hB⟩
      case round =>
        clear hR hB
        obtain ⟨i, rfl, hi10, hR, hB⟩ := hrel
        obtain ⟨b1, b2, b3⟩ := HBT.out i (by omega)
        have W2 : IntKind.i64.wrap ((i : Int) + 1) = ((i + 1 : Nat) : Int) := by rw [IntWalk.i64_in _ (by omega)]; omega
        by_cases hpow : 2 ^ i ≤ k
        · rw [decide_eq_true hpow] at b2
          have hi9 : i < 10 := Nat.lt_of_not_le fun h => by
            have := Nat.pow_le_pow_right (n := 2) (by omega) h
            omega
          cases hbit : k.testBit i
          · rw [hbit] at b1
            have e : mx F k (i + 1) = mx F k i := by rw [mx, hbit]; simp
            have E := Lib.hid e
            clear e b3
            go_wp2
            exact ⟨⟨i + 1, rfl, by omega, Lib.hid (by rw [E.out]; exact hR.out), hB⟩, by simp [intOf]; omega⟩
          · rw [hbit] at b1
            have b4 := b3 hbit
            clear b3
            obtain ⟨b3, -⟩ := b4
            have e : mx F k (i + 1) = max (mx F k i) (F (k - 2 ^ i)) := by rw [mx, hbit]; simp
            have E := Lib.hid e
            have hp : 0 < 2 ^ i := Nat.two_pow_pos i
            obtain ⟨t, ht⟩ : ∃ t, k - 2 ^ i = t := ⟨_, rfl⟩
            have htk : t < k := by omega
            rw [ht] at b3
            have c1 := hR.out.read hlt
            have c2 := hR.out.read (show t < N by omega)
            rw [upd_same] at c1
            rw [upd_other (by omega)] at c2
            have f1 := Has.open_ hR.out k
            clear e
            go_wp2_with fail
            have HRr := Lib.hid hR.out
            obtain ⟨x, hxx⟩ : ∃ x, mx F k i = x := ⟨_, rfl⟩
            obtain ⟨y, hyy⟩ : ∃ y, F t = y := ⟨_, rfl⟩
            rw [hxx] at c1
            rw [hyy] at c2
            have HX := Lib.hid hxx
            have HY := Lib.hid hyy
            have HT := Lib.hid ht
            clear hxx hyy ht hR
            have q3 : (0 : Int) ≤ (t : Int) := by omega
            have q4 : (t : Int) < (N : Int) := by omega
            have WP : IntKind.u64.wrap ((2 : Int) ^ i) = (2 : Int) ^ i := by
              have e : (2 : Int) ^ i = ((2 ^ i : Nat) : Int) := by simp
              rw [e, IntKind.wrap_u64]; omega
            have R1 : Row (wr.setCell ⟨w.heap.size, k, none⟩ (.int .i64 (max (x : Int) (y : Int)))) w.heap.size N (fun j => ((upd F k (mx F k (i + 1)) j : Nat) : Int)) := (HRr.out.put k (max (x : Int) (y : Int))).cong fun j _ => by
              unfold upd
              by_cases e : j = k
              · rw [if_pos e, if_pos e, E.out, HX.out, HT.out, HY.out]; omega
              · rw [if_neg e, if_neg e]; simp only [if_neg e]
            have R2 : Hid (Row (wr.setCell ⟨w.heap.size, k, none⟩ (.int .i64 (max (x : Int) (y : Int)))).drew w.heap.size N (fun j => ((upd F k (mx F k (i + 1)) j : Nat) : Int))) := Lib.hid R1
            have B2 : Below w.heap.size w (wr.setCell ⟨w.heap.size, k, none⟩ (.int .i64 (max (x : Int) (y : Int)))).drew := Below.drew (hB.setCell (Nat.le_refl _) _)
            clear R1
            go_region_law (fail)
            all_goals (go_wp2; exact ⟨⟨i + 1, rfl, by omega, R2, B2⟩, by simp [intOf]; omega⟩)
        · rw [decide_eq_false hpow] at b2
          clear b3
          have e : mx F k 10 = mx F k i := mx_more F k i 10 (by omega) (by omega)
          rw [e] at hst
          have hkS : k < S.length := by rw [HS.out]; exact hlt
          have cs := cell_later hB (H3.out k hkS)
          have es : S.getD k 0 = S[k] := by simp [List.getD, hkS]
          rw [es] at hst
          obtain ⟨z, hz⟩ : ∃ z, z = S[k] := ⟨_, rfl⟩
          rw [← hz] at cs hst
          have c1 := hR.out.read hlt
          rw [upd_same] at c1
          have f1 := Has.open_ hR.out k
          have hml : mx F k i ≤ 1024 := mx_le F k 1024 HLE.out i
          obtain ⟨x, hxx⟩ : ∃ x, mx F k i = x := ⟨_, rfl⟩
          rw [hxx] at c1 hml hst
          have HRr := Lib.hid hR.out
          have HX := Lib.hid hxx
          have W3 : IntKind.i64.wrap ((x : Int) + 1) = ((x + 1 : Nat) : Int) := by rw [IntWalk.i64_in _ (by omega)]; omega
          clear e es hz hxx hR b1
          by_cases c0 : k = 0
          · have g0 : ((k : Int) != 0) = false := by simp; omega
            have E : Hid (mtab S (k + 1) = upd F k x) := Lib.hid (by rw [hst.out, c0]; rfl)
            clear c0
            go_wp2
            exact ⟨⟨k + 1, rfl, hlt, Lib.hid (by rw [E.out, ← HX.out]; exact HRr.out), hB⟩, by simp [intOf]; omega⟩
          · have g0 : ((k : Int) != 0) = true := by simp; omega
            have g0' : (k != 0) = true := by simp [c0]
            cases c5 : z == 0
            · have E : Hid (mtab S (k + 1) = upd F k x) := Lib.hid (by rw [hst.out, g0', c5]; rfl)
              clear c0 g0'
              go_wp2
              exact ⟨⟨k + 1, rfl, hlt, Lib.hid (by rw [E.out, ← HX.out]; exact HRr.out), hB⟩, by simp [intOf]; omega⟩
            · have E : Hid (mtab S (k + 1) = upd F k (x + 1)) := Lib.hid (by rw [hst.out, g0', c5]; rfl)
              clear c0 g0'
              have R1 : Hid (Row (wr.setCell ⟨w.heap.size, k, none⟩ (.int .i64 ((x + 1 : Nat) : Int))) w.heap.size N (fun j => ((mtab S (k + 1) j : Nat) : Int))) := Lib.hid ((HRr.out.put k ((x + 1 : Nat) : Int)).cong fun j _ => by
                rw [E.out]
                unfold upd
                by_cases e : j = k
                · rw [if_pos e, if_pos e]
                · rw [if_neg e, if_neg e]; simp only [if_neg e])
              go_wp2
              exact ⟨⟨k + 1, rfl, hlt, R1, hB.setCell (Nat.le_refl _) _⟩, by simp [intOf]; omega⟩
    · have g : decide ((k : Int) < (N : Int)) = false := by simp; omega
      have e : k = N := by omega
      subst e
      go_wp2
      go_ret
      exact ⟨rfl, hR.out, hB⟩
end Go.Proofs.YtepcokgpepcccaaDoor
