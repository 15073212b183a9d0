/- Check: the function. -/
import Derived.Test.YtepcokgpepcccaaDoorCk1
namespace Go.Proofs.YtepcokgpepcccaaDoor
open Go.ChangeShapes Go.WideShapes Go.ChangeAt Go.RowKit
set_option linter.unusedVariables false
set_option linter.unusedSimpArgs false

theorem andNot_gen (a b : Nat) (ha : a < 1024) (hb : b < 1024) : bits BinOp.andNot IntKind.u64 (a : Int) (b : Int) = ((a - (a &&& b) : Nat) : Int) := by
  have hs : Sub (a &&& b) a := fun i h => by
    rw [Nat.testBit_and] at h
    simp only [Bool.and_eq_true] at h
    exact h.1
  have h1 : (BitVec.ofInt 64 (a : Int)).toNat = a := by
    rw [BitVec.ofInt_natCast, BitVec.toNat_ofNat]; exact Nat.mod_eq_of_lt (by omega)
  have h2 : (BitVec.ofInt 64 (b : Int)).toNat = b := by
    rw [BitVec.ofInt_natCast, BitVec.toNat_ofNat]; exact Nat.mod_eq_of_lt (by omega)
  have e : (BitVec.ofInt 64 (a : Int) &&& ~~~ BitVec.ofInt 64 (b : Int)).toNat = a - (a &&& b) := by
    apply Nat.eq_of_testBit_eq
    intro i
    rw [BitVec.testBit_toNat, BitVec.getLsbD_and, BitVec.getLsbD_not, ← BitVec.testBit_toNat, ← BitVec.testBit_toNat, h1, h2, minus_bit hs, Nat.testBit_and]
    by_cases hi : i < 64
    · simp only [hi, decide_true, Bool.true_and]
      cases a.testBit i <;> cases b.testBit i <;> rfl
    · rw [Nat.testBit_lt_two_pow (x := a) (i := i) (Nat.lt_of_lt_of_le ha (Nat.le_trans (by decide : 1024 ≤ 2 ^ 64) (Nat.pow_le_pow_right (by omega) (by omega))))]
      simp
  show IntKind.u64.wrap ((BitVec.ofInt 64 (a : Int) &&& ~~~ BitVec.ofInt 64 (b : Int)).toNat : Int) = _
  rw [e, IntKind.wrap_u64]
  omega
theorem sub_zero {a b : Nat} : a - (a &&& b) = 0 ↔ Sub a b := by
  rw [sub_and]
  have := Nat.and_le_left (n := a) (m := b)
  omega
/-- One part more. -/
theorem chk_cons {zs : List Int} {r r' : Nat} {xs : List Int} {ls : List (List Int)} : Chk zs r (xs :: ls) r' ↔ okL zs.length xs ∧ Sub (mOf zs.length xs) r ∧ mOf zs.length xs &&& low r ≠ 0 ∧ pick zs xs = 0 ∧ Chk zs (r - mOf zs.length xs) ls r' := by
  constructor
  · intro h
    cases h with
    | cons a b c d e => exact ⟨a, b, c, d, e⟩
  · rintro ⟨a, b, c, d, e⟩
    exact .cons a b c d e
theorem chk_nil {zs : List Int} {r r' : Nat} : Chk zs r [] r' ↔ r = r' := by
  constructor
  · intro h; cases h; rfl
  · rintro rfl; exact .nil r
theorem tupB {b c : Bool} {k : IntKind} {z : Int} (h : b = c) : Ending.returned (.tuple #[.bool b, .int k z]) = .returned (.tuple #[.bool c, .int k z]) := by rw [h]
set_option maxRecDepth 100000 in
set_option maxHeartbeats 4000000 in
theorem check_any (u v : Value) (zs : List Int) (ls : List (List Int)) (w : World) (hR : Rdz w u zs) (hX : Rdzz w v ls) (hl : zs.length ≤ 10) (h0 : fau zs = 0) (hll : ls.length ≤ 100000) (hlx : ∀ x ∈ ls, x.length ≤ 100000) :
    Calls Tryd.prog 25 #[u, v] w fun e w' => ∃ b : Bool, e = .returned (.tuple #[.bool b, .int .i64 0]) ∧ Hid (b = true ↔ Chk zs (allS zs) ls 0) ∧ w' = w := by
  have hf := fault_any u zs w hR
  rw [h0] at hf
  have hz := (fau_zero h0).2
  have hp : 2 ^ zs.length ≤ 1024 := Nat.pow_le_pow_right (n := 2) (by omega) hl
  have hp1 := Nat.two_pow_pos zs.length
  have hSO := fun v xs h k => sub_of_any v xs zs.length w h hl k
  have hBL := fun v xs h k => bal_any u v zs xs w hR h hl hz k
  have hA : allS zs = 2 ^ zs.length - 1 := rfl
  have hc : (2 : Int) ^ zs.length = ((2 ^ zs.length : Nat) : Int) := by simp
  obtain ⟨N, hN⟩ : ∃ N, 2 ^ zs.length = N := ⟨_, rfl⟩
  rw [hN] at hp hp1 hA
  have WN : IntKind.u64.wrap ((2 : Int) ^ zs.length) = (N : Int) := by rw [hc, hN, IntKind.wrap_u64]; omega
  obtain ⟨A, hAA⟩ : ∃ A, allS zs = A := ⟨_, rfl⟩
  rw [hAA] at hA ⊢
  have WA : IntKind.u64.wrap ((N : Int) - 1) = (A : Int) := by rw [IntKind.wrap_u64]; omega
  have hAl : A < 1024 := by omega
  have HLX := Lib.hid hlx
  obtain ⟨q, c, rfl, hq⟩ := hR
  obtain ⟨q', c', rfl, hq'⟩ := hX
  have HQ' := Lib.hid hq'
  clear hq hq' hc hN hAA hlx hA
  go_enter Tryd.func25, Tryd.ntmps25
  go_wp2_with (go_at_call 38; (with_reducible refine hf.mono ?_); rintro e1 w1 ⟨rfl, hw⟩; subst w1)
  go_loopw [7, 23] (fun v7 vk wr => ∃ k r : Nat, vk = .int .i64 k ∧ k ≤ ls.length ∧ v7 = .int .u64 r ∧ r < 1024 ∧ Hid (Chk zs A ls 0 ↔ Chk zs r (ls.drop k) 0) ∧ w = wr) (fun _ v _ => ls.length - (intOf v).toNat)
  case atStart => exact ⟨0, A, rfl, Nat.zero_le _, rfl, hAl, Lib.hid (by rw [List.drop_zero]), rfl⟩
  case round =>
    obtain ⟨k, r, rfl, hk, rfl, hr, hI, rfl⟩ := hrel
    by_cases hlt : k < ls.length
    · have g : decide ((k : Int) < (ls.length : Int)) = true := by simp [hlt]
      have W1 : IntKind.i64.wrap ((k : Int) + 1) = ((k + 1 : Nat) : Int) := by rw [IntWalk.i64_in _ (by omega)]; omega
      obtain ⟨a, ux, rfl, cu, hux⟩ := HQ'.out k hlt
      have hxl := HLX.out _ (List.getElem_mem hlt)
      have hI2 := hI.out
      rw [List.drop_eq_getElem_cons hlt, chk_cons] at hI2
      have q1 : (0 : Int) ≤ (k : Int) := by omega
      have q2 : (k : Int) < (ls.length : Int) := by omega
      obtain ⟨xs, hxs⟩ : ∃ xs, ls[k] = xs := ⟨_, rfl⟩
      rw [hxs] at hux hxl hI2
      have hso := hSO ux xs hux hxl
      obtain ⟨qx, cx, ex, hk'⟩ := hux
      subst ex
      have hux : Rdz w (.slice qx xs.length cx) xs := ⟨qx, cx, rfl, hk'⟩
      clear hxs hSO hk'
      by_cases c1 : okL zs.length xs
      · rw [decide_eq_true c1, sOf_yes c1] at hso
        have hbl := hBL _ xs hux c1
        have hml := mOf_lt zs.length xs
        have hml : mOf zs.length xs < 1024 := Nat.lt_of_lt_of_le hml (Nat.pow_le_pow_right (n := 2) (by omega) hl)
        obtain ⟨p, hpp⟩ : ∃ p, mOf zs.length xs = p := ⟨_, rfl⟩
        rw [hpp] at hso hml hI2
        have hAN := andNot_gen p r hml hr
        have hLO := low_any r hr
        have hlo := low_lt r hr
        have hAD := bits_and_u64_nat p (low r) (by omega) (by omega)
        have hsz := sub_zero (a := p) (b := r)
        obtain ⟨x, hx⟩ : ∃ x, p - (p &&& r) = x := ⟨_, rfl⟩
        rw [hx] at hAN hsz
        obtain ⟨y, hy⟩ : ∃ y, low r = y := ⟨_, rfl⟩
        rw [hy] at hLO hAD hI2
        obtain ⟨z, hzz⟩ : ∃ z, p &&& y = z := ⟨_, rfl⟩
        rw [hzz] at hAD hI2
        clear hpp hx hy hzz hlo hux
        by_cases c2 : x = 0
        · have g2 : ((x : Int) != 0) = false := by simp [c2]
          have hsub := hsz.1 c2
          have hAN2 := bitsAndNot_nat r p hsub hr
          by_cases c3 : z = 0
          · have g3 : ((z : Int) == 0) = true := by simp [c3]
            have no : ¬ Chk zs A ls 0 := fun h => (hI2.1 h).2.2.1 c3
            have NO := Lib.hid no
            clear no hI2 hsub hsz c1 c2 c3
            go_wp2_with (first
              | (go_at_call 58; (with_reducible refine hso.mono ?_); rintro e2 w2 ⟨rfl, hw⟩; subst w2)
              | (go_at_call 59; (with_reducible refine (hLO _).mono ?_); rintro e3 w3 ⟨rfl, hw⟩; subst w3))
            exact bodyPost_ret (v := .tuple #[.bool false, .int .i64 0]) (by simp [results, Tryd.results25, go_sem]) rfl ⟨false, rfl, Lib.hid ⟨(fun h => by cases h), (fun h => absurd h NO.out)⟩, rfl⟩
          · have g3 : ((z : Int) == 0) = false := by simp; omega
            by_cases c4 : pick zs xs = 0
            · rw [decide_eq_true c4] at hbl
              have I3 : Hid (Chk zs A ls 0 ↔ Chk zs (r - p) (ls.drop (k + 1)) 0) := Lib.hid (hI2.trans ⟨fun h => h.2.2.2.2, fun h => ⟨c1, hsub, c3, c4, h⟩⟩)
              obtain ⟨d, hd⟩ : ∃ d, r - p = d := ⟨_, rfl⟩
              rw [hd] at hAN2 I3
              have hdl : d < 1024 := by omega
              clear hI2 hsub hsz c1 c2 c3 c4 hd
              go_wp2_with (first
                | (go_at_call 58; (with_reducible refine hso.mono ?_); rintro e2 w2 ⟨rfl, hw⟩; subst w2)
                | (go_at_call 59; (with_reducible refine (hLO _).mono ?_); rintro e3 w3 ⟨rfl, hw⟩; subst w3)
                | (go_at_call 60; (with_reducible refine hbl.mono ?_); rintro e4 w4 ⟨rfl, hw⟩; subst w4))
              exact ⟨⟨k + 1, d, rfl, hlt, rfl, hdl, I3, trivial⟩, by simp [intOf]; omega⟩
            · rw [decide_eq_false c4] at hbl
              have no : ¬ Chk zs A ls 0 := fun h => c4 (hI2.1 h).2.2.2.1
              have NO := Lib.hid no
              clear no hI2 hsub hsz c1 c2 c3 c4
              go_wp2_with (first
                | (go_at_call 58; (with_reducible refine hso.mono ?_); rintro e2 w2 ⟨rfl, hw⟩; subst w2)
                | (go_at_call 59; (with_reducible refine (hLO _).mono ?_); rintro e3 w3 ⟨rfl, hw⟩; subst w3)
                | (go_at_call 60; (with_reducible refine hbl.mono ?_); rintro e4 w4 ⟨rfl, hw⟩; subst w4))
              exact bodyPost_ret (v := .tuple #[.bool false, .int .i64 0]) (by simp [results, Tryd.results25, go_sem]) rfl ⟨false, rfl, Lib.hid ⟨(fun h => by cases h), (fun h => absurd h NO.out)⟩, rfl⟩
        · have g2 : ((x : Int) != 0) = true := by simp [c2]
          have no : ¬ Chk zs A ls 0 := fun h => c2 (hsz.2 (hI2.1 h).2.1)
          have NO := Lib.hid no
          clear no hI2 hsz c1 c2
          go_wp2_with (go_at_call 58; (with_reducible refine hso.mono ?_); rintro e2 w2 ⟨rfl, hw⟩; subst w2)
          exact bodyPost_ret (v := .tuple #[.bool false, .int .i64 0]) (by simp [results, Tryd.results25, go_sem]) rfl ⟨false, rfl, Lib.hid ⟨(fun h => by cases h), (fun h => absurd h NO.out)⟩, rfl⟩
      · rw [decide_eq_false c1, sOf_no c1] at hso
        have no : ¬ Chk zs A ls 0 := fun h => c1 (hI2.1 h).1
        have NO := Lib.hid no
        clear no hI2 c1
        go_wp2_with (go_at_call 58; (with_reducible refine hso.mono ?_); rintro e2 w2 ⟨rfl, hw⟩; subst w2)
        exact bodyPost_ret (v := .tuple #[.bool false, .int .i64 0]) (by simp [results, Tryd.results25, go_sem]) rfl ⟨false, rfl, Lib.hid ⟨(fun h => by cases h), (fun h => absurd h NO.out)⟩, rfl⟩
    · have g : decide ((k : Int) < (ls.length : Int)) = false := by simp; omega
      have I2 := hI.out
      rw [List.drop_of_length_le (by omega), chk_nil] at I2
      have HI2 := Lib.hid I2
      clear I2
      go_wp2
      exact bodyPost_ret (v := .tuple #[.bool ((r : Int) == 0), .int .i64 0]) (by simp [results, Tryd.results25, go_sem]) rfl ⟨_, rfl, Lib.hid (by rw [HI2.out]; simp), rfl⟩
theorem check_bad (u v : Value) (zs : List Int) (w : World) (hR : Rdz w u zs) (h0 : fau zs ≠ 0) :
    Calls Tryd.prog 25 #[u, v] w fun e w' => e = .returned (.tuple #[.bool false, .int .i64 (fau zs)]) ∧ w' = w := by
  have hf := fault_any u zs w hR
  obtain ⟨f, ef⟩ : ∃ f, fau zs = f := ⟨_, rfl⟩
  rw [ef] at hf h0 ⊢
  have g : (f != 0) = true := by simp [h0]
  clear ef
  go_enter Tryd.func25, Tryd.ntmps25
  go_wp2_with (go_at_call 38; (with_reducible refine hf.mono ?_); rintro e1 w1 ⟨rfl, hw⟩; subst w1)
  exact bodyPost_ret (v := .tuple #[.bool false, .int .i64 f]) (by simp [results, Tryd.results25, go_sem]) rfl ⟨rfl, rfl⟩
end Go.Proofs.YtepcokgpepcccaaDoor
