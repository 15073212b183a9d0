/- subsetOf, isBalanced and Check. -/
import Derived.Test.YtepcokgpepcccaaDoorCk0
import Derived.Test.YtepcokgpepcccaaDoorSam
namespace Go.Proofs.YtepcokgpepcccaaDoor
open Go.ChangeShapes Go.WideShapes Go.ChangeAt Go.RowKit
set_option linter.unusedVariables false
set_option linter.unusedSimpArgs false

theorem okL_snoc {n k : Nat} {xs : List Int} (h : okL n (xs.take k)) (hk : k < xs.length) (h1 : 0 ≤ xs[k]) (h2 : xs[k] < (n : Int)) (h3 : ∀ (h0 : 0 < k), xs[k - 1] < xs[k]) : okL n (xs.take (k + 1)) := by
  rw [List.take_succ_eq_append_getElem hk]
  refine ⟨List.pairwise_append.2 ⟨h.1, by simp, fun a ha b hb => ?_⟩, fun x hx => ?_⟩
  · rw [List.mem_singleton] at hb
    subst hb
    obtain ⟨j, hj, rfl⟩ := List.mem_iff_getElem.1 ha
    rw [List.length_take] at hj
    rw [List.getElem_take]
    have h4 := h3 (by omega)
    by_cases e : j = k - 1
    · subst e; exact h4
    · have := List.pairwise_iff_getElem.1 h.1 j (k - 1) (by rw [List.length_take]; omega) (by rw [List.length_take]; omega) (by omega)
      rw [List.getElem_take, List.getElem_take] at this
      omega
  · rcases List.mem_append.1 hx with hx | hx
    · exact h.2 x hx
    · rw [List.mem_singleton] at hx
      subst hx
      exact ⟨h1, h2⟩
theorem okL_at {n k : Nat} {xs : List Int} (h : okL n xs) (hk : k < xs.length) : 0 ≤ xs[k] ∧ xs[k] < (n : Int) ∧ ∀ (h0 : 0 < k), xs[k - 1] < xs[k] :=
  ⟨(h.2 _ (List.getElem_mem hk)).1, (h.2 _ (List.getElem_mem hk)).2, fun h0 => List.pairwise_iff_getElem.1 h.1 (k - 1) k (by omega) hk (by omega)⟩
/-- What subsetOf answers. -/
def sOf (n : Nat) (xs : List Int) : Nat := if okL n xs then mOf n xs else 0
theorem sOf_yes {n : Nat} {xs : List Int} (h : okL n xs) : sOf n xs = mOf n xs := if_pos h
theorem sOf_no {n : Nat} {xs : List Int} (h : ¬ okL n xs) : sOf n xs = 0 := if_neg h
theorem ret_bool {a b : Bool} (h : a = b) : Ending.returned (.bool a) = .returned (.bool b) := by rw [h]
theorem tup2 {k : IntKind} {a b : Int} {c d : Bool} (h1 : a = b) (h2 : c = d) : Ending.returned (.tuple #[.int k a, .bool c]) = .returned (.tuple #[.int k b, .bool d]) := by rw [h1, h2]
set_option maxRecDepth 100000 in
set_option maxHeartbeats 4000000 in
theorem sub_of_any (u : Value) (xs : List Int) (n : Nat) (w : World) (hR : Rdz w u xs) (hn : n ≤ 10) (hl : xs.length ≤ 100000) :
    Calls Tryd.prog 58 #[u, .int .i64 n] w fun e w' => e = .returned (.tuple #[.int .u64 (sOf n xs), .bool (decide (okL n xs))]) ∧ w' = w := by
  have hp : 2 ^ n ≤ 1024 := Nat.pow_le_pow_right (n := 2) (by omega) hn
  obtain ⟨q, c, rfl, hq⟩ := hR
  have HQ := Lib.hid hq
  clear hq
  go_enter Tryd.func58, Tryd.ntmps58
  go_wp2
  go_loopw [6, 11] (fun v6 v wr => ∃ k s : Nat, v = .int .i64 k ∧ k ≤ xs.length ∧ v6 = .int .u64 s ∧ s < 1024 ∧ Hid (s = mOf n (xs.take k)) ∧ Hid (okL n (xs.take k)) ∧ w = wr) (fun _ v _ => xs.length - (intOf v).toNat)
  case atStart => exact ⟨0, 0, rfl, Nat.zero_le _, rfl, by omega, Lib.hid (mOf_nil n).symm, Lib.hid (by simp [okL, Asc]), rfl⟩
  case round =>
    obtain ⟨k, s, rfl, hk, rfl, hs, hm, ho, rfl⟩ := hrel
    by_cases hlt : k < xs.length
    · have g : decide ((k : Int) < (xs.length : Int)) = true := by simp [hlt]
      have W1 : IntKind.i64.wrap ((k : Int) + 1) = ((k + 1 : Nat) : Int) := by rw [IntWalk.i64_in _ (by omega)]; omega
      obtain ⟨a, rfl, cu⟩ := HQ.out k hlt
      have hat : Hid (okL n xs → 0 ≤ xs[k] ∧ xs[k] < (n : Int) ∧ ∀ (h0 : 0 < k), xs[k - 1] < xs[k]) := Lib.hid fun h => okL_at h hlt
      have hsn : Hid (0 ≤ xs[k] → xs[k] < (n : Int) → (∀ (h0 : 0 < k), xs[k - 1] < xs[k]) → okL n (xs.take (k + 1))) := Lib.hid fun a b c => okL_snoc ho.out hlt a b c
      have hms : Hid (∀ j : Nat, j < n → xs[k] = (j : Int) → mOf n (xs.take (k + 1)) = s ||| 2 ^ j) := Lib.hid fun j hj e => by
        rw [List.take_succ_eq_append_getElem hlt, e, mOf_snoc n j _ hj, hm.out]
      have cp := fun h => HQ.out (k - 1) h
      have q1 : (0 : Int) ≤ (k : Int) := by omega
      have q2 : (k : Int) < (xs.length : Int) := by omega
      have hprev : 0 < k → ∃ y, xs[k - 1]? = some y ∧ w.cell? (a.add (k - 1)) = some (.int .i64 y) := fun h0 => by
        obtain ⟨a', e, c1⟩ := cp (by omega)
        simp only [Option.some.injEq] at e
        subst e
        exact ⟨xs[k - 1], List.getElem?_eq_getElem (by omega), c1⟩
      have hpe : ∀ (h0 : 0 < k) y, xs[k - 1]? = some y → xs[k - 1] = y := fun h0 y e => by
        rw [List.getElem?_eq_getElem (by omega)] at e
        exact Option.some.inj e
      have HPE := Lib.hid hpe
      obtain ⟨x, hx⟩ : ∃ x, x = xs[k] := ⟨_, rfl⟩
      rw [← hx] at cu hat hsn hms
      clear hx cp hpe
      by_cases h1 : x < 0
      · have g1 : decide (x < 0) = true := by simp [h1]
        have no : ¬ okL n xs := fun h => by have := (hat.out h).1; omega
        have e1 := sOf_no no
        have e2 : decide (okL n xs) = false := decide_eq_false no
        have E1 := Lib.hid e1
        have E2 := Lib.hid e2
        clear no e1 e2 hprev
        go_wp2
        exact bodyPost_ret (v := .tuple #[.int .u64 0, .bool false]) (by simp [results, Tryd.results58, go_sem]) rfl ⟨tup2 (by rw [E1.out]; rfl) E2.out.symm, rfl⟩
      · have g1 : decide (x < 0) = false := by simp; omega
        by_cases h2 : (n : Int) ≤ x
        · have g2 : decide ((n : Int) ≤ x) = true := by simp [h2]
          have no : ¬ okL n xs := fun h => by have := (hat.out h).2.1; omega
          have e1 := sOf_no no
          have e2 : decide (okL n xs) = false := decide_eq_false no
          have E1 := Lib.hid e1
          have E2 := Lib.hid e2
          clear no e1 e2 hprev
          go_wp2
          exact bodyPost_ret (v := .tuple #[.int .u64 0, .bool false]) (by simp [results, Tryd.results58, go_sem]) rfl ⟨tup2 (by rw [E1.out]; rfl) E2.out.symm, rfl⟩
        · have g2 : decide ((n : Int) ≤ x) = false := by simp; omega
          obtain ⟨j, rfl⟩ : ∃ j : Nat, x = (j : Int) := ⟨x.toNat, by omega⟩
          have hjn : j < n := by omega
          have hj2 : 2 ^ j ≤ 512 := Nat.le_trans (Nat.pow_le_pow_right (n := 2) (by omega) (show j ≤ 9 by omega)) (by decide)
          have hj3 := Nat.two_pow_pos j
          have WP : IntKind.u64.wrap ((2 : Int) ^ j) = (2 : Int) ^ j := by
            have e : (2 : Int) ^ j = ((2 ^ j : Nat) : Int) := by simp
            rw [e, IntKind.wrap_u64]; omega
          have hor : bits BinOp.or IntKind.u64 (s : Int) ((2 : Int) ^ j) = ((s ||| 2 ^ j : Nat) : Int) := by
            rw [show (2 : Int) ^ j = ((2 ^ j : Nat) : Int) by simp]
            exact bits_or_u64_nat s (2 ^ j) (by omega) (by omega)
          have hsl : s ||| 2 ^ j < 1024 := Nat.or_lt_two_pow (n := 10) hs (by omega)
          have M1 := Lib.hid (hms.out j hjn rfl).symm
          obtain ⟨t, ht⟩ : ∃ t, s ||| 2 ^ j = t := ⟨_, rfl⟩
          rw [ht] at hor hsl M1
          clear ht
          by_cases hk0 : k = 0
          · have gk : decide ((0 : Int) < (k : Int)) = false := by simp; omega
            have gk2 : ¬ 0 < k := by omega
            have gk3 : decide (0 < k) = false := by simp; omega
            have O1 := Lib.hid (hsn.out (by omega) (by omega) (fun h => absurd h gk2))
            clear hprev hk0
            go_wp2
            exact ⟨⟨k + 1, t, rfl, hlt, rfl, hsl, M1, O1, trivial⟩, by simp [intOf]; omega⟩
          · have gk : decide ((0 : Int) < (k : Int)) = true := by simp; omega
            obtain ⟨y, hy, cy⟩ := hprev (by omega)
            have hy2 := HPE.out (by omega) y hy
            have q5 : (0 : Int) ≤ (k : Int) - 1 := by omega
            have q6 : (k : Int) - 1 < (xs.length : Int) := by omega
            have W4 : IntKind.i64.wrap ((k : Int) - 1) = (k : Int) - 1 := IntWalk.i64_in _ (by omega)
            by_cases h3 : (j : Int) ≤ y
            · have g3 : decide ((j : Int) ≤ y) = true := by simp [h3]
              have no : ¬ okL n xs := fun h => by have := (hat.out h).2.2 (by omega); omega
              have e1 := sOf_no no
              have e2 : decide (okL n xs) = false := decide_eq_false no
              have E1 := Lib.hid e1
              have E2 := Lib.hid e2
              clear no e1 e2 hprev hy hy2 hk0
              go_wp2
              exact bodyPost_ret (v := .tuple #[.int .u64 0, .bool false]) (by simp [results, Tryd.results58, go_sem]) rfl ⟨tup2 (by rw [E1.out]; rfl) E2.out.symm, rfl⟩
            · have g3 : decide ((j : Int) ≤ y) = false := by simp; omega
              have O1 := Lib.hid (hsn.out (by omega) (by omega) (fun _ => by rw [hy2]; omega))
              clear hprev hy hy2 hk0
              go_wp2
              exact ⟨⟨k + 1, t, rfl, hlt, rfl, hsl, M1, O1, trivial⟩, by simp [intOf]; omega⟩
    · have g : decide ((k : Int) < (xs.length : Int)) = false := by simp; omega
      have yes : okL n xs := by have := ho.out; rwa [List.take_of_length_le (by omega)] at this
      have e1 : (s : Int) = (sOf n xs : Int) := by rw [sOf_yes yes, hm.out, List.take_of_length_le (by omega)]
      have e2 : decide (okL n xs) = true := decide_eq_true yes
      have E1 := Lib.hid e1
      have E2 := Lib.hid e2
      clear yes e1 e2
      go_wp2
      exact bodyPost_ret (v := .tuple #[.int .u64 s, .bool true]) (by simp [results, Tryd.results58, go_sem]) rfl ⟨tup2 E1.out E2.out.symm, rfl⟩
set_option maxRecDepth 100000 in
theorem bal_any (u v : Value) (zs xs : List Int) (w : World) (hR : Rdz w u zs) (hX : Rdz w v xs) (hl : zs.length ≤ 10) (hz : allZ zs = true) (ho : okL zs.length xs) :
    Calls Tryd.prog 60 #[u, v] w fun e w' => e = .returned (.bool (decide (pick zs xs = 0))) ∧ w' = w := by
  have hlx := okL_len ho
  have HO := Lib.hid ho
  obtain ⟨q, c, rfl, hq⟩ := hR
  obtain ⟨q', c', rfl, hq'⟩ := hX
  have HQ := Lib.hid hq
  have HQ' := Lib.hid hq'
  clear hq hq' ho
  go_enter Tryd.func60, Tryd.ntmps60
  go_wp2
  go_loopw [5, 10] (fun v5 v wr => ∃ k : Nat, v5 = .int .i64 (pick zs (xs.take k)) ∧ v = .int .i64 k ∧ k ≤ xs.length ∧ w = wr) (fun _ v _ => xs.length - (intOf v).toNat)
  case atStart => exact ⟨0, by simp [pick], rfl, Nat.zero_le _, rfl⟩
  case round =>
    obtain ⟨k, rfl, rfl, hk, rfl⟩ := hrel
    by_cases hlt : k < xs.length
    · have g : decide ((k : Int) < (xs.length : Int)) = true := by simp [hlt]
      have W1 : IntKind.i64.wrap ((k : Int) + 1) = ((k + 1 : Nat) : Int) := by rw [IntWalk.i64_in _ (by omega)]; omega
      obtain ⟨a, rfl, cx⟩ := HQ'.out k hlt
      obtain ⟨h1, h2, -⟩ := okL_at HO.out hlt
      obtain ⟨j, hj⟩ : ∃ j : Nat, xs[k] = (j : Int) := ⟨xs[k].toNat, by omega⟩
      have hjn : j < zs.length := by omega
      obtain ⟨b, rfl, cz⟩ := HQ.out j hjn
      have e1 : pick zs (xs.take (k + 1)) = pick zs (xs.take k) + zs.getD j 0 := by rw [pick_take zs xs k hlt, hj]; rfl
      have i1 := pick_in hz (xs.take (k + 1))
      have li : (xs.take (k + 1)).length ≤ 10 := by rw [List.length_take]; omega
      have ez : zs[j] = zs.getD j 0 := by simp [List.getD, hjn]
      rw [ez] at cz
      rw [hj] at cx
      obtain ⟨p, hp⟩ : ∃ p, pick zs (xs.take k) = p := ⟨_, rfl⟩
      obtain ⟨p', hp'⟩ : ∃ p, pick zs (xs.take (k + 1)) = p := ⟨_, rfl⟩
      obtain ⟨z, hzz⟩ : ∃ z, zs.getD j 0 = z := ⟨_, rfl⟩
      rw [hp, hp', hzz] at e1
      rw [hp'] at i1
      rw [hzz] at cz
      rw [hp]
      have HP' := Lib.hid hp'
      have W3 : IntKind.i64.wrap (p + z) = p' := by rw [IntWalk.i64_in _ (by omega)]; omega
      have q1 : (0 : Int) ≤ (k : Int) := by omega
      have q2 : (k : Int) < (xs.length : Int) := by omega
      have q3 : (0 : Int) ≤ (j : Int) := by omega
      have q4 : (j : Int) < (zs.length : Int) := by omega
      clear hp hp' hzz hj e1 i1 ez h1 h2
      go_wp2
      exact ⟨⟨k + 1, by rw [HP'.out], rfl, hlt, trivial⟩, by simp [intOf]; omega⟩
    · have g : decide ((k : Int) < (xs.length : Int)) = false := by simp; omega
      have ek : xs.take k = xs := List.take_of_length_le (by omega)
      rw [ek]
      obtain ⟨p, hp⟩ : ∃ p, pick zs xs = p := ⟨_, rfl⟩
      have HP := Lib.hid hp
      rw [hp]
      clear ek hp
      go_wp2
      go_ret
      exact ⟨ret_bool (by rw [HP.out, Bool.eq_iff_iff]; simp), rfl⟩
end Go.Proofs.YtepcokgpepcccaaDoor
