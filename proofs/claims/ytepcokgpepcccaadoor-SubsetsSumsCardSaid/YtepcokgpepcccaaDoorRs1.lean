/- The reference's Nearest. -/
import Derived.Test.YtepcokgpepcccaaDoorRs0
namespace Go.Proofs.YtepcokgpepcccaaDoor
open Go.ChangeShapes Go.WideShapes Go.ChangeAt Go.RowKit
set_option linter.unusedVariables false
set_option linter.unusedSimpArgs false
theorem far_ref (a b : Int) (ha : Sml a) (hb : Sml b) (w : World) : Calls Tryd.prog 49 #[.int .i64 a, .int .i64 b] w fun e w' => e = .returned (.int .i64 (dst a b)) ∧ w' = w := by
  unfold Sml at ha hb
  have W1 : IntKind.i64.wrap (a - b) = a - b := IntWalk.i64_in _ (by omega)
  have W2 : IntKind.i64.wrap (b - a) = b - a := IntWalk.i64_in _ (by omega)
  go_enter Tryd.func49, Tryd.ntmps49
  by_cases h : a < b
  · have g : decide (a < b) = true := by simp [h]
    have e : b - a = dst a b := by unfold dst; omega
    have E := Lib.hid e
    clear e
    go_wp2
    go_ret
    exact ⟨ret_one E.out, rfl⟩
  · have g : decide (a < b) = false := by simp; omega
    have e : a - b = dst a b := by unfold dst; omega
    have E := Lib.hid e
    clear e
    go_wp2
    go_ret
    exact ⟨ret_one E.out, rfl⟩
set_option maxRecDepth 100000 in
set_option maxHeartbeats 4000000 in
theorem rnear_any (u : Value) (zs : List Int) (sum : Int) (w : World) (hR : Rdz w u zs) (hl : zs.length ≤ 8) (hz : allZ zs = true) (hs : Sml sum) :
    Calls Tryd.prog 16 #[u, .int .i64 sum] w fun e w' => ∃ n, e = .returned (.int .i64 n) ∧ Hid (Least sum (smz zs) n) ∧ Below w.heap.size w w' := by
  have hS := fun w h => rsums_any u zs w h hl hz
  have hne := smz_ne zs
  have hA := (smz_asc zs).1
  have hN2 : (smz zs).length ≤ 256 := Nat.le_trans (smz_len zs) (Nat.pow_le_pow_right (n := 2) (by omega) hl)
  have hsml : ∀ x ∈ smz zs, Sml x := fun x hx => sums_sml hz (by omega) x (((smz_asc zs).2 x).1 hx)
  obtain ⟨S, hSS⟩ : ∃ S, smz zs = S := ⟨_, rfl⟩
  rw [hSS] at hS hne hA hN2 hsml ⊢
  obtain ⟨m, hm⟩ : ∃ m, S.length = m := ⟨_, rfl⟩
  have hpos : 0 < m := by rw [← hm]; exact List.length_pos_iff.2 hne
  have HM := Lib.hid hm
  have HA := Lib.hid hA
  have HSML := Lib.hid hsml
  have hS : ∀ w, Rdz w u zs → Calls Tryd.prog 15 #[u] w fun e w' => ∃ g c, e = .returned (.slice (some ⟨g, 0, none⟩) m c) ∧ Hid (OwnZ w.heap.size w' (.slice (some ⟨g, 0, none⟩) S.length c) S) ∧ Below w.heap.size w w' := fun w h => (hS w h).mono fun e w' ⟨v, he, ho, hb⟩ => by
    obtain ⟨g, c, rfl, -⟩ := ho.form hne
    exact ⟨g, c, by rw [← hm]; exact he, Lib.hid ho, hb⟩
  have hF := fun a w (h : Sml a) => far_ref a sum h hs w
  have hl0 : 0 < S.length := by rw [hm]; exact hpos
  clear hSS hne hA hsml
  rw [hm] at hN2
  clear hm
  obtain ⟨uq, ucc, rfl, hq⟩ := hR
  have hR : Rdz w (.slice uq zs.length ucc) zs := ⟨uq, ucc, rfl, hq⟩
  clear hq
  have h00 : (0 : Int) < (m : Int) := by omega
  go_enter Tryd.func16, Tryd.ntmps16
  go_wp2_with (go_at_call 15; (with_reducible refine (hS _ hR).mono ?_); rintro e1 w1 ⟨g, c, rfl, ho, hb⟩; have c0 := ho.out.at_ hl0; obtain ⟨x0, hx0⟩ : ∃ x, x = S[0]'hl0 := ⟨_, rfl⟩; rw [← hx0] at c0; have HX0 := Lib.hid hx0; clear hx0)
  go_loopw [6, 7] (fun v6 v7 wr => ∃ (k : Nat) (n : Int), v7 = .int .i64 k ∧ 1 ≤ k ∧ k ≤ m ∧ v6 = .int .i64 n ∧ Hid (∃ (i0 : Nat) (h : i0 < S.length), i0 < k ∧ S[i0] = n) ∧ Hid (∀ j (h : j < S.length), j < k → 0 ≤ cmpn sum S[j] n) ∧ w1 = wr) (fun _ v _ => m - (intOf v).toNat)
  case atStart =>
    refine ⟨1, x0, rfl, Nat.le_refl _, by omega, rfl, Lib.hid ⟨0, hl0, by omega, HX0.out.symm⟩, Lib.hid fun j h hj => ?_, rfl⟩
    have : j = 0 := by omega
    subst this
    rw [HX0.out, cmpn_nn]; omega
  case round =>
    clear c0
    obtain ⟨k, n, rfl, hk1, hk, rfl, hn, hI, rfl⟩ := hrel
    by_cases hlt : k < m
    · have gd : decide ((k : Int) < (m : Int)) = true := by simp [hlt]
      have W1 : IntKind.i64.wrap ((k : Int) + 1) = ((k + 1 : Nat) : Int) := by rw [IntWalk.i64_in _ (by omega)]; omega
      have hkS : k < S.length := by rw [HM.out]; exact hlt
      have ck := ho.out.at_ hkS
      obtain ⟨i0, hi0, hik, en⟩ := hn.out
      have hnk : n < S[k] := by
        have := List.pairwise_iff_getElem.1 HA.out i0 k hi0 hkS hik
        rw [en] at this; exact this
      have sx := HSML.out _ (List.getElem_mem hkS)
      have sn := HSML.out _ (List.getElem_mem hi0)
      rw [en] at sn
      obtain ⟨x, hx⟩ : ∃ x, x = S[k] := ⟨_, rfl⟩
      rw [← hx] at ck hnk sx
      have HX := Lib.hid hx
      have f1 := fun w => hF x w sx
      have f2 := fun w => hF n w sn
      have NX : Hid (∃ (i0 : Nat) (h : i0 < S.length), i0 < k + 1 ∧ S[i0] = x) := Lib.hid ⟨k, hkS, by omega, hx.symm⟩
      have NN : Hid (∃ (i0 : Nat) (h : i0 < S.length), i0 < k + 1 ∧ S[i0] = n) := Lib.hid ⟨i0, hi0, by omega, en⟩
      have E1 : dst x sum < dst n sum → Hid (∀ j (h : j < S.length), j < k + 1 → 0 ≤ cmpn sum S[j] x) := fun hd => Lib.hid fun j h hj => by
        by_cases e : j = k
        · subst e
          rw [← HX.out, cmpn_nn]; omega
        · have := hI.out j h (by omega)
          rw [cmpn_nn] at this ⊢
          omega
      have E2 : ¬ dst x sum < dst n sum → Hid (∀ j (h : j < S.length), j < k + 1 → 0 ≤ cmpn sum S[j] n) := fun hd => Lib.hid fun j h hj => by
        by_cases e : j = k
        · subst e
          rw [← HX.out, cmpn_nn]; omega
        · exact hI.out j h (by omega)
      obtain ⟨dx, hdx⟩ : ∃ d, dst x sum = d := ⟨_, rfl⟩
      obtain ⟨dn, hdn⟩ : ∃ d, dst n sum = d := ⟨_, rfl⟩
      rw [hdx] at f1 E1 E2
      rw [hdn] at f2 E1 E2
      have q1 : (0 : Int) ≤ (k : Int) := by omega
      have q2 : (k : Int) < (m : Int) := by omega
      clear hdx hdn hx en sx sn hnk hkS hi0 hik hI hn HX
      by_cases hd : dx < dn
      · have g2 : decide (dx < dn) = true := by simp [hd]
        have E3 := E1 hd
        clear E1 E2 hd
        go_wp2_with (first | (go_at_call 49; (with_reducible refine (f1 _).mono ?_); rintro e2 w2 ⟨rfl, hw⟩; subst w2) | (go_at_call 49; (with_reducible refine (f2 _).mono ?_); rintro e2 w2 ⟨rfl, hw⟩; subst w2))
        exact ⟨⟨k + 1, x, rfl, by omega, hlt, rfl, NX, E3, trivial⟩, by simp [intOf]; omega⟩
      · have g2 : decide (dx < dn) = false := by simp; omega
        have E3 := E2 hd
        clear E1 E2 hd
        go_wp2_with (first | (go_at_call 49; (with_reducible refine (f1 _).mono ?_); rintro e2 w2 ⟨rfl, hw⟩; subst w2) | (go_at_call 49; (with_reducible refine (f2 _).mono ?_); rintro e2 w2 ⟨rfl, hw⟩; subst w2))
        exact ⟨⟨k + 1, n, rfl, by omega, hlt, rfl, NN, E3, trivial⟩, by simp [intOf]; omega⟩
    · have gd : decide ((k : Int) < (m : Int)) = false := by simp; omega
      have e : k = m := by omega
      have HE := Lib.hid e
      clear e
      go_wp2
      go_ret
      refine ⟨n, rfl, Lib.hid ⟨by obtain ⟨i0, h, -, e⟩ := hn.out; rw [← e]; exact List.getElem_mem h, fun x hx => ?_⟩, hb⟩
      obtain ⟨j, hj, rfl⟩ := List.mem_iff_getElem.1 hx
      exact Int.not_lt.2 (hI.out j hj (by rw [HE.out, ← HM.out]; exact hj))
end Go.Proofs.YtepcokgpepcccaaDoor
