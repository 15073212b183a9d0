/- Nearest. -/
import Derived.Test.YtepcokgpepcccaaDoorNr0
import Derived.Test.YtepcokgpepcccaaDoorLawF
namespace Go.Proofs.YtepcokgpepcccaaDoor
open Go.ChangeShapes Go.WideShapes Go.ChangeAt Go.RowKit
set_option linter.unusedVariables false
set_option linter.unusedSimpArgs false

theorem cmpn_neg (sum a b : Int) : cmpn sum a b < 0 ↔ dst a sum < dst b sum ∨ dst a sum = dst b sum ∧ a < b := by
  unfold cmpn orv cmpv
  repeat' split
  all_goals omega
theorem cmpn_nn (sum a b : Int) : 0 ≤ cmpn sum a b ↔ ¬ (dst a sum < dst b sum ∨ dst a sum = dst b sum ∧ a < b) := by rw [← cmpn_neg]; omega
def Least (sum : Int) (S : List Int) (m : Int) : Prop := m ∈ S ∧ ∀ x ∈ S, ¬ cmpn sum x m < 0
theorem Least.uniq {sum : Int} {S : List Int} {a b : Int} (h : Least sum S a) (k : Least sum S b) : a = b := by
  have h1 := h.2 b k.1
  have h2 := k.2 a h.1
  rw [cmpn_neg] at h1 h2
  omega
set_option maxRecDepth 100000 in
set_option maxHeartbeats 2000000 in
theorem minf_any (N cap g bs : Nat) (S : List Int) (sum : Int) (w : World) (hN : N ≤ 1024) (hS : S.length = N) (h0 : 0 < N) (hsm : ∀ x ∈ S, Sml x) (hs : Sml sum)
    (h1 : w.cell? ⟨bs, 0, none⟩ = some (.int .i64 sum)) (h3 : ∀ j (h : j < S.length), w.cell? ⟨g, j, none⟩ = some (.int .i64 S[j])) :
    Calls Tryd.prog 41 #[.slice (some ⟨g, 0, none⟩) N cap, .func (.func 42) #[] #[.pointer (some ⟨bs, 0, none⟩)]] w fun e w' => ∃ m, e = .returned (.int .i64 m) ∧ Hid (Least sum S m) ∧ Below w.heap.size w w' := by
  have hC := fun a b w' ha hb (hB : Below w.heap.size w w') => nrc_any bs a b sum w' ha hb hs (cell_later hB h1)
  have H3 := Lib.hid h3
  have HS := Lib.hid hS
  have HM := Lib.hid hsm
  have hl0 : 0 < S.length := by omega
  have hc0 := h3 0 hl0
  obtain ⟨x0, hx0⟩ : ∃ x, x = S[0]'hl0 := ⟨_, rfl⟩
  rw [← hx0] at hc0
  have HX0 := Lib.hid hx0
  have g0 : decide ((N : Int) < 1) = false := by simp; omega
  clear h1 h3 hS hsm hx0
  go_enter Tryd.func41, Tryd.ntmps41
  go_wp2
  go_loopw [5, 6] (fun v5 v6 wr => ∃ (k : Nat) (m : Int), v6 = .int .i64 k ∧ 1 ≤ k ∧ k ≤ N ∧ v5 = .int .i64 m ∧ Hid (m ∈ S) ∧ Hid (∀ j (h : j < S.length), j < k → 0 ≤ cmpn sum S[j] m) ∧ Below w.heap.size w wr) (fun _ v _ => N - (intOf v).toNat)
  case atStart =>
    refine ⟨1, x0, rfl, Nat.le_refl _, by omega, rfl, Lib.hid (by rw [HX0.out]; exact List.getElem_mem hl0), Lib.hid fun j h hj => ?_, Below.refl _ _⟩
    have : j = 0 := by omega
    subst this
    rw [HX0.out, cmpn_nn]; omega
  case round =>
    clear hc0
    obtain ⟨k, m, rfl, hk1, hk, rfl, hm, hI, hB⟩ := hrel
    by_cases hlt : k < N
    · have g : decide ((k : Int) < (N : Int)) = true := by simp [hlt]
      have W1 : IntKind.i64.wrap ((k : Int) + 1) = ((k + 1 : Nat) : Int) := by rw [IntWalk.i64_in _ (by omega)]; omega
      have hkS : k < S.length := by rw [HS.out]; exact hlt
      have ck := cell_later hB (H3.out k hkS)
      have hxm := List.getElem_mem hkS
      obtain ⟨x, hx⟩ : ∃ x, x = S[k] := ⟨_, rfl⟩
      rw [← hx] at ck hxm
      have HXM := Lib.hid hxm
      have HX := Lib.hid hx
      have hc := hC x m wr (HM.out x hxm) (HM.out m hm.out) hB
      have q1 : (0 : Int) ≤ (k : Int) := by omega
      have q2 : (k : Int) < (N : Int) := by omega
      have E1 : cmpn sum x m < 0 → Hid (∀ j (h : j < S.length), j < k + 1 → 0 ≤ cmpn sum S[j] x) := fun hneg => Lib.hid fun j h hj => by
        by_cases e : j = k
        · subst e
          rw [← HX.out, cmpn_nn]; omega
        · have := hI.out j h (by omega)
          rw [cmpn_nn] at this ⊢
          rw [cmpn_neg] at hneg
          omega
      have E2 : ¬ cmpn sum x m < 0 → Hid (∀ j (h : j < S.length), j < k + 1 → 0 ≤ cmpn sum S[j] m) := fun hneg => Lib.hid fun j h hj => by
        by_cases e : j = k
        · subst e
          rw [← HX.out]; exact Int.not_lt.1 hneg
        · exact hI.out j h (by omega)
      clear hx HX hkS hxm
      obtain ⟨c, hcc⟩ : ∃ c, c = cmpn sum x m := ⟨_, rfl⟩
      rw [← hcc] at hc E1 E2
      clear hcc
      by_cases hneg : c < 0
      · have g2 : decide (c < 0) = true := by simp [hneg]
        have E3 := E1 hneg
        clear E1 E2
        go_wp2_with (go_at_call 42; (with_reducible refine hc.mono ?_); rintro e1 w1 ⟨rfl, b1⟩; have ck := cell_later b1 ck)
        exact ⟨⟨k + 1, x, rfl, by omega, hlt, rfl, HXM, E3, belows hB b1⟩, by simp [intOf]; omega⟩
      · have g2 : decide (c < 0) = false := by simp; omega
        have E3 := E2 hneg
        clear E1 E2
        go_wp2_with (go_at_call 42; (with_reducible refine hc.mono ?_); rintro e1 w1 ⟨rfl, b1⟩; have ck := cell_later b1 ck)
        exact ⟨⟨k + 1, m, rfl, by omega, hlt, rfl, hm, E3, belows hB b1⟩, by simp [intOf]; omega⟩
    · have g : decide ((k : Int) < (N : Int)) = false := by simp; omega
      have e : k = N := by omega
      have HE := Lib.hid e
      clear e
      go_wp2
      go_ret
      refine ⟨m, rfl, Lib.hid ⟨hm.out, fun x hx => ?_⟩, hB⟩
      obtain ⟨j, hj, rfl⟩ := List.mem_iff_getElem.1 hx
      exact Int.not_lt.2 (hI.out j hj (by rw [HE.out, ← HS.out]; exact hj))
theorem nearc_any (s N cap bs bz : Nat) (a : Addr) (x sum : Int) (w : World) (hs : s < N) (hN : N ≤ 1024) (h1 : w.cell? ⟨bs, 0, none⟩ = some (.slice (some a) N cap)) (h2 : w.cell? ⟨bz, 0, none⟩ = some (.int .i64 sum)) (h3 : w.cell? (a.add s) = some (.int .i64 x)) :
    Calls Tryd.prog 47 #[.int .u64 s, .pointer (some ⟨bs, 0, none⟩), .pointer (some ⟨bz, 0, none⟩)] w fun e w' => e = .returned (.bool (x == sum)) ∧ ∃ n, w' = w.drewN n := by
  have q1 : (0 : Int) ≤ (s : Int) := by omega
  have q2 : (s : Int) < (N : Int) := by omega
  go_enter Tryd.func47, Tryd.ntmps47
  go_wp2_with fail
  go_quiet (fail)
  go_wp2
  go_ret
  exact ⟨rfl, _, rfl⟩
set_option maxRecDepth 100000 in
set_option maxHeartbeats 4000000 in
theorem first_near (N cap bs bz : Nat) (a : Addr) (S : List Int) (sum : Int) (w : World) (hN : N ≤ 1024) (hS : S.length = N) (hT : Tab w) (h1 : w.cell? ⟨bs, 0, none⟩ = some (.slice (some a) N cap)) (h2 : w.cell? ⟨bz, 0, none⟩ = some (.int .i64 sum))
    (h3 : ∀ j (h : j < S.length), w.cell? (a.add j) = some (.int .i64 S[j])) :
    Calls Tryd.prog 46 #[.slice (some a) N cap, .func (.func 47) #[] #[.pointer (some ⟨bs, 0, none⟩), .pointer (some ⟨bz, 0, none⟩)]] w (fpost w.heap.size w (fst (fun s => S.getD s 0 == sum) N)) := by
  have hC := fun s x nd hs hx => nearc_any s N cap bs bz a x sum (w.drewN nd) hs hN h1 h2 hx
  obtain ⟨p, ep⟩ : ∃ p : Nat → Bool, p = fun s => S.getD s 0 == sum := ⟨_, rfl⟩
  rw [← ep]
  have EP := Lib.hid ep
  have H3 := Lib.hid h3
  have HS := Lib.hid hS
  clear ep h1 h2 h3 hS
  go_enter Tryd.func46, Tryd.ntmps46
  go_wp2
  go_loopw [6, 7, 12] (fun v6 v7 v12 wr => ∃ k b : Nat, ∃ f : Bool, v12 = .int .u64 k ∧ k ≤ N ∧ v6 = .int .u64 b ∧ b < 1024 ∧ v7 = .bool f ∧ Hid (fst p k = if f then some b else none) ∧ ∃ n, wr = w.drewN n) (fun _ _ v _ => N - (intOf v).toNat)
  case atStart => exact ⟨0, 0, false, rfl, Nat.zero_le _, rfl, by omega, rfl, Lib.hid rfl, 0, rfl⟩
  case round =>
    obtain ⟨k, b, f, rfl, hk, rfl, hb, rfl, hF, nd, rfl⟩ := hrel
    by_cases hlt : k < N
    · have g : decide ((k : Int) < (N : Int)) = true := by simp [hlt]
      have W1 : IntKind.u64.wrap ((k : Int) + 1) = ((k + 1 : Nat) : Int) := by rw [IntKind.wrap_u64]; omega
      have hkS : k < S.length := by rw [HS.out]; exact hlt
      have hc := hC k S[k] nd hlt (H3.out k hkS)
      have ex : (S[k] == sum) = p k := by rw [EP.out]; simp [List.getD, hkS]
      rw [ex] at hc
      have hbf := bef_any k b (by omega) hb
      have hst : Hid (fst p (k + 1) = fstep p (fst p k) k) := Lib.hid rfl
      clear ex hkS
      cases hp : p k
      · rw [hp] at hc
        have E : Hid (fst p (k + 1) = if f then some b else none) := Lib.hid (by rw [hst.out, hF.out]; unfold fstep; rw [hp])
        clear hp
        go_wp2_with (go_at_call 47; (with_reducible refine hc.mono ?_); rintro e1 w1 ⟨rfl, n1, rfl⟩)
        exact ⟨⟨k + 1, b, f, rfl, hlt, rfl, hb, rfl, E, _, rfl⟩, by simp [intOf]; omega⟩
      · rw [hp] at hc
        cases f
        · have E : Hid (fst p (k + 1) = some k) := Lib.hid (by rw [hst.out, hF.out]; unfold fstep; rw [hp]; rfl)
          clear hp
          go_wp2_with (go_at_call 47; (with_reducible refine hc.mono ?_); rintro e1 w1 ⟨rfl, n1, rfl⟩)
          exact ⟨⟨k + 1, k, true, rfl, hlt, rfl, by omega, rfl, E, _, rfl⟩, by simp [intOf]; omega⟩
        · cases hbb : bef k b
          · rw [hbb] at hbf
            have E : Hid (fst p (k + 1) = some b) := Lib.hid (by rw [hst.out, hF.out]; unfold fstep; rw [hp]; simp [hbb])
            clear hp hbb
            go_wp2_with (first | (go_at_call 47; (with_reducible refine hc.mono ?_); rintro e1 w1 ⟨rfl, n1, rfl⟩) | (go_at_call 69; (with_reducible refine (hbf _).mono ?_); rintro e1 w1 ⟨rfl, rfl⟩))
            exact ⟨⟨k + 1, b, true, rfl, hlt, rfl, hb, rfl, E, _, rfl⟩, by simp [intOf]; omega⟩
          · rw [hbb] at hbf
            have E : Hid (fst p (k + 1) = some k) := Lib.hid (by rw [hst.out, hF.out]; unfold fstep; rw [hp]; simp [hbb])
            clear hp hbb
            go_wp2_with (first | (go_at_call 47; (with_reducible refine hc.mono ?_); rintro e1 w1 ⟨rfl, n1, rfl⟩) | (go_at_call 69; (with_reducible refine (hbf _).mono ?_); rintro e1 w1 ⟨rfl, rfl⟩))
            exact ⟨⟨k + 1, k, true, rfl, hlt, rfl, by omega, rfl, E, _, rfl⟩, by simp [intOf]; omega⟩
    · have g : decide ((k : Int) < (N : Int)) = false := by simp; omega
      have e : k = N := by omega
      have HE := Lib.hid e
      have hB := below_drewN (Below.refl w.heap.size w) nd
      have hT2 := hT.on hB
      clear e
      cases f
      · go_wp2
        exact bodyPost_ret (v := .tuple #[.slice none 0 0, .int .i64 12]) (by simp [results, Tryd.results46, go_sem]) rfl (fpost_none (by rw [← HE.out, hF.out]; rfl) hB rfl)
      · have hi := indices_any b (w.drewN nd) hb hT2
        have es : (w.drewN nd).heap.size = w.heap.size := rfl
        go_wp2_with (go_at_call 57; (with_reducible refine hi.mono ?_); rintro e1 w1 ⟨v, rfl, ho, hb1⟩)
        exact bodyPost_ret (v := .tuple #[v, .int .i64 0]) (by simp [results, Tryd.results46, go_sem]) rfl (fpost_some (by rw [← HE.out, hF.out]; rfl) (belows hB hb1) rfl ho)
end Go.Proofs.YtepcokgpepcccaaDoor
