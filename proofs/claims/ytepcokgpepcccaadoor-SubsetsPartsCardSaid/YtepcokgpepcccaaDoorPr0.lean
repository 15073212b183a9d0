/- What SubsetsPairs asks: sorted, total, the nearest. -/
import Derived.Test.YtepcokgpepcccaaDoorNr2
namespace Go.Proofs.YtepcokgpepcccaaDoor
open Go.ChangeShapes Go.WideShapes Go.ChangeAt Go.RowKit
set_option linter.unusedVariables false
set_option linter.unusedSimpArgs false

theorem less_any (a b : Int) (w : World) : Calls Tryd.prog 62 #[.int .i64 a, .int .i64 b] w fun e w' => e = .returned (.bool (decide (a < b))) ∧ w' = w := by
  have hn := fun a => nan_any a
  go_enter Tryd.func62, Tryd.ntmps62
  go_wp2_with (go_at_call 68; (with_reducible refine (hn _ _).mono ?_); rintro e1 w1 ⟨rfl, hw⟩; subst w1)
  go_ret
  exact ⟨rfl, rfl⟩
set_option maxRecDepth 100000 in
set_option maxHeartbeats 2000000 in
theorem sorted_asc (v : Value) (zs : List Int) (w : World) (hR : Rdz w v zs) (hl : zs.length ≤ 100000) (ha : Asc zs) :
    Calls Tryd.prog 29 #[v] w fun e w' => e = .returned (.bool true) ∧ ∃ n, w' = w.drewN n := by
  have hL := fun a b (W : World) nd => less_any a b (W.drewN nd)
  have HA := Lib.hid ha
  obtain ⟨q, c, rfl, hq⟩ := hR
  have HQ := Lib.hid hq
  clear ha hq
  go_enter Tryd.func29, Tryd.ntmps29
  by_cases h0 : zs.length = 0
  · have W0 : IntKind.i64.wrap ((zs.length : Int) - 1) = -1 := by rw [h0]; decide
    go_wp2
    go_loopw [3] (fun v wr => v = .int .i64 (-1) ∧ w = wr) (fun v _ => 0)
    case atStart => exact ⟨rfl, rfl⟩
    case round =>
      obtain ⟨rfl, rfl⟩ := hrel
      go_wp2
      go_ret
      exact ⟨rfl, 0, rfl⟩
  · obtain ⟨m, hm⟩ : ∃ m, m + 1 = zs.length := ⟨zs.length - 1, by omega⟩
    have HM := Lib.hid hm
    have W0 : IntKind.i64.wrap ((zs.length : Int) - 1) = (m : Int) := by rw [IntWalk.i64_in _ (by omega)]; omega
    clear hm h0
    go_wp2
    go_loopw [3] (fun v wr => ∃ k : Nat, v = .int .i64 k ∧ k ≤ m ∧ ∃ n, wr = w.drewN n) (fun v _ => (intOf v).toNat)
    case atStart => exact ⟨m, rfl, Nat.le_refl _, 0, rfl⟩
    case round =>
      obtain ⟨k, rfl, hk, nd, hw⟩ := hrel
      by_cases hk0 : k = 0
      · subst hk0
        go_wp2
        go_ret
        exact ⟨rfl, nd, rfl⟩
      · have g : decide ((0 : Int) < (k : Int)) = true := by simp; omega
        have hk1 : k < zs.length := by rw [← HM.out]; omega
        have hk2 : k - 1 < zs.length := by omega
        obtain ⟨a, ea, c1⟩ := HQ.out k hk1
        subst ea
        obtain ⟨a', ea', c2⟩ := HQ.out (k - 1) hk2
        simp only [Option.some.injEq] at ea'
        subst ea'
        have hlt := List.pairwise_iff_getElem.1 HA.out (k - 1) k hk2 hk1 (by omega)
        have c1 : wr.cell? (a.add k) = some (.int .i64 zs[k]) := by rw [hw]; exact c1
        have c2 : wr.cell? (a.add (k - 1)) = some (.int .i64 zs[k - 1]) := by rw [hw]; exact c2
        obtain ⟨x, hx⟩ : ∃ x, x = zs[k] := ⟨_, rfl⟩
        obtain ⟨y, hy⟩ : ∃ y, y = zs[k - 1] := ⟨_, rfl⟩
        rw [← hx] at c1 hlt
        rw [← hy] at c2 hlt
        have hnl : decide (x < y) = false := by simp; omega
        have hl2 := fun nd => hL x y wr nd
        rw [hnl] at hl2
        obtain ⟨j, hj⟩ : ∃ j, j = k - 1 := ⟨_, rfl⟩
        rw [← hj] at c2
        have W1 : IntKind.i64.wrap ((k : Int) - 1) = (j : Int) := by rw [IntWalk.i64_in _ (by omega)]; omega
        have hjk : j < k := by omega
        have HW := Lib.hid hw
        clear hx hy hnl hlt hj hw
        have q1 : (0 : Int) ≤ (k : Int) := by omega
        have q2 : (k : Int) < (zs.length : Int) := by omega
        have q3 : (0 : Int) ≤ (j : Int) := by omega
        have q4 : (j : Int) < (zs.length : Int) := by omega
        go_wp2_with fail
        go_quiet (with_reducible exact Calls.quiet_of_same (hl2 _))
        go_wp2
        exact ⟨⟨j, rfl, by omega, _, by rw [HW.out, World.drewN_drewN]⟩, by simp [intOf]; omega⟩
/-- The total of a list's first numbers. -/
def tot (zs : List Int) : Nat → Int
  | 0 => 0
  | k + 1 => tot zs k + zs.getD k 0
theorem tot_in {zs : List Int} (h : allZ zs = true) : ∀ k : Nat, -(1125899906842624 * (k : Int)) ≤ tot zs k ∧ tot zs k ≤ 1125899906842624 * (k : Int)
  | 0 => by simp [tot]
  | k + 1 => by
    have i := tot_in h k
    have b := okz_of h k
    unfold tot; omega
theorem tot_sm (zs : List Int) (s : Nat) : ∀ n, (∀ i, i < n → s.testBit i = true) → tot zs n = sm zs s n
  | 0, _ => rfl
  | n + 1, h => by rw [tot, sm, tot_sm zs s n (fun i hi => h i (by omega)), h n (by omega)]; rfl
theorem tot_all (zs : List Int) : tot zs zs.length = SF zs (allS zs) := tot_sm zs _ _ fun i hi => by rw [allS, Nat.testBit_two_pow_sub_one]; simpa using hi
theorem total_any (u : Value) (zs : List Int) (w : World) (hR : Rdz w u zs) (hl : zs.length ≤ 100) (hz : allZ zs = true) :
    Calls Tryd.prog 33 #[u] w fun e w' => e = .returned (.int .i64 (tot zs zs.length)) ∧ w' = w := by
  have hin := tot_in hz
  obtain ⟨q, c, rfl, hq⟩ := hR
  have HQ := Lib.hid hq
  clear hq
  go_enter Tryd.func33, Tryd.ntmps33
  go_wp2
  go_loopw [3, 8] (fun v3 v wr => ∃ k : Nat, v3 = .int .i64 (tot zs k) ∧ v = .int .i64 k ∧ k ≤ zs.length ∧ w = wr) (fun _ v _ => zs.length - (intOf v).toNat)
  case atStart => exact ⟨0, rfl, rfl, Nat.zero_le _, rfl⟩
  case round =>
    obtain ⟨k, rfl, rfl, hk, rfl⟩ := hrel
    by_cases hlt : k < zs.length
    · have g : decide ((k : Int) < (zs.length : Int)) = true := by simp [hlt]
      have W1 : IntKind.i64.wrap ((k : Int) + 1) = ((k + 1 : Nat) : Int) := by rw [IntWalk.i64_in _ (by omega)]; omega
      have e1 : tot zs (k + 1) = tot zs k + zs.getD k 0 := rfl
      have i1 := hin (k + 1)
      obtain ⟨a, rfl, cu⟩ := HQ.out k hlt
      have ez : zs[k] = zs.getD k 0 := by simp [List.getD, hlt]
      rw [ez] at cu
      obtain ⟨x, ex⟩ : ∃ x, tot zs k = x := ⟨_, rfl⟩
      obtain ⟨y, ey⟩ : ∃ y, tot zs (k + 1) = y := ⟨_, rfl⟩
      obtain ⟨z, hzk⟩ : ∃ z, zs.getD k 0 = z := ⟨_, rfl⟩
      rw [ex, hzk] at e1
      rw [ex]
      rw [ey] at e1 i1
      rw [hzk] at cu
      have EY := Lib.hid ey
      have W2 : IntKind.i64.wrap (x + z) = y := by rw [IntWalk.i64_in _ (by omega)]; omega
      have q1 : (0 : Int) ≤ (k : Int) := by omega
      have q2 : (k : Int) < (zs.length : Int) := by omega
      clear ex ey hzk hin e1 ez
      go_wp2
      exact ⟨⟨k + 1, by rw [EY.out], rfl, hlt, trivial⟩, by simp [intOf]; omega⟩
    · have g : decide ((k : Int) < (zs.length : Int)) = false := by simp; omega
      have e : k = zs.length := by omega
      subst e
      go_wp2
      go_ret
      exact ⟨rfl, rfl⟩
theorem farc_any (bs : Nat) (a sum : Int) (w : World) (ha : Sml a) (hs : Sml sum) (hc : w.cell? ⟨bs, 0, none⟩ = some (.int .i64 sum)) :
    Calls Tryd.prog 34 #[.int .i64 a, .pointer (some ⟨bs, 0, none⟩)] w fun e w' => e = .returned (.int .i64 (dst a sum)) ∧ w' = w := by
  unfold Sml at ha hs
  have W1 : IntKind.i64.wrap (a - sum) = a - sum := IntWalk.i64_in _ (by omega)
  have W2 : IntKind.i64.wrap (sum - a) = sum - a := IntWalk.i64_in _ (by omega)
  go_enter Tryd.func34, Tryd.ntmps34
  go_wp2
  go_ret
  exact ⟨rfl, rfl⟩
set_option maxRecDepth 100000 in
set_option maxHeartbeats 2000000 in
theorem nearc2_any (bf bn bs : Nat) (k n sum : Int) (w : World) (hk : Sml k) (hn : Sml n) (hs : Sml sum) (hc : w.cell? ⟨bs, 0, none⟩ = some (.int .i64 sum)) (h1 : w.cell? ⟨bf, 0, none⟩ = some (.func (.func 34) #[] #[.pointer (some ⟨bs, 0, none⟩)])) (h2 : w.cell? ⟨bn, 0, none⟩ = some (.int .i64 n)) (hle : ¬ cmpn sum k n < 0) :
    Calls Tryd.prog 36 #[.int .i64 k, .pointer (some ⟨bf, 0, none⟩), .pointer (some ⟨bn, 0, none⟩)] w fun e w' => e = .returned (.bool false) ∧ ∃ m, w' = w.drewN m := by
  rw [cmpn_neg] at hle
  have f1 := fun nd => farc_any bs k sum (w.drewN nd) hk hs hc
  have f2 := fun nd => farc_any bs n sum (w.drewN nd) hn hs hc
  obtain ⟨x, hx⟩ : ∃ x, dst k sum = x := ⟨_, rfl⟩
  obtain ⟨y, hy⟩ : ∃ y, dst n sum = y := ⟨_, rfl⟩
  rw [hx] at f1 hle
  rw [hy] at f2 hle
  have g1 : decide (x < y) = false := by simp; omega
  clear hx hy hc
  go_enter Tryd.func36, Tryd.ntmps36
  by_cases e : x = y
  · have g2 : (x == y) = true := by simp [e]
    have g3 : decide (k < n) = false := by simp; omega
    clear hle e
    go_wp2_with fail
    go_quiet (first | (with_reducible exact Calls.quiet_of_same (f1 _)) | (with_reducible exact Calls.quiet_of_same (f2 _)))
    go_wp2
    go_ret
    exact ⟨rfl, _, rfl⟩
  · have g2 : (x == y) = false := by simp [e]
    clear hle e
    go_wp2_with fail
    go_quiet (first | (with_reducible exact Calls.quiet_of_same (f1 _)) | (with_reducible exact Calls.quiet_of_same (f2 _)))
    go_wp2
    go_ret
    exact ⟨rfl, _, rfl⟩
set_option maxRecDepth 100000 in
theorem idxn_any (u : Value) (zs : List Int) (bf bn bs : Nat) (n sum : Int) (w : World) (hR : Rdz w u zs) (hl : zs.length ≤ 100000) (hz : ∀ x ∈ zs, Sml x) (hn : Sml n) (hs : Sml sum) (hc : w.cell? ⟨bs, 0, none⟩ = some (.int .i64 sum)) (h1 : w.cell? ⟨bf, 0, none⟩ = some (.func (.func 34) #[] #[.pointer (some ⟨bs, 0, none⟩)])) (h2 : w.cell? ⟨bn, 0, none⟩ = some (.int .i64 n)) (hle : ∀ x ∈ zs, ¬ cmpn sum x n < 0) :
    Calls Tryd.prog 64 #[u, .func (.func 36) #[] #[.pointer (some ⟨bf, 0, none⟩), .pointer (some ⟨bn, 0, none⟩)]] w fun e w' => e = .returned (.int .i64 (-1)) ∧ ∃ m, w' = w.drewN m := by
  have hC := fun k (h : k ∈ zs) nd => nearc2_any bf bn bs k n sum (w.drewN nd) (hz k h) hn hs hc h1 h2 (hle k h)
  obtain ⟨q, c, rfl, hq⟩ := hR
  have HQ := Lib.hid hq
  clear hq hz hle hc h1 h2
  go_enter Tryd.func64, Tryd.ntmps64
  go_wp2
  go_loopw [8] (fun v wr => ∃ k : Nat, v = .int .i64 k ∧ k ≤ zs.length ∧ ∃ m, wr = w.drewN m) (fun v _ => zs.length - (intOf v).toNat)
  case atStart => exact ⟨0, rfl, Nat.zero_le _, 0, rfl⟩
  case round =>
    obtain ⟨k, rfl, hk, nd, rfl⟩ := hrel
    by_cases hlt : k < zs.length
    · have g1 : decide ((k : Int) < (zs.length : Int)) = true := by simp [hlt]
      obtain ⟨a, rfl, cu⟩ := HQ.out k hlt
      have W1 : IntKind.i64.wrap ((k : Int) + 1) = ((k + 1 : Nat) : Int) := by rw [IntWalk.i64_in _ (by omega)]; omega
      have q1 : (0 : Int) ≤ (k : Int) := by omega
      have q2 : (k : Int) < (zs.length : Int) := by omega
      have hf := hC zs[k] (List.getElem_mem hlt) nd
      obtain ⟨z, hz⟩ : ∃ z, z = zs[k] := ⟨_, rfl⟩
      rw [← hz] at cu hf
      clear hz
      go_wp2_with (go_at_call 36; (with_reducible refine hf.mono ?_); rintro e1 w1 ⟨rfl, m, rfl⟩)
      exact ⟨⟨k + 1, rfl, hlt, _, rfl⟩, by simp [intOf]; omega⟩
    · have g1 : decide ((k : Int) < (zs.length : Int)) = false := by simp; omega
      go_wp2
      go_ret
      exact ⟨rfl, _, rfl⟩
theorem outn_any (u : Value) (zs : List Int) (bf bn bs : Nat) (n sum : Int) (w : World) (hR : Rdz w u zs) (hl : zs.length ≤ 100000) (hz : ∀ x ∈ zs, Sml x) (hn : Sml n) (hs : Sml sum) (hc : w.cell? ⟨bs, 0, none⟩ = some (.int .i64 sum)) (h1 : w.cell? ⟨bf, 0, none⟩ = some (.func (.func 34) #[] #[.pointer (some ⟨bs, 0, none⟩)])) (h2 : w.cell? ⟨bn, 0, none⟩ = some (.int .i64 n)) (hle : ∀ x ∈ zs, ¬ cmpn sum x n < 0) :
    Calls Tryd.prog 35 #[u, .func (.func 36) #[] #[.pointer (some ⟨bf, 0, none⟩), .pointer (some ⟨bn, 0, none⟩)]] w fun e w' => e = .returned (.bool false) ∧ ∃ m, w' = w.drewN m := by
  have h := idxn_any u zs bf bn bs n sum w hR hl hz hn hs hc h1 h2 hle
  obtain ⟨q, c, rfl, hq⟩ := hR
  go_enter Tryd.func35, Tryd.ntmps35
  go_wp2_with (go_at_call 64; (with_reducible refine h.mono ?_); rintro e1 w1 ⟨rfl, m, rfl⟩)
  go_ret
  exact ⟨rfl, m, rfl⟩
end Go.Proofs.YtepcokgpepcccaaDoor
