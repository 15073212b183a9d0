/- Sum. -/
import Derived.Test.YtbohcedclnbcdaaV5
namespace Go.Proofs.Ytbohcedclnbcdaa
open Go.ChangeShapes Go.WideShapes Go.ChangeAt Go.RowKit
set_option linter.unusedVariables false
set_option linter.unusedSimpArgs false

/-- Where the step at k ends, within a range. -/
def en (l : List Stp) (to : Int) (k : Nat) : Int := if k + 1 < l.length then min to (l.getD (k + 1) (0, 0)).1 else to
/-- What the step at k adds. -/
def tm (l : List Stp) (fr to : Int) (k : Nat) : Int := (l.getD k (0, 0)).2 * max (en l to k - max (l.getD k (0, 0)).1 fr) 0
def smP (l : List Stp) (fr to : Int) : Nat → Int
  | 0 => 0
  | k + 1 => smP l fr to k + tm l fr to k
def smT (l : List Stp) (fr to : Int) : Int := smP l fr to l.length
theorem mul_area {v D : Int} (h : 0 ≤ v ∧ v ≤ 1099511627776) (hd : -4194304 ≤ D ∧ D ≤ 4194304) : -4611686018427387904 ≤ v * D ∧ v * D ≤ 4611686018427387904 := by
  rcases Int.le_total 0 D with hD | hD
  · have h1 : 0 ≤ v * D := Int.mul_nonneg h.1 hD
    have h2 : v * D ≤ 1099511627776 * D := Int.mul_le_mul_of_nonneg_right h.2 hD
    omega
  · have h1 : 0 ≤ v * (-D) := Int.mul_nonneg h.1 (by omega)
    have h2 : v * (-D) ≤ 1099511627776 * (-D) := Int.mul_le_mul_of_nonneg_right h.2 (by omega)
    rw [Int.mul_neg] at h1 h2
    omega
theorem smP_bound {l : List Stp} (h : OkS l) {fr to : Int} (hf : plc fr = true) (ht : plc to = true) (hft : fr ≤ to) (k : Nat) (hk : k ≤ l.length) :
    0 ≤ smP l fr to k ∧ smP l fr to k ≤ 1099511627776 * max 0 ((if k < l.length then min to (l.getD k (0, 0)).1 else to) - fr) := by
  rw [plc_iff] at hf ht
  induction k with
  | zero => simp only [smP]; exact ⟨Int.le_refl _, by omega⟩
  | succ k ih =>
    obtain ⟨i1, i2⟩ := ih (by omega)
    have hk' : k < l.length := by omega
    have hv := (ara_iff _).1 (h.ar _ (List.getElem_mem hk'))
    rw [if_pos hk', gdS hk'] at i2
    rw [smP, tm, gdS hk', en]
    by_cases h2 : k + 1 < l.length
    · rw [if_pos h2, gdS h2]
      have ha := List.pairwise_iff_getElem.1 h.asc k (k + 1) hk' h2 (by omega)
      obtain ⟨B, hB⟩ : ∃ B, B = max (min to l[k + 1].1 - max l[k].1 fr) 0 := ⟨_, rfl⟩
      rw [← hB]
      have h3 : 0 ≤ l[k].2 * B := Int.mul_nonneg hv.1 (by omega)
      have h4 : l[k].2 * B ≤ 1099511627776 * B := Int.mul_le_mul_of_nonneg_right hv.2 (by omega)
      exact ⟨by omega, by omega⟩
    · rw [if_neg h2]
      obtain ⟨B, hB⟩ : ∃ B, B = max (to - max l[k].1 fr) 0 := ⟨_, rfl⟩
      rw [← hB]
      have h3 : 0 ≤ l[k].2 * B := Int.mul_nonneg hv.1 (by omega)
      have h4 : l[k].2 * B ≤ 1099511627776 * B := Int.mul_le_mul_of_nonneg_right hv.2 (by omega)
      exact ⟨by omega, by omega⟩
theorem smP_small {l : List Stp} (h : OkS l) {fr to : Int} (hf : plc fr = true) (ht : plc to = true) (hft : fr ≤ to) (k : Nat) (hk : k ≤ l.length) :
    0 ≤ smP l fr to k ∧ smP l fr to k ≤ 2305843009213693952 := by
  have := smP_bound h hf ht hft k hk
  rw [plc_iff] at hf ht
  refine ⟨this.1, Int.le_trans this.2 ?_⟩
  split <;> omega
def sumC (l : List Stp) (fr to : Int) : Int := if okS l then (if rng fr to then 0 else 2) else 1
def sumV (l : List Stp) (fr to : Int) : Int := if okS l && rng fr to then smT l fr to else 0
theorem tm_val {l : List Stp} {fr to : Int} {k : Nat} (hk : k < l.length) {e m x : Int} (he : e = en l to k) (hm : m = max l[k].1 fr) (hx : x = max (e - m) 0) : tm l fr to k = l[k].2 * x := by
  rw [tm, gdS hk, hx, he, hm]
set_option maxHeartbeats 4000000 in
set_option maxRecDepth 100000 in
theorem sum_ok (p : Option Addr) (l : List Stp) (cap : Nat) (fr to : Int) (w : World) (hS : Sl w p l) (hO : okS l = true) (hR : rng fr to = true) :
    Calls Try.prog 25 #[.slice p l.length cap, .int .i64 fr, .int .i64 to] w fun e w' => e = .returned (.tuple #[.int .i64 (smT l fr to), .int .i64 0]) ∧ Below w.heap.size w w' := by
  have h1 := valid_any p l cap w hS
  rw [hO] at h1
  have h2 := fun W => range_any fr to W
  rw [hR] at h2
  have hm := hS.2.2.1
  unfold maxLen at hm
  have hr : plc fr = true ∧ plc to = true ∧ fr ≤ to := by unfold rng at hR; simpa [and_assoc] using hR
  have hf := (plc_iff _).1 hr.1
  have ht := (plc_iff _).1 hr.2.1
  have hft := hr.2.2
  have HB := Lib.hid (fun k hk => smP_small (okS_to hO) hr.1 hr.2.1 hr.2.2 k hk)
  have HO := Lib.hid (okS_to hO)
  clear hO hR hr
  go_enter Try.func25, Try.ntmps25
  go_wp2_with (first
    | (go_at_call 16; (with_reducible refine h1.mono ?_); rintro e w1 ⟨rfl, hb⟩; clear h1)
    | (go_at_call 49; (with_reducible refine (h2 _).mono ?_); rintro e w2 ⟨rfl, rfl⟩; clear h2))
  go_loopw [8, 23] (fun s v wr => ∃ k : Nat, v = .int .i64 k ∧ k ≤ l.length ∧ s = .int .i64 (smP l fr to k) ∧ Below w.heap.size w wr) (fun _ v _ => l.length - (intOf v).toNat)
  case atStart => exact ⟨0, rfl, Nat.zero_le _, rfl, hb⟩
  case round =>
    obtain ⟨k, rfl, hk, rfl, hB⟩ := hrel
    by_cases hlt : k < l.length
    · have g1 : decide ((k : Int) < (l.length : Int)) = true := by simp [hlt]
      obtain ⟨a, rfl, c0, c1⟩ := (hS.on hB).at hlt
      have W1 : IntKind.i64.wrap ((k : Int) + 1) = ((k + 1 : Nat) : Int) := by rw [IntWalk.i64_in _ (by omega)]; omega
      have hs := (plc_iff _).1 (HO.out.pl _ (List.getElem_mem hlt))
      have hv := (ara_iff _).1 (HO.out.ar _ (List.getElem_mem hlt))
      have hsum := HB.out k hk
      by_cases h3 : k + 1 < l.length
      · have g2 : decide (((k + 1 : Nat) : Int) < (l.length : Int)) = true := by simp; omega
        have g3 : decide ((k : Int) + 1 < (l.length : Int)) = true := by simp; omega
        obtain ⟨a', e', d0, -⟩ := (hS.on hB).at h3
        cases e'
        have D0 := cell_later (al1 wr (.cells #[.int .i64 l[k].1, .int .i64 l[k].2] 34)) d0
        have q1 : (0 : Int) ≤ ((k + 1 : Nat) : Int) := by omega
        have q2 : ((k + 1 : Nat) : Int) < (l.length : Int) := by omega
        have hn := (plc_iff _).1 (HO.out.pl _ (List.getElem_mem h3))
        have HN : Hid (smP l fr to (k + 1) = smP l fr to k + l[k].2 * max (min to l[k + 1].1 - max l[k].1 fr) 0) := Lib.hid (by
          rw [smP, tm_val hlt rfl rfl rfl, en, if_pos h3, gdS h3])
        generalize l[k + 1].1 = n at *
        generalize l[k].1 = s at *
        generalize l[k].2 = v at *
        generalize smP l fr to k = sum at *
        have HX : Hid ((if ((if n < to then n else to) - if s < fr then fr else s) < 0 then 0 else (if n < to then n else to) - if s < fr then fr else s) = max (min to n - max s fr) 0) := Lib.hid (by (repeat' split) <;> omega)
        have hX : 0 ≤ max (min to n - max s fr) 0 ∧ max (min to n - max s fr) 0 ≤ 4194304 := by omega
        have hP := mul_area hv (D := max (min to n - max s fr) 0) ⟨by omega, hX.2⟩
        have hP0 : 0 ≤ v * max (min to n - max s fr) 0 := Int.mul_nonneg hv.1 hX.1
        have HW : Hid (RowKit.wrap64 (sum + RowKit.wrap64 (v * max (min to n - max s fr) 0)) = sum + v * max (min to n - max s fr) 0) := Lib.hid (by rw [IntWalk.wrap64_in (v * max (min to n - max s fr) 0) (by omega), IntWalk.wrap64_in _ (by omega)])
        clear hP hP0 hX
        go_wp2
        exact ⟨⟨k + 1, rfl, hlt, by rw [HN.out, ← HW.out, ← HX.out], al hB _⟩, by simp [intOf]; omega⟩
      · have g2 : decide (((k + 1 : Nat) : Int) < (l.length : Int)) = false := by simp; omega
        have g3 : decide ((k : Int) + 1 < (l.length : Int)) = false := by simp; omega
        have HN : Hid (smP l fr to (k + 1) = smP l fr to k + l[k].2 * max (to - max l[k].1 fr) 0) := Lib.hid (by
          rw [smP, tm_val hlt rfl rfl rfl, en, if_neg h3])
        generalize l[k].1 = s at *
        generalize l[k].2 = v at *
        generalize smP l fr to k = sum at *
        have HX : Hid ((if (to - if s < fr then fr else s) < 0 then 0 else to - if s < fr then fr else s) = max (to - max s fr) 0) := Lib.hid (by (repeat' split) <;> omega)
        have hX : 0 ≤ max (to - max s fr) 0 ∧ max (to - max s fr) 0 ≤ 4194304 := by omega
        have hP := mul_area hv (D := max (to - max s fr) 0) ⟨by omega, hX.2⟩
        have hP0 : 0 ≤ v * max (to - max s fr) 0 := Int.mul_nonneg hv.1 hX.1
        have HW : Hid (RowKit.wrap64 (sum + RowKit.wrap64 (v * max (to - max s fr) 0)) = sum + v * max (to - max s fr) 0) := Lib.hid (by rw [IntWalk.wrap64_in (v * max (to - max s fr) 0) (by omega), IntWalk.wrap64_in _ (by omega)])
        clear hP hP0 hX
        go_wp2
        exact ⟨⟨k + 1, rfl, hlt, by rw [HN.out, ← HW.out, ← HX.out], al hB _⟩, by simp [intOf]; omega⟩
    · have g1 : decide ((k : Int) < (l.length : Int)) = false := by simp; omega
      have e : smT l fr to = smP l fr to k := by unfold smT; congr 1; omega
      go_wp2
      exact bodyPost_ret (v := .tuple #[.int .i64 (smP l fr to k), .int .i64 0]) (by simp [results, Try.results25, go_sem]) rfl ⟨by rw [e], hB⟩
set_option maxRecDepth 100000 in
theorem sum_any (p : Option Addr) (l : List Stp) (cap : Nat) (fr to : Int) (w : World) (hS : Sl w p l) :
    Calls Try.prog 25 #[.slice p l.length cap, .int .i64 fr, .int .i64 to] w fun e w' => e = .returned (.tuple #[.int .i64 (sumV l fr to), .int .i64 (sumC l fr to)]) ∧ Below w.heap.size w w' := by
  have h1 := valid_any p l cap w hS
  have h2 := fun W => range_any fr to W
  cases hO : okS l
  · have e1 : sumV l fr to = 0 := by simp [sumV, hO]
    have e2 : sumC l fr to = 1 := by simp [sumC, hO]
    rw [e1, e2]
    rw [hO] at h1
    clear e1 e2 hO h2
    go_enter Try.func25, Try.ntmps25
    go_wp2_with (go_at_call 16; (with_reducible refine h1.mono ?_); rintro e w1 ⟨rfl, hb⟩)
    exact bodyPost_ret (v := .tuple #[.int .i64 0, .int .i64 1]) (by simp [results, Try.results25, go_sem]) rfl ⟨rfl, hb⟩
  · cases hR : rng fr to
    · have e1 : sumV l fr to = 0 := by simp [sumV, hR]
      have e2 : sumC l fr to = 2 := by simp [sumC, hO, hR]
      rw [e1, e2]
      rw [hO] at h1
      rw [hR] at h2
      clear e1 e2 hO hR
      go_enter Try.func25, Try.ntmps25
      go_wp2_with (first
        | (go_at_call 16; (with_reducible refine h1.mono ?_); rintro e w1 ⟨rfl, hb⟩)
        | (go_at_call 49; (with_reducible refine (h2 _).mono ?_); rintro e w2 ⟨rfl, rfl⟩))
      exact bodyPost_ret (v := .tuple #[.int .i64 0, .int .i64 2]) (by simp [results, Try.results25, go_sem]) rfl ⟨rfl, hb⟩
    · have e1 : sumV l fr to = smT l fr to := by simp [sumV, hO, hR]
      have e2 : sumC l fr to = 0 := by simp [sumC, hO, hR]
      rw [e1, e2]
      exact sum_ok p l cap fr to w hS hO hR
end Go.Proofs.Ytbohcedclnbcdaa
