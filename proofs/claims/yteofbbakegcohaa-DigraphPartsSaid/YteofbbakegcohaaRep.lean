/- slices.Repeat of one whole number. -/
import Derived.Test.YteofbbakegcohaaOc
import Derived.Test.YteofbbakegcohaaShf
import Derived.Laws.CopyOwn
namespace Go.Proofs.Yteofbbakegcohaa
open Go.ChangeShapes Go.WideShapes Go.ChangeAt Go.RowKit
set_option linter.unusedVariables false
set_option linter.unusedSimpArgs false

theorem sz3 : (Try.prog.info? 3).map (·.size) = some 1 := by kernel_rfl
/-- k cells laid, the others zero. -/
def fillA (x : Int) (n k : Nat) : List Value := (List.range n).map fun j => if j < k then Value.int .i64 x else Value.int .i64 0
theorem fillA_len (x : Int) (n k : Nat) : (fillA x n k).length = n := by simp [fillA]
theorem splice_fill (x : Int) (n k m : Nat) (h : k + m ≤ n) : splice (fillA x n k) k (List.replicate m (.int .i64 x)) = fillA x n (k + m) := by
  unfold splice
  apply List.ext_getElem
  · simp [fillA_len]; omega
  · intro j h1 h2
    rw [fillA_len] at h2
    by_cases a : j < k
    · rw [List.getElem_append_left (by simp [fillA_len]; omega)]
      simp [fillA, a, show j < k + m by omega]
    · rw [List.getElem_append_right (by simp [fillA_len]; omega)]
      have e : (List.take k (fillA x n k)).length = k := by simp [fillA_len]; omega
      by_cases b : j < k + m
      · rw [List.getElem_append_left (by simp [e]; omega)]
        simp [fillA, b]
      · rw [List.getElem_append_right (by simp [e]; omega)]
        simp [fillA, fillA_len, a, b, e]
        omega
theorem fill_row {w : World} {g n : Nat} {x : Int} (h : w.heap[g]? = some (.cells (fillA x n n).toArray 3 (0, 0))) : Row w g n (fun _ => x) := by
  unfold Row Has
  rw [h]
  congr 3
  unfold fillA
  exact List.map_congr_left fun j hj => by simp [List.mem_range.1 hj]
theorem fill_zero {w : World} {g n : Nat} (x : Int) (h : Row w g n (fun _ => 0)) : w.heap[g]? = some (.cells (fillA x n 0).toArray 3 (0, 0)) := by
  unfold Row Has at h
  rw [h]
  simp [fillA]

set_option maxRecDepth 100000 in
set_option maxHeartbeats 4000000 in
theorem repeat_any (x : Int) (g0 n : Nat) (w : World) (hn : n ≤ 1000) (hx : w.cell? ⟨g0, 0, none⟩ = some (.int .i64 x)) :
    Calls Try.prog 46 #[.slice (some ⟨g0, 0, none⟩) 1 1, .int .i64 n] w fun e w' => e = .returned (.slice (some ⟨w.heap.size, 0, none⟩) n n) ∧ Row w' w.heap.size n (fun _ => x) ∧ Below w.heap.size w w' := by
  obtain ⟨i0, hi, hz0, hz1, hz2⟩ := info_parts info3
  have g0s := lt_of_cell hx
  have e1 : (1 * n / 18446744073709551616 : Nat) = 0 := by omega
  have e2 : (1 * n % 18446744073709551616 : Nat) = n := by omega
  have hM : ∀ W, Calls Try.prog 62 #[.int .u64 1, .int .u64 n] W fun e w' => e = .returned (.tuple #[.int .u64 0, .int .u64 n]) ∧ W = w' := fun W => by
    have := Try.bits_Mul 1 n (by omega) (by omega) W
    rw [e1, e2] at this
    exact this.mono fun e w' h => ⟨h.1, h.2.symm⟩
  clear e1 e2
  have W1 : IntKind.u64.wrap (n : Int) = (n : Int) := by rw [IntKind.wrap_u64]; omega
  have W2 : IntKind.i64.wrap (n : Int) = (n : Int) := IntWalk.i64_in _ (by omega)
  have nn : ¬ (n : Int) < 0 := by omega
  go_enter Try.func46, Try.ntmps46
  go_wp2_with (first
    | (go_at_call 62; (with_reducible refine (hM _).mono ?_); rintro e w1 ⟨rfl, rfl⟩)
    | (at_make; refine wpList_make_full _ rfl _ _ 23 rfl w.heap.size 3 i0 _ 1 Try.underlying23 hi hz0 hz1 _ _ _ _ n rfl rfl rfl rfl (by rw [hz2]; omega) (by unfold maxLen; omega) (Nat.le_refl _) ?_))
  intro w1 hown hgrow
  have hR := fill_zero x (row_zero hown)
  have hB := below_grown (Below.refl _ w) hgrow (Nat.le_refl _)
  have c1 := cell_later hB hx
  clear hown hgrow
  obtain ⟨m, hm, hm1, hm2⟩ : ∃ m, m = Nat.min 1 n ∧ m ≤ n ∧ (0 < n → 0 < m) := ⟨_, rfl, Nat.min_le_right _ _, fun h => Nat.lt_min.2 ⟨by omega, h⟩⟩
  have hp : 0 < (List.replicate m (Value.int .i64 x)).length → ∀ j v, (List.replicate m (Value.int .i64 x))[j]? = some v → w1.cell? ((⟨g0, 0, none⟩ : Addr).add j) = some v := fun h j v hj => by
    have hj2 := (List.getElem?_eq_some_iff.1 hj).1
    rw [List.length_replicate] at hj2
    have : Nat.min 1 n ≤ 1 := Nat.min_le_left _ _
    obtain rfl : j = 0 := by omega
    rw [List.mem_replicate.1 (List.mem_of_getElem? hj) |>.2]
    exact c1
  have HM := Lib.hid hm
  clear hm
  go_wp2_with ((with_reducible show wpList _ _ _ ({ dst := _, op := Op.call { callee := Callee.builtin Builtin.copy, args := _, argTypes := _ }, type := _, pos := _, after := _, guard := _ } :: _) _ _); refine wpList_copy_splice rfl _ _ 23 23 rfl 3 Try.underlying23 sz3 _ _ _ _ _ _ rfl rfl w.heap.size 0 (fillA x n 0) 3 hR (List.replicate m (.int .i64 x)) (by rw [List.length_replicate]; exact HM.out) (fun h => ⟨rfl, ⟨g0, 0, none⟩, rfl, hp h⟩) (by rw [List.length_replicate, fillA_len]; omega) (fun v hv => by rw [(List.mem_replicate.1 hv).2]; rfl) w.heap.size w hB (Nat.le_refl _) ?_)
  intro w2 HG B2
  rw [splice_fill x n 0 m (by omega), Nat.zero_add] at HG
  have ml : (List.replicate m (Value.int .i64 x)).length = m := List.length_replicate
  clear hR hB hp c1
  go_wp2
  go_loopw [8] (fun v wr => ∃ k : Nat, v = .int .i64 k ∧ k ≤ n ∧ (0 < n → 0 < k) ∧ Hid (wr.heap[w.heap.size]? = some (.cells (fillA x n k).toArray 3 (0, 0))) ∧ Below w.heap.size w wr) (fun v _ => n - (intOf v).toNat)
  case atStart => exact ⟨m, rfl, hm1, hm2, HG, B2⟩
  case round =>
    clear HG B2
    obtain ⟨k, rfl, hk, hk0, hR, hB⟩ := hrel
    by_cases hlt : k < n
    · have g1 : decide ((k : Int) < (n : Int)) = true := by simp [hlt]
      have q1 : (0 : Int) ≤ (k : Int) := by omega
      have q2 : (k : Int) ≤ (n : Int) := by omega
      have q3 : (k : Int) < (n : Int) := by omega
      obtain ⟨c, hc, hc1, hc2, hc3⟩ : ∃ c, c = Nat.min k (n - k) ∧ c ≤ k ∧ c ≤ n - k ∧ 0 < c := ⟨_, rfl, Nat.min_le_left _ _, Nat.min_le_right _ _, Nat.lt_min.2 ⟨by omega, by omega⟩⟩
      have hsrc : ∀ j v, (List.replicate c (Value.int .i64 x))[j]? = some v → wr.cell? ((⟨w.heap.size, 0, none⟩ : Addr).add j) = some v := fun j v hj => by
        have hj2 := (List.getElem?_eq_some_iff.1 hj).1
        rw [List.length_replicate] at hj2
        rw [(List.mem_replicate.1 (List.mem_of_getElem? hj)).2, Addr.add_lit, Nat.zero_add]
        rw [cell_of_row wr w.heap.size j _ _ _ hR.out]
        simp [fillA, show j < n by omega, show j < k by omega]
      have W3 : IntKind.i64.wrap ((k : Int) + (c : Int)) = ((k + c : Nat) : Int) := by rw [IntWalk.i64_in _ (by omega)]; omega
      have HC := Lib.hid hc
      have HS := Lib.hid hsrc
      have nk : ¬ n = k := by omega
      clear hc hsrc
      go_wp2_with fail
      go_region_law ((refine step_copy_splice rfl (.tmp 41) (.tmp 44) 23 23 rfl 3 Try.underlying23 sz3 (some ⟨w.heap.size, k, none⟩) (some ⟨w.heap.size, 0, none⟩) (n - k) (n - k) k n (by simp [Act.eval, Act.put]) (by simp [Act.eval, Act.put]) w.heap.size k (fillA x n k) 3 hR.out (List.replicate c (.int .i64 x)) (by rw [List.length_replicate]; exact HC.out) (fun h => ⟨rfl, ⟨w.heap.size, 0, none⟩, rfl, HS.out⟩) (by rw [List.length_replicate, fillA_len]; omega) (fun v hv => by rw [(List.mem_replicate.1 hv).2]; rfl) w.heap.size w (Below.drew hB) (Nat.le_refl _) ?_); intro w3 HG B3; rw [List.length_replicate])
      all_goals (
        rw [splice_fill x n k c (by omega)] at HG
        go_roundw
        case rel =>
          refine ⟨_, _, _, _, _, _, _, _, _, _, _, _, _, _, ⟨k + c, ?_, by omega, by omega, HG, B3⟩, rfl⟩
          rw [Int.natCast_add]
        case measure =>
          show n - (intOf (Value.int .i64 ((k : Int) + (c : Int)))).toNat < n - (intOf (Value.int .i64 (k : Int))).toNat
          simp [intOf]; omega)
    · have g1 : decide ((k : Int) < (n : Int)) = false := by simp; omega
      have e : k = n := by omega
      subst e
      go_wp2
      go_ret
      exact ⟨rfl, fill_row hR.out, hB⟩
end Go.Proofs.Yteofbbakegcohaa
