/- The reference's All, Bridges; Path and Bridges where they refuse. -/
import Derived.Test.YtampfciacjifgaaDf2
import Derived.Test.YtampfciacjifgaaWay
namespace Go.Proofs.Ytampfciacjifgaa
open Go.ChangeShapes Go.WideShapes Go.ChangeAt Go.RowKit
set_option linter.unusedVariables false
set_option linter.unusedSimpArgs false

theorem rall_any (p : Option Addr) (m cap : Nat) (w : World) (hm : m ≤ 4000) :
    Calls Try.prog 60 #[.slice p m cap] w fun e w' => ∃ v, e = .returned v ∧ Own w.heap.size w' v (List.range m) ∧ Below w.heap.size w w' := by
  obtain ⟨i0, hi, hz0, hz1, hz2⟩ := info_parts info3
  go_enter Try.func60, Try.ntmps60
  go_wp2
  go_loopw [3, 4] (fun v3 v4 wr => ∃ k : Nat, v4 = .int .i64 k ∧ k ≤ m ∧ Hid (Own w.heap.size wr v3 (List.range k)) ∧ Below w.heap.size w wr) (fun _ v _ => m - (intOf v).toNat)
  case atStart => exact ⟨0, rfl, Nat.zero_le _, Lib.hid (World.ownsRow_nil _ _ _ _), Below.refl _ _⟩
  case round =>
    obtain ⟨k, rfl, hk, hO, hB⟩ := hrel
    by_cases hlt : k < m
    · have g1 : decide ((k : Int) < (m : Int)) = true := by simp [hlt]
      have W1 : IntKind.i64.wrap ((k : Int) + 1) = ((k + 1 : Nat) : Int) := by rw [IntWalk.i64_in _ (by omega)]; omega
      have hl : (List.range k).length = k := List.length_range
      obtain ⟨xs, hxs⟩ : ∃ xs, xs = List.range k := ⟨_, rfl⟩
      rw [← hxs] at hO hl
      have e1 : List.range (k + 1) = xs ++ [k] := by rw [hxs, List.range_succ]
      have E1 := Lib.hid e1
      clear e1 hxs
      have HL := Lib.hid hl
      clear hl
      go_wp2_with (at_builtin; refine wpList_append_own_at _ rfl _ _ 29 rfl w.heap.size 3 i0 _ 1 8 Try.underlying29 hi hz0 hz1 hz2 rfl (by decide) _ xs.length (ints xs) rfl (own_on hO.out (al1 _ _)) ⟨_, 0, none⟩ 1 1 [.int .i64 (k : Int)] rfl rfl (cell_one_new _ _ _) (by simp [Value.oneCell']) (by have := HL.out; unfold maxLen; omega) (by have := HL.out; omega) (Nat.le_trans hB.size (al1 _ _).size) ?_)
      intro v' w2 o1 o2 o3 o4
      have O2 : Own w.heap.size w2 v' (List.range (k + 1)) := by
        rw [E1.out]
        unfold Own
        rw [ints_app, List.length_append]
        exact o1
      have B2 : Below w.heap.size w w2 := (hB.alloc hB.size _).grown o2 (Nat.le_trans hB.size (al1 _ _).size) (fun j hj => (World.ownsRow.lt hO.out _ hj).1)
      clear o1 o2 o3 o4
      go_wp2
      exact ⟨⟨k + 1, rfl, hlt, Lib.hid O2, B2⟩, by simp [intOf]; omega⟩
    · have g1 : decide ((k : Int) < (m : Int)) = false := by simp; omega
      have e : k = m := by omega
      subst e
      go_wp2
      go_ret
      exact ⟨_, rfl, hO.out, hB⟩
set_option maxRecDepth 100000 in
theorem bridges_no (p : Option Addr) (n : Int) (l : List (Int × Int)) (cap : Nat) (w : World) (hS : Sl w p l) (h : vG n l = false) :
    Calls Try.prog 25 #[.int .i64 n, .slice p l.length cap] w fun e w' => e = .returned (.tuple #[.slice none 0 0, .int .i64 1]) ∧ Below w.heap.size w w' := by
  have hE0 := Has.new_ w 22 #[.slice p l.length cap]
  have r0 : (w.alloc (.cells #[.slice p l.length cap] 22)).cell? ⟨w.heap.size, 0, none⟩ = some (.slice p l.length cap) := hE0.read 0
  have hv := valid_any p l cap n _ (hS.on (al1 w (.cells #[.slice p l.length cap] 22)))
  rw [h] at hv
  go_enter Try.func25, Try.ntmps25
  go_wp2_with (go_at_call 14; (with_reducible refine hv.mono ?_); rintro e w1 ⟨rfl, b1⟩)
  exact bodyPost_ret (v := .tuple #[.slice none 0 0, .int .i64 1]) (by simp [results, Try.results25, go_sem]) rfl ⟨rfl, belows (al1 _ _) b1⟩
set_option maxRecDepth 100000 in
theorem path_no (p : Option Addr) (n a b : Int) (l : List (Int × Int)) (cap : Nat) (w : World) (hS : Sl w p l) (h : vG n l = false) :
    Calls Try.prog 26 #[.int .i64 n, .slice p l.length cap, .int .i64 a, .int .i64 b] w fun e w' => e = .returned (.tuple #[.slice none 0 0, .int .i64 1]) ∧ Below w.heap.size w w' := by
  have hv := valid_any p l cap n w hS
  rw [h] at hv
  go_enter Try.func26, Try.ntmps26
  go_wp2_with (go_at_call 14; (with_reducible refine hv.mono ?_); rintro e w1 ⟨rfl, b1⟩)
  exact bodyPost_ret (v := .tuple #[.slice none 0 0, .int .i64 1]) (by simp [results, Try.results26, go_sem]) rfl ⟨rfl, b1⟩
set_option maxRecDepth 100000 in
theorem path_range (p : Option Addr) (n : Nat) (a b : Int) (l : List (Nat × Nat)) (cap : Nat) (w : World) (hG : Gr w p n l) (h : (wi a n && wi b n) = false) :
    Calls Try.prog 26 #[.int .i64 n, .slice p l.length cap, .int .i64 a, .int .i64 b] w fun e w' => e = .returned (.tuple #[.slice none 0 0, .int .i64 2]) ∧ Below w.heap.size w w' := by
  have hWa := fun W => within_any a (n : Int) W
  have hWb := fun W => within_any b (n : Int) W
  cases ha : wi a (n : Int)
  · rw [ha] at hWa
    go_enter Try.func26, Try.ntmps26
    go_wp2_with (first
      | (go_at_call 14; (with_reducible refine (valid_ok cap hG).mono ?_); rintro e w1 ⟨rfl, b1⟩)
      | (go_at_call 43; (with_reducible refine (hWa _).mono ?_); rintro e wz ⟨rfl, rfl⟩))
    exact bodyPost_ret (v := .tuple #[.slice none 0 0, .int .i64 2]) (by simp [results, Try.results26, go_sem]) rfl ⟨rfl, b1⟩
  · rw [ha, Bool.true_and] at h
    rw [ha] at hWa
    rw [h] at hWb
    go_enter Try.func26, Try.ntmps26
    go_wp2_with (first
      | (go_at_call 14; (with_reducible refine (valid_ok cap hG).mono ?_); rintro e w1 ⟨rfl, b1⟩)
      | (go_at_call 43; (with_reducible refine (hWa _).mono ?_); rintro e wz ⟨rfl, rfl⟩)
      | (go_at_call 43; (with_reducible refine (hWb _).mono ?_); rintro e wz ⟨rfl, rfl⟩))
    exact bodyPost_ret (v := .tuple #[.slice none 0 0, .int .i64 2]) (by simp [results, Try.results26, go_sem]) rfl ⟨rfl, b1⟩
/-- Whether edge i is one of the bridges. -/
def isB (l : List (Nat × Nat)) (n i : Nat) : Bool := decide (i ∈ brg l (adj l (List.range l.length)) n)
theorem isB_iff {l : List (Nat × Nat)} {n i : Nat} (hl : Ok l n) (hi : i < l.length) {R : Nat → Nat} (hL : Lab (ed l l.length i) R) : isB l n i = true ↔ R l[i].1 ≠ R l[i].2 := by
  have e0 : l[i]? = some l[i] := List.getElem?_eq_getElem hi
  have hi1 : Ic l i l[i].1 := ⟨_, e0, .inl rfl⟩
  have en : nx l i l[i].1 = l[i].2 := by rw [nx_is e0]; simp [oth]
  unfold isB
  rw [decide_eq_true_iff, brg_mem hl]
  constructor
  · rintro ⟨-, hb⟩ e
    refine hb _ hi1 ?_
    rw [en]
    exact cn_ce hl ((hL.c _).trans (by rw [e]; exact (hL.c _).symm))
  · intro h
    refine ⟨hi, is_brd hl hi1 fun c => h ?_⟩
    rw [en] at c
    exact hL.const (ce_cn c)
theorem isB_list {l : List (Nat × Nat)} {n : Nat} (hl : Ok l n) : (List.range l.length).filter (isB l n) = brg l (adj l (List.range l.length)) n := by
  refine sorted_uniq (List.pairwise_lt_range.filter _) (brg_lt hl) fun i => ?_
  rw [List.mem_filter, List.mem_range]
  unfold isB
  rw [decide_eq_true_iff]
  exact ⟨fun h => h.2, fun h => ⟨((brg_mem hl i).1 h).1, h⟩⟩
set_option maxRecDepth 100000 in
set_option maxHeartbeats 4000000 in
theorem rbridges_any (p : Option Addr) (n : Nat) (l : List (Nat × Nat)) (cap : Nat) (w : World) (hG : Gr w p n l) :
    Calls Try.prog 28 #[.int .i64 n, .slice p l.length cap] w fun e w' => ∃ v, e = .returned v ∧ Own w.heap.size w' v (brg l (adj l (List.range l.length)) n) ∧ Below w.heap.size w w' := by
  have hm := hG.2.1
  have hn := hG.2.2.1
  have hl : Ok l n := hG.2.2.2
  obtain ⟨i0, hi, hz0, hz1, hz2⟩ := info_parts info3
  have HF := Lib.hid (isB_list hl)
  go_enter Try.func28, Try.ntmps28
  go_wp2
  go_loopw [5, 6] (fun v5 v6 wr => ∃ k : Nat, v6 = .int .i64 k ∧ k ≤ l.length ∧ Hid (Own w.heap.size wr v5 ((List.range k).filter (isB l n))) ∧ Below w.heap.size w wr) (fun _ v _ => l.length - (intOf v).toNat)
  case atStart => exact ⟨0, rfl, Nat.zero_le _, Lib.hid (World.ownsRow_nil _ _ _ _), Below.refl _ _⟩
  case round =>
    obtain ⟨k, rfl, hk, hO, hB⟩ := hrel
    by_cases hlt : k < l.length
    · have g : decide ((k : Int) < (l.length : Int)) = true := by simp [hlt]
      have W1 : IntKind.i64.wrap ((k : Int) + 1) = ((k + 1 : Nat) : Int) := by rw [IntWalk.i64_in _ (by omega)]; omega
      have hkl : ((List.range k).filter (isB l n)).length ≤ k := Nat.le_trans (List.length_filter_le _ _) (by simp)
      have e1 := range_next (isB l n) k
      have hiff := fun R h => isB_iff (R := R) hl hlt h
      obtain ⟨ys, hys⟩ : ∃ ys, ys = (List.range k).filter (isB l n) := ⟨_, rfl⟩
      rw [← hys] at hkl e1 hO
      go_upto_region 6 with (go_at_call 44; (with_reducible refine (labels_any p n l.length (k : Int) l cap _ (hG.on hB) (Nat.le_refl _)).mono ?_); rintro e w1 ⟨v, xs, rfl, ho, hxn, hL, hb⟩)
      have hif := hiff _ hL
      have hlm := hl _ (List.getElem_mem hlt)
      obtain ⟨a, rfl, d0, d1, l1, l2, ne⟩ := (hG.on (belows hB hb)).at hlt
      obtain ⟨gg, c, rfl, hgB, hgg⟩ := World.ownsRow.form ho (by omega)
      have ca := Own.cell (n := xs.length) ho rfl (j := l[k].1) (by omega)
      have cb := Own.cell (n := xs.length) ho rfl (j := l[k].2) (by omega)
      rw [lf_at (by omega), lf_at (by omega)] at hif
      obtain ⟨x1, hx1⟩ : ∃ x, x = l[k].1 := ⟨_, rfl⟩
      obtain ⟨x2, hx2⟩ : ∃ x, x = l[k].2 := ⟨_, rfl⟩
      obtain ⟨va, hva⟩ : ∃ v, v = xs[l[k].1]'(by omega) := ⟨_, rfl⟩
      obtain ⟨vb, hvb⟩ : ∃ v, v = xs[l[k].2]'(by omega) := ⟨_, rfl⟩
      rw [← hva] at ca hif
      rw [← hvb] at cb hif
      rw [← hx1] at d0 ca l1
      rw [← hx2] at d1 cb l2
      have O1 := Lib.hid (own_on hO.out hb)
      have B1 := belows hB hb
      clear hiff hL hb hO hB hva hvb ne hlm
      have q1 : (0 : Int) ≤ (k : Int) := by omega
      have q2 : (k : Int) < (l.length : Int) := by omega
      have q3 : (0 : Int) ≤ (x1 : Int) := by omega
      have q4 : (x1 : Int) < (n : Int) := by omega
      have q5 : (0 : Int) ≤ (x2 : Int) := by omega
      have q6 : (x2 : Int) < (n : Int) := by omega
      have q7 : (x1 : Int) < (xs.length : Int) := by omega
      have q8 : (x2 : Int) < (xs.length : Int) := by omega
      clear hx1 hx2 ho hys
      cases hb : isB l n k
      · rw [hb] at e1 hif
        have hab : va = vb := Decidable.byContradiction fun h => by have := hif.2 h; cases this
        have t2 : ((va : Int) != (vb : Int)) = false := by simp [hab]
        simp only [Bool.false_eq_true, if_false, List.append_nil] at e1
        have E1 := Lib.hid e1
        clear e1 hif hab hb
        go_quiet (fail)
        go_wp2
        exact ⟨⟨k + 1, rfl, hlt, Lib.hid (by rw [E1.out]; exact own_on O1.out (below_drewN (Below.refl _ _) _)), below_drewN B1 _⟩, by simp [intOf]; omega⟩
      · rw [hb] at e1 hif
        have hab : va ≠ vb := hif.1 rfl
        have t2 : ((va : Int) != (vb : Int)) = true := by simp; omega
        simp only [if_true] at e1
        have E1 := Lib.hid e1
        clear e1 hif hab hb
        go_quiet (fail)
        have O2 := Lib.hid (own_on O1.out (below_drewN (Below.refl _ _) nq))
        have B2 := below_drewN B1 nq
        clear O1 B1 ca cb d0 d1
        generalize w1.drewN nq = W at *
        go_wp2_with (at_builtin; refine wpList_append_own_at _ rfl _ _ 29 rfl w.heap.size 3 i0 _ 1 8 Try.underlying29 hi hz0 hz1 hz2 rfl (by decide) _ ys.length (ints ys) rfl (own_on O2.out (al1 _ _)) ⟨_, 0, none⟩ 1 1 [.int .i64 (k : Int)] rfl rfl (cell_one_new _ _ _) (by simp [Value.oneCell']) (by unfold maxLen; omega) (by omega) (Nat.le_trans B2.size (al1 _ _).size) ?_)
        intro v' w2 o1 o2 o3 o4
        have O3 : Own w.heap.size w2 v' ((List.range (k + 1)).filter (isB l n)) := by
          rw [E1.out]
          unfold Own
          rw [ints_app, List.length_append]
          exact o1
        have B3 : Below w.heap.size w w2 := (B2.alloc B2.size _).grown o2 (Nat.le_trans B2.size (al1 _ _).size) (fun j hj => (World.ownsRow.lt O2.out _ hj).1)
        clear o1 o2 o3 o4
        go_wp2
        exact ⟨⟨k + 1, rfl, hlt, Lib.hid O3, B3⟩, by simp [intOf]; omega⟩
    · have g : decide ((k : Int) < (l.length : Int)) = false := by simp; omega
      have e : k = l.length := by omega
      have hO1 := hO.out
      rw [e, HF.out] at hO1
      have HO := Lib.hid hO1
      clear hO hO1 HF
      go_wp2
      go_ret
      exact ⟨_, rfl, HO.out, hB⟩
end Go.Proofs.Ytampfciacjifgaa
