/- The reference's InForest and Forest. -/
import Derived.Test.YtampfciacjifgaaLbl
namespace Go.Proofs.Ytampfciacjifgaa
open Go.ChangeShapes Go.WideShapes Go.ChangeAt Go.RowKit
set_option linter.unusedVariables false
set_option linter.unusedSimpArgs false

theorem labels_pre (p : Option Addr) (n most : Nat) (l : List (Nat × Nat)) (cap : Nat) (w : World) (hG : Gr w p n l) (hmost : most ≤ l.length) :
    Calls Try.prog 44 #[.int .i64 n, .slice p l.length cap, .int .i64 most, .int .i64 (-1)] w fun e w' => ∃ v, e = .returned v ∧ Own w.heap.size w' v ((List.range n).map (pre l most)) ∧ Below w.heap.size w w' := by
  refine (labels_any p n most (-1) l cap w hG hmost).mono ?_
  rintro e w' ⟨v, xs, rfl, ho, hn, hL, hb⟩
  have : xs = (List.range n).map (pre l most) := lf_list hn fun j => hL.uniq (pre_lab l most hmost) j
  exact ⟨v, rfl, this ▸ ho, hb⟩
/-- Labels, as a slice. -/
theorem lab_form {B n : Nat} {w : World} {v : Value} {R : Nat → Nat} (h : Own B w v ((List.range n).map R)) (hn : 0 < n) : ∃ g c, v = .slice (some ⟨g, 0, none⟩) n c ∧ g < w.heap.size ∧ ∀ j, j < n → w.cell? ⟨g, j, none⟩ = some (.int .i64 (R j : Nat)) := by
  have hl : ((List.range n).map R).length = n := by simp
  obtain ⟨g, c, rfl, hB, hg⟩ := World.ownsRow.form h (by omega)
  refine ⟨g, c, by rw [hl], hg, fun j hj => ?_⟩
  have := Own.cell (n := ((List.range n).map R).length) h rfl (j := j) (by omega)
  rw [this]; simp
set_option maxRecDepth 100000 in
set_option maxHeartbeats 2000000 in
theorem inforest_any (p : Option Addr) (n i : Nat) (l : List (Nat × Nat)) (cap : Nat) (w : World) (hG : Gr w p n l) (hi : i < l.length) :
    Calls Try.prog 45 #[.int .i64 n, .slice p l.length cap, .int .i64 i] w fun e w' => e = .returned (.bool (joins l i)) ∧ Below w.heap.size w w' := by
  have hm := hG.2.1
  have hn := hG.2.2.1
  have q1 : (0 : Int) ≤ (i : Int) := by omega
  have q2 : (i : Int) < (l.length : Int) := by omega
  go_enter Try.func45, Try.ntmps45
  go_wp2_with (go_at_call 44; (with_reducible refine (labels_pre p n i l cap _ hG (Nat.le_of_lt hi)).mono ?_); rintro e w1 ⟨v, rfl, hO, hb⟩)
  obtain ⟨a, rfl, c0, c1, l1, l2, ne⟩ := (hG.on hb).at hi
  obtain ⟨g, c, rfl, hg, hc⟩ := lab_form hO (by omega)
  have ca := hc _ l1
  have cb := hc _ l2
  have HJ := Lib.hid (joins_at hi)
  obtain ⟨x, hx⟩ : ∃ x, x = l[i].1 := ⟨_, rfl⟩
  obtain ⟨y, hy⟩ : ∃ y, y = l[i].2 := ⟨_, rfl⟩
  rw [← hx, ← hy] at HJ
  rw [← hx] at c0 l1 ca
  rw [← hy] at c1 l2 cb
  obtain ⟨va, hva⟩ : ∃ va, va = pre l i x := ⟨_, rfl⟩
  obtain ⟨vb, hvb⟩ : ∃ vb, vb = pre l i y := ⟨_, rfl⟩
  rw [← hva] at ca
  rw [← hvb] at cb
  rw [← hva, ← hvb] at HJ
  clear hx hy hva hvb hc hO
  have q3 : (0 : Int) ≤ (x : Int) := by omega
  have q4 : (x : Int) < (n : Int) := by omega
  have q5 : (0 : Int) ≤ (y : Int) := by omega
  have q6 : (y : Int) < (n : Int) := by omega
  go_quiet (fail)
  go_wp2
  go_ret
  refine ⟨?_, below_drewN hb _⟩
  rw [HJ.out]
  refine congrArg (fun b => Ending.returned (.bool b)) ?_
  by_cases h : va = vb
  · subst h; simp
  · simp [h]; omega
set_option maxRecDepth 100000 in
set_option maxHeartbeats 2000000 in
theorem rforest_any (p : Option Addr) (n : Nat) (l : List (Nat × Nat)) (cap : Nat) (w : World) (hG : Gr w p n l) :
    Calls Try.prog 18 #[.int .i64 n, .slice p l.length cap] w fun e w' => ∃ v, e = .returned v ∧ Own w.heap.size w' v (inF l l.length) ∧ Below w.heap.size w w' := by
  have hm := hG.2.1
  have hn := hG.2.2.1
  obtain ⟨i0, hi, hz0, hz1, hz2⟩ := info_parts info3
  go_enter Try.func18, Try.ntmps18
  go_wp2
  go_loopw [5, 6] (fun v5 v wr => ∃ k : Nat, v = .int .i64 k ∧ k ≤ l.length ∧ Hid (Own w.heap.size wr v5 (inF l k)) ∧ Below w.heap.size w wr) (fun _ v _ => l.length - (intOf v).toNat)
  case atStart => exact ⟨0, rfl, Nat.zero_le _, Lib.hid (World.ownsRow_nil _ _ _ _), Below.refl _ _⟩
  case round =>
    obtain ⟨k, rfl, hk, hO, hB⟩ := hrel
    by_cases hlt : k < l.length
    · have g : decide ((k : Int) < (l.length : Int)) = true := by simp [hlt]
      have W1 : IntKind.i64.wrap ((k : Int) + 1) = ((k + 1 : Nat) : Int) := by rw [IntWalk.i64_in _ (by omega)]; omega
      have hI := fun w h => inforest_any p n k l cap w h hlt
      have hkl := inF_len l k
      have e1 := inF_next l k
      cases hj : joins l k
      · rw [hj] at hI e1
        simp only [Bool.false_eq_true, if_false, List.append_nil] at e1
        have E1 := Lib.hid e1
        clear e1
        go_wp2_with (go_at_call 45; (with_reducible refine (hI _ (hG.on hB)).mono ?_); rintro e w1 ⟨rfl, hb⟩)
        exact ⟨⟨k + 1, rfl, hlt, Lib.hid (by rw [E1.out]; exact own_on hO.out hb), belows hB hb⟩, by simp [intOf]; omega⟩
      · rw [hj] at hI e1
        simp only [if_true] at e1
        have E1 := Lib.hid e1
        clear e1
        go_wp2_with (first
          | (go_at_call 45; (with_reducible refine (hI _ (hG.on hB)).mono ?_); rintro e w1 ⟨rfl, hb⟩; have O1 := Lib.hid (own_on hO.out hb); have B1 := belows hB hb; clear hb)
          | (at_builtin; refine wpList_append_own_at _ rfl _ _ 29 rfl w.heap.size 3 i0 _ 1 8 Try.underlying29 hi hz0 hz1 hz2 rfl (by decide) _ (inF l k).length (ints (inF l k)) rfl (own_on O1.out (al1 _ _)) ⟨_, 0, none⟩ 1 1 [.int .i64 (k : Int)] rfl rfl (cell_one_new _ _ _) (by simp [Value.oneCell']) (by unfold maxLen; omega) (by omega) (Nat.le_trans B1.size (al1 _ _).size) ?_))
        intro v' w2 o1 o2 o3 o4
        have O2 : Own w.heap.size w2 v' (inF l (k + 1)) := by
          rw [E1.out]
          unfold Own
          rw [ints_app, List.length_append]
          exact o1
        have B2 : Below w.heap.size w w2 := (B1.alloc B1.size _).grown o2 (Nat.le_trans B1.size (al1 _ _).size) (fun j hj => (World.ownsRow.lt O1.out _ hj).1)
        clear o1 o2 o3 o4
        go_wp2
        exact ⟨⟨k + 1, rfl, hlt, Lib.hid O2, B2⟩, by simp [intOf]; omega⟩
    · have g : decide ((k : Int) < (l.length : Int)) = false := by simp; omega
      have e : k = l.length := by omega
      subst e
      go_wp2
      go_ret
      exact ⟨_, rfl, hO.out, hB⟩
end Go.Proofs.Ytampfciacjifgaa
