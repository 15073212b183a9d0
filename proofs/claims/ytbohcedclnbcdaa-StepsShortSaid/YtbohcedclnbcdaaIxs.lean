/- slices.IndexFunc at the law's closure, slices.Clone of steps, slices.Insert whole. -/
import Derived.Test.YtbohcedclnbcdaaIns
import Derived.Test.YtbohcedclnbcdaaP3
namespace Go.Proofs.Ytbohcedclnbcdaa
open Go.ChangeShapes Go.WideShapes Go.ChangeAt Go.RowKit
set_option linter.unusedVariables false
set_option linter.unusedSimpArgs false

theorem clo33 (c : Nat) (s t x : Int) (w : World) (hc : w.cell? ⟨c, 0, none⟩ = some (.int .i64 x)) :
    Calls Try.prog 33 #[.agg #[.int .i64 s, .int .i64 t], .pointer (some ⟨c, 0, none⟩)] w fun e w' => e = .returned (.bool (decide (x ≤ s))) ∧ Below w.heap.size w w' := by
  have b1 := al1 w (.cells #[.int .i64 s, .int .i64 t] 34)
  have cc := cell_later b1 hc
  go_enter Try.func33, Try.ntmps33
  go_wp2
  go_ret
  exact ⟨rfl, b1⟩
theorem idx33 (c : Nat) (x : Int) (p : Option Addr) (l : List Stp) (cap : Nat) (w : World) (hS : Sl w p l) (hl : l.length ≤ 1000) (hc : w.cell? ⟨c, 0, none⟩ = some (.int .i64 x)) :
    Calls Try.prog 32 #[.slice p l.length cap, .func (.func 33) #[] #[.pointer (some ⟨c, 0, none⟩)]] w fun e w' => e = .returned (.int .i64 (if ix x l < l.length then (ix x l : Int) else -1)) ∧ Below w.heap.size w w' := by
  have hle := ix_le x l
  have HF := Lib.hid (ix_lt x l)
  have HA := Lib.hid (ix_at x l)
  obtain ⟨R, hR⟩ : ∃ R : Int, R = if ix x l < l.length then (ix x l : Int) else -1 := ⟨_, rfl⟩
  rw [← hR]
  have HR0 := Lib.hid hR
  clear hR
  go_enter Try.func32, Try.ntmps32
  go_wp2
  go_loopw [8] (fun v wr => ∃ k : Nat, v = .int .i64 k ∧ k ≤ ix x l ∧ Below w.heap.size w wr) (fun v _ => l.length - (intOf v).toNat)
  case atStart => exact ⟨0, rfl, Nat.zero_le _, Below.refl _ _⟩
  case round =>
    obtain ⟨k, rfl, hk, hB⟩ := hrel
    by_cases hlt : k < l.length
    · have g1 : decide ((k : Int) < (l.length : Int)) = true := by simp [hlt]
      have W1 : IntKind.i64.wrap ((k : Int) + 1) = ((k + 1 : Nat) : Int) := by rw [IntWalk.i64_in _ (by omega)]; omega
      have q1 : (0 : Int) ≤ (k : Int) := by omega
      have q2 : (k : Int) < (l.length : Int) := by omega
      obtain ⟨a, rfl, c0, c1⟩ := (hS.on hB).at hlt
      have hf := clo33 c l[k].1 l[k].2 x wr (cell_later hB hc)
      by_cases he : k = ix x l
      · have hx : x ≤ l[k].1 := by subst he; exact HA.out hlt
        have hlt2 : ix x l < l.length := by omega
        have HR : Hid (R = (k : Int)) := Lib.hid (by rw [HR0.out, if_pos hlt2, he])
        rw [decide_eq_true hx] at hf
        clear hx hlt2 he
        generalize l[k].1 = s at *
        generalize l[k].2 = t at *
        go_wp2_with (go_at_call 33; (with_reducible refine hf.mono ?_); rintro e1 w1 ⟨rfl, b1⟩)
        go_ret
        exact ⟨by rw [HR.out]; rfl, belows hB b1⟩
      · have hx : ¬ (x ≤ l[k].1) := by have := HF.out k (by omega) hlt; omega
        have hk2 : k + 1 ≤ ix x l := by omega
        rw [decide_eq_false hx] at hf
        clear hx he
        generalize l[k].1 = s at *
        generalize l[k].2 = t at *
        go_wp2_with (go_at_call 33; (with_reducible refine hf.mono ?_); rintro e1 w1 ⟨rfl, b1⟩)
        exact ⟨⟨k + 1, rfl, hk2, belows hB b1⟩, by simp [intOf]; omega⟩
    · have g1 : decide ((k : Int) < (l.length : Int)) = false := by simp; omega
      have HR : Hid (R = -1) := Lib.hid (by rw [HR0.out, if_neg (by omega)])
      go_wp2
      go_ret
      exact ⟨by rw [HR.out]; rfl, hB⟩
theorem fr_cells {w : World} {a : Addr} {l : List Stp} (hF : Fr w a l) (j : Nat) (u : Value) (hj : (cells l)[j]? = some u) : w.cell? (a.add j) = some u := by
  have hj2 : j < l.length * 2 := by rw [← cells_len]; exact (List.getElem?_eq_some_iff.1 hj).1
  obtain ⟨i, c, hc, rfl⟩ : ∃ i c, c < 2 ∧ j = i * 2 + c := ⟨j / 2, j % 2, by omega, by omega⟩
  have hil : i < l.length := by omega
  have g := cells_at l hil
  have f := hF i hil
  rcases (by omega : c = 0 ∨ c = 1) with rfl | rfl
  · rw [Nat.add_zero] at hj ⊢; rw [g.1] at hj; rw [f.1]; exact hj
  · rw [g.2] at hj
    have e : (⟨(a.add (i * 2)).block, (a.add (i * 2)).off + 1, none⟩ : Addr) = a.add (i * 2 + 1) := by
      unfold Addr.add
      by_cases hz : i * 2 = 0
      · simp [hz]
      · simp [hz]; omega
    rw [← e, f.2]; exact hj
set_option maxRecDepth 100000 in
set_option maxHeartbeats 2000000 in
theorem clone_any (p : Option Addr) (l : List Stp) (cap : Nat) (w : World) (hS : Sl w p l) (hl : l.length ≤ 1000) :
    Calls Try.prog 34 #[.slice p l.length cap] w fun e w' => ∃ v, e = .returned v ∧ OwnS w.heap.size w' v l ∧ Below w.heap.size w w' := by
  have q22 : ∀ (w : World) (a : Option Addr) (n c n' c' : Nat), (binOp .eql 22 (.slice a n c) (.slice none n' c')).run Try.prog w = .ok (.bool a.isNone) w := fun w a n c n' c' => Lib.run_eql_slice_nil w _ _ a n c n' c' Try.underlying22
  cases p with
  | none =>
    have e := hS.1 rfl
    subst e
    go_enter Try.func34, Try.ntmps34
    go_wp2
    go_ret
    exact ⟨_, rfl, OwnS.nil _ _, Below.refl _ _⟩
  | some a =>
    obtain ⟨i0, hi, hz0, hz1, hz2⟩ := info_parts info34
    have hF := hS.2.1 a rfl
    have hcl : ∀ j u, (cells l)[j]? = some u → (w.alloc (.cells #[] 34)).cell? (a.add j) = some u := fun j u h => fr_cells (hF.on (al1 w _)) j u h
    have hlen := cells_len l
    have hone := cells_one l
    clear hF hS
    generalize hN : cells l = news at *
    have HK := Lib.hid hN; clear hN
    go_enter Try.func34, Try.ntmps34
    go_wp2_with (at_builtin; refine wpList_append_own _ rfl _ _ 22 rfl w.heap.size 34 i0 _ 2 16 Try.underlying22 hi hz0 hz1 hz2 rfl (by decide) _ _ _ rfl (World.ownsRow_made w #[] 0 (Nat.le_refl _) (Nat.zero_le _) (by simp)) a l.length cap news rfl ?qc1 ?qc2 ?qc3 ?qc4 ?qc5 ?qc6 ?_)
    case qc1 => exact hlen
    case qc2 => exact hcl
    case qc3 => exact hone
    case qc4 => unfold maxLen; omega
    case qc5 => omega
    case qc6 => simp
    intro v' w1 hown hgrow hnil
    go_wp2
    go_ret
    rw [← HK.out] at hown
    exact ⟨v', rfl, hown, ((Below.refl _ w).alloc (Nat.le_refl _) _).grown hgrow (by simp) (by intro k hk; simp [Value.ownBlock] at hk; omega)⟩
theorem insert_any (B : Nat) (v : Value) (l : List Stp) (k vb : Nat) (x y : Int) (w : World) (ho : OwnS B w v l) (hl : l.length ≤ 1000) (hv : Has w vb 34 #[.int .i64 x, .int .i64 y]) (hne : v.ownBlock ≠ some vb) (hB : B ≤ w.heap.size) (hk : k ≤ l.length) :
    Calls Try.prog 35 #[v, .int .i64 k, .slice (some ⟨vb, 0, none⟩) 1 1] w fun e w' => ∃ v', e = .returned v' ∧ OwnS B w' v' (l.take k ++ (x, y) :: l.drop k) ∧ Below B w w' := by
  rcases Nat.lt_or_ge k l.length with h | h
  · have ho' := ho
    obtain ⟨hcl, ⟨-, h0⟩ | ⟨g, cap, cur, rfl, hBg, hg, hn, hcm, hsz, ht⟩⟩ := ho
    · omega
    · have hvg : vb ≠ g := fun e => hne (by rw [e]; rfl)
      rcases Nat.lt_or_ge cap (l.length + 1) with hc | hc
      · obtain rfl : cap = l.length := by omega
        exact insert_grow B g l k vb x y w ho' hl hv hvg h
      · exact insert_room B g cap l k vb x y w ho' hl hv hvg h hc
  · obtain rfl : k = l.length := by omega
    rw [List.take_length, List.drop_length]
    exact insert_end B v l vb x y w ho hl hv hB
end Go.Proofs.Ytbohcedclnbcdaa
