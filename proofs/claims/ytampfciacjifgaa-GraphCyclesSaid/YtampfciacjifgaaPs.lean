/- The parts of a graph: Parts; the reference's Valid. -/
import Derived.Test.YtampfciacjifgaaPrt
namespace Go.Proofs.Ytampfciacjifgaa
open Go.ChangeShapes Go.WideShapes Go.ChangeAt Go.RowKit
set_option linter.unusedVariables false
set_option linter.unusedSimpArgs false

theorem Nest.mono {B B' : Nat} {w : World} {v : Value} {ls : List (List Nat)} (h : Nest B w v ls) (hB : B' ≤ B) : Nest B' w v ls := by
  obtain ⟨vs, o, I⟩ := h
  have mo : ∀ {e s n : Nat} {y : Value} {ys : List Value}, w.ownsRow B e s y n ys → w.ownsRow B' e s y n ys := fun h => by
    obtain ⟨hl, h0 | ⟨g, cap, cur, rfl, hg, r⟩⟩ := h
    · exact ⟨hl, .inl h0⟩
    · exact ⟨hl, .inr ⟨g, cap, cur, rfl, Nat.le_trans hB hg, r⟩⟩
  exact ⟨vs, mo o, I.len, fun i u xs a b => mo (I.own i u xs a b), I.dis, I.out⟩

set_option maxRecDepth 100000 in
set_option maxHeartbeats 2000000 in
theorem parts_ok (p : Option Addr) (n : Nat) (l : List (Nat × Nat)) (cap : Nat) (w : World) (hG : Gr w p n l) :
    Calls Try.prog 11 #[.int .i64 n, .slice p l.length cap] w fun e w' => ∃ v, e = .returned (.tuple #[v, .int .i64 0]) ∧ Nest w.heap.size w' v (partsL (pre l l.length) n) ∧ Below w.heap.size w w' := by
  have hm := hG.2.1
  have hn := hG.2.2.1
  go_enter Try.func11, Try.ntmps11
  go_wp2_with (first
    | (go_at_call 14; (with_reducible refine (valid_ok cap hG).mono ?_); rintro e w1 ⟨rfl, b1⟩)
    | (go_at_call 37; (with_reducible refine (alone_any n _ hn).mono ?_); rintro e w2 ⟨rfl, h2, B2⟩))
  have b2 : Below w.heap.size w w2 := belows b1 B2
  have hS : w.heap.size ≤ w1.heap.size := b1.size
  clear b1 B2
  go_loopw [17] (fun v wr => ∃ k : Nat, v = .int .i64 k ∧ k ≤ l.length ∧ Hid (Sets wr w1.heap.size n (pre l k)) ∧ Below w.heap.size w wr) (fun v _ => l.length - (intOf v).toNat)
  case atStart => exact ⟨0, rfl, Nat.zero_le _, Lib.hid h2, b2⟩
  case round =>
    clear h2 b2
    obtain ⟨k, rfl, hk, hD, hB⟩ := hrel
    by_cases hlt : k < l.length
    · have g : decide ((k : Int) < (l.length : Int)) = true := by simp [hlt]
      obtain ⟨a, rfl, c0, c1, l1, l2, -⟩ := (hG.on hB).at hlt
      have W1 : IntKind.i64.wrap ((k : Int) + 1) = ((k + 1 : Nat) : Int) := by rw [IntWalk.i64_in _ (by omega)]; omega
      have E := hD.out.on (al1 wr (.cells #[.int .i64 (l[k].1 : Nat), .int .i64 (l[k].2 : Nat)] 46))
      have C := Has.new_ wr 46 #[.int .i64 (l[k].1 : Nat), .int .i64 (l[k].2 : Nat)]
      have C0 := C.read 0
      have C1 := C.read 1
      have EB := hB.alloc (by have := hB.size; omega) (.cells #[.int .i64 (l[k].1 : Nat), .int .i64 (l[k].2 : Nat)] 46)
      go_wp2_with (go_at_call 38; (with_reducible refine (join_any w1.heap.size n _ _ (pre l k) _ hn E l1 l2).mono ?_); rintro e w3 ⟨rfl, h3, A3⟩)
      exact ⟨⟨k + 1, rfl, hlt, Lib.hid (by rw [pre_next hlt]; exact h3), EB.trans (A3.below hS)⟩, by simp [intOf]; omega⟩
    · have g : decide ((k : Int) < (l.length : Int)) = false := by simp; omega
      have e : k = l.length := by omega
      subst e
      go_wp2_with (go_at_call 39; (with_reducible refine (parts_any w.heap.size w1.heap.size n (pre l l.length) _ hn hS hD.out).mono ?_); rintro e w3 ⟨v, rfl, h3, A3⟩)
      refine bodyPost_ret (v := .tuple #[v, .int .i64 0]) (by simp [results, Try.results11, go_sem]) rfl ⟨v, rfl, h3.mono (by have := hB.size; omega), hB.trans A3⟩
set_option maxRecDepth 100000 in
theorem parts_no (p : Option Addr) (n : Int) (l : List (Int × Int)) (cap : Nat) (w : World) (hS : Sl w p l) (h : vG n l = false) :
    Calls Try.prog 11 #[.int .i64 n, .slice p l.length cap] w fun e w' => e = .returned (.tuple #[.slice none 0 0, .int .i64 1]) ∧ Below w.heap.size w w' := by
  have hv := valid_any p l cap n w hS
  rw [h] at hv
  go_enter Try.func11, Try.ntmps11
  go_wp2_with (go_at_call 14; (with_reducible refine hv.mono ?_); rintro e w1 ⟨rfl, b1⟩)
  exact bodyPost_ret (v := .tuple #[.slice none 0 0, .int .i64 1]) (by simp [results, Try.results11, go_sem]) rfl ⟨rfl, b1⟩

theorem all_no {l : List (Int × Int)} {n : Int} {k : Nat} (hk : k < l.length) (h : okE n l[k] = false) : l.all (okE n) = false := List.all_eq_false.2 ⟨_, List.getElem_mem hk, by simp [h]⟩
set_option maxRecDepth 100000 in
set_option maxHeartbeats 4000000 in
theorem rvalid_any (p : Option Addr) (l : List (Int × Int)) (cap : Nat) (n : Int) (w : World) (hS : Sl w p l) :
    Calls Try.prog 13 #[.int .i64 n, .slice p l.length cap] w fun e w' => e = .returned (.bool (vG n l)) ∧ Below w.heap.size w w' := by
  by_cases h1 : n < 0
  · go_enter Try.func13, Try.ntmps13
    go_wp2
    go_ret
    exact ⟨by rw [show vG n l = false by simp [vG]; omega]; rfl, Below.refl _ _⟩
  by_cases h2 : 1000 < n
  · go_enter Try.func13, Try.ntmps13
    go_wp2
    go_ret
    exact ⟨by rw [show vG n l = false by simp [vG]; omega]; rfl, Below.refl _ _⟩
  by_cases h3 : 4000 < l.length
  · have h4 : (4000 : Int) < l.length := by omega
    go_enter Try.func13, Try.ntmps13
    go_wp2
    go_ret
    exact ⟨by rw [show vG n l = false by simp [vG]; omega]; rfl, Below.refl _ _⟩
  · have h4 : ¬ (4000 : Int) < l.length := by omega
    have e : vG n l = l.all (okE n) := by simp [vG]; intro _; omega
    rw [e]
    clear e
    go_enter Try.func13, Try.ntmps13
    go_wp2
    go_loopw [5] (fun v wr => ∃ k : Nat, v = .int .i64 k ∧ k ≤ l.length ∧ Hid (∀ x ∈ l.take k, okE n x = true) ∧ Below w.heap.size w wr) (fun v _ => l.length - (intOf v).toNat)
    case atStart => exact ⟨0, rfl, Nat.zero_le _, Lib.hid (by simp), Below.refl _ _⟩
    case round =>
      obtain ⟨k, rfl, hk, hG, hB⟩ := hrel
      by_cases hlt : k < l.length
      · have g1 : decide ((k : Int) < (l.length : Int)) = true := by simp [hlt]
        obtain ⟨a, rfl, c0, c1⟩ := (hS.on hB).at hlt
        have W1 : IntKind.i64.wrap ((k : Int) + 1) = ((k + 1 : Nat) : Int) := by rw [IntWalk.i64_in _ (by omega)]; omega
        have b0 : (0 : Int) ≤ (k : Int) := by omega
        have b1 : (k : Int) < (l.length : Int) := by omega
        obtain ⟨x, hx⟩ : ∃ x, x = l[k].1 := ⟨_, rfl⟩
        obtain ⟨y, hy⟩ : ∃ y, y = l[k].2 := ⟨_, rfl⟩
        rw [← hx] at c0
        rw [← hy] at c1
        have HX := Lib.hid hx
        have HY := Lib.hid hy
        clear hx hy
        go_wp2_with fail
        go_quiet (fail)
        have hB2 := below_drewN hB nq
        by_cases k1 : x < 0
        · go_wp2
          go_ret
          exact ⟨by rw [all_no hlt (by simp [okE, wi, ← HX.out, ← HY.out]; omega)]; rfl, hB2⟩
        by_cases k2 : n ≤ x
        · go_wp2
          go_ret
          exact ⟨by rw [all_no hlt (by simp [okE, wi, ← HX.out, ← HY.out]; omega)]; rfl, hB2⟩
        by_cases k3 : y < 0
        · go_wp2
          go_ret
          exact ⟨by rw [all_no hlt (by simp [okE, wi, ← HX.out, ← HY.out]; omega)]; rfl, hB2⟩
        by_cases k4 : n ≤ y
        · go_wp2
          go_ret
          exact ⟨by rw [all_no hlt (by simp [okE, wi, ← HX.out, ← HY.out]; omega)]; rfl, hB2⟩
        by_cases k5 : x = y
        · have k6 : (x == y) = true := by simp [k5]
          have HE := Lib.hid k5
          clear k5
          go_wp2
          go_ret
          exact ⟨by rw [all_no hlt (by have := HE.out; simp [okE, wi, ← HX.out, ← HY.out, this])]; rfl, hB2⟩
        · have k6 : (x == y) = false := by simp [k5]
          have hv : okE n l[k] = true := by simp [okE, wi, ← HX.out, ← HY.out, k5]; omega
          go_wp2
          exact ⟨⟨k + 1, rfl, hlt, Lib.hid (all_drop hlt hG.out hv), hB2⟩, by simp [intOf]; omega⟩
      · have g1 : decide ((k : Int) < (l.length : Int)) = false := by simp; omega
        go_wp2
        go_ret
        have := hG.out
        rw [List.take_of_length_le (by omega)] at this
        have e : l.all (okE n) = true := List.all_eq_true.2 this
        exact ⟨by rw [e]; rfl, hB⟩
end Go.Proofs.Ytampfciacjifgaa
