/- Contains at pairs. -/
import Derived.Test.YteofbbakegcohaaTj
import Derived.Test.YteofbbakegcohaaLawL
namespace Go.Proofs.Yteofbbakegcohaa
open Go.ChangeShapes Go.WideShapes Go.ChangeAt Go.RowKit
set_option linter.unusedVariables false
set_option linter.unusedSimpArgs false


theorem run_eql42 (w : World) (a b c d : Int) : (binOp .eql 42 (.agg #[.int .i64 a, .int .i64 b]) (.agg #[.int .i64 c, .int .i64 d])).run Try.prog w = .ok (.bool (decide (a = c) && decide (b = d))) w := by
  have u3 : Try.prog.underlying 3 = some (.int .i64) := Try.underlying3
  have hsz : ∀ w, (sizeOf 3).run Try.prog w = .ok 1 w := fun w => by kernel_rfl
  have p0 : ∀ (x y : Int), (part 3 #[.int .i64 x, .int .i64 y] 0).run Try.prog w = .ok (.int .i64 x) w := fun x y => by simp [part, isAgg, run_underlying u3]
  have p1 : ∀ (x y : Int), (part 3 #[.int .i64 x, .int .i64 y] 1).run Try.prog w = .ok (.int .i64 y) w := fun x y => by simp [part, isAgg, run_underlying u3]
  rw [run_eql_struct]
  have key : (Op.equalIn 10000 42 (.agg #[.int .i64 a, .int .i64 b]) (.agg #[.int .i64 c, .int .i64 d])).run Try.prog w = .ok (decide (a = c) && decide (b = d)) w := by
    rw [show (10000 : Nat) = 9998 + 2 from rfl, Op.equalIn]
    simp only [Sem.run_bind, run_underlying Try.underlying42, Result.andThen_ok, hsz, Std.Legacy.Range.forIn_eq_forIn_range', Std.Legacy.Range.size, Nat.sub_zero, Nat.add_sub_cancel, Nat.div_one]
    have e : List.range' 0 2 1 = [0, 1] := rfl
    rw [e]
    have e0 : ∀ x y : Int, (Op.equalIn 9999 3 (.int .i64 x) (.int .i64 y)).run Try.prog w = .ok (x == y) w := fun x y => run_equalIn_int w 9998 3 .i64 .i64 x y u3
    simp only [List.forIn_cons, List.forIn_nil, Sem.run_bind, Nat.mul_one, Nat.zero_mul, p0, p1, Result.andThen_ok]
    by_cases h1 : a = c
    · subst h1
      by_cases h2 : b = d
      · subst h2; simp [p0, p1, e0]
      · simp [p0, p1, e0, h2]
    · simp [p0, p1, e0, h1]
  rw [key, Result.andThen_ok]
theorem pair_mem {l : List (Int × Int)} {k : Nat} (hk : k < l.length) {x y : Int} (h : (decide (x = l[k].1) && decide (y = l[k].2)) = true) : l.contains (x, y) = true := by
  rw [List.contains_iff_mem]
  simp only [Bool.and_eq_true, decide_eq_true_eq] at h
  rw [h.1, h.2]; exact List.getElem_mem hk
set_option maxRecDepth 100000 in
theorem pidx_any (p : Option Addr) (l : List (Int × Int)) (cap : Nat) (x y : Int) (w : World) (hS : Sl w p l) :
    Calls Try.prog 53 #[.slice p l.length cap, .agg #[.int .i64 x, .int .i64 y]] w fun e w' => ∃ i : Int, e = .returned (.int .i64 i) ∧ decide (0 ≤ i) = l.contains (x, y) ∧ Below w.heap.size w w' := by
  have hm := hS.2.2.1
  unfold maxLen at hm
  have C := Has.new_ w 42 #[.int .i64 x, .int .i64 y]
  have b1 := al1 w (.cells #[.int .i64 x, .int .i64 y] 42)
  have CH := Lib.hid C
  clear C
  go_enter Try.func53, Try.ntmps53
  go_wp2
  go_loopw [8] (fun v wr => ∃ k : Nat, v = .int .i64 k ∧ k ≤ l.length ∧ Hid (∀ e ∈ l.take k, (decide (x = e.1) && decide (y = e.2)) = false) ∧ Below (w.alloc (.cells #[.int .i64 x, .int .i64 y] 42)).heap.size (w.alloc (.cells #[.int .i64 x, .int .i64 y] 42)) wr) (fun v _ => l.length - (intOf v).toNat)
  case atStart => exact ⟨0, rfl, Nat.zero_le _, Lib.hid (by simp), Below.refl _ _⟩
  case round =>
    obtain ⟨k, rfl, hk, hG, hB⟩ := hrel
    by_cases hlt : k < l.length
    · have g1 : decide ((k : Int) < (l.length : Int)) = true := by simp [hlt]
      obtain ⟨a, rfl, c0, c1⟩ := ((hS.on b1).on hB).at hlt
      have W1 : IntKind.i64.wrap ((k : Int) + 1) = ((k + 1 : Nat) : Int) := by rw [IntWalk.i64_in _ (by omega)]; omega
      have CR := Has.on CH.out hB
      have C0 := CR.read 0
      have C1 := CR.read 1
      have HT : Hid (∀ e ∈ l.take (k + 1), e ∈ l.take k ∨ e = l[k]) := Lib.hid fun x hx => by
        rw [List.take_succ_eq_append_getElem hlt, List.mem_append] at hx
        rcases hx with hx | hx
        · exact .inl hx
        · exact .inr (List.mem_singleton.1 hx)
      have HY := Lib.hid (fun h => pair_mem (x := x) (y := y) hlt h)
      obtain ⟨s, hs⟩ : ∃ s, s = l[k].1 := ⟨_, rfl⟩
      obtain ⟨t, ht⟩ : ∃ t, t = l[k].2 := ⟨_, rfl⟩
      rw [← hs] at c0 HY
      rw [← ht] at c1 HY
      have HQ : Hid (s = l[k].1 ∧ t = l[k].2) := Lib.hid ⟨hs, ht⟩
      clear hs ht
      have q42 := fun w => run_eql42 w x y s t
      clear CR
      cases hv : (decide (x = s) && decide (y = t))
      · rw [hv] at q42
        have HG : Hid (∀ e ∈ l.take (k + 1), (decide (x = e.1) && decide (y = e.2)) = false) := Lib.hid fun e he => by
          rcases HT.out e he with h | h
          · exact hG.out e h
          · rw [h, ← HQ.out.1, ← HQ.out.2]; exact hv
        clear hv
        go_wp2_with fail
        go_quiet (fail)
        go_wp2
        exact ⟨⟨k + 1, rfl, hlt, HG, below_drewN hB _⟩, by simp [intOf]; omega⟩
      · rw [hv] at q42
        have HE := Lib.hid (HY.out hv)
        clear hv
        go_wp2_with fail
        go_quiet (fail)
        go_wp2
        go_ret
        exact ⟨_, rfl, by rw [HE.out]; simp, below_drewN (belows b1 hB) _⟩
    · have g1 : decide ((k : Int) < (l.length : Int)) = false := by simp; omega
      have HE : Hid (l.contains (x, y) = false) := Lib.hid (by
        cases e : l.contains (x, y)
        · rfl
        · have hm := List.contains_iff_mem.1 e
          have := hG.out (x, y) (by rw [List.take_of_length_le (by omega)]; exact hm)
          simp at this)
      go_wp2
      go_ret
      exact ⟨_, rfl, by rw [HE.out]; rfl, belows b1 hB⟩
theorem pcon_any (p : Option Addr) (l : List (Int × Int)) (cap : Nat) (x y : Int) (w : World) (hS : Sl w p l) :
    Calls Try.prog 24 #[.slice p l.length cap, .agg #[.int .i64 x, .int .i64 y]] w fun e w' => e = .returned (.bool (l.contains (x, y))) ∧ Below w.heap.size w w' := by
  have C := Has.new_ w 42 #[.int .i64 x, .int .i64 y]
  have b1 := al1 w (.cells #[.int .i64 x, .int .i64 y] 42)
  have C0 := C.read 0
  have C1 := C.read 1
  have h := pidx_any p l cap x y _ (hS.on b1)
  obtain ⟨B, hB⟩ : ∃ B, B = l.contains (x, y) := ⟨_, rfl⟩
  rw [← hB] at h ⊢
  clear hB
  clear C
  go_enter Try.func24, Try.ntmps24
  go_wp2_with (go_at_call 53; (with_reducible refine h.mono ?_); rintro e w' ⟨i, rfl, hi, hb⟩)
  go_ret
  exact ⟨rfl, belows b1 hb⟩
end Go.Proofs.Yteofbbakegcohaa
