/- Merge of the program. -/
import Derived.Test.YthdafpbmmfelpaaGreatDoorMp
import Derived.Deep.CutBlock
namespace Go.Proofs.YthdafpbmmfelpaaGreatDoor
open Go.ChangeShapes Go.WideShapes Go.ChangeAt Go.RowKit
set_option linter.unusedVariables false
set_option linter.unusedSimpArgs false

def bigB (b : Bar) : Bool := decide (b.count > 1000)
theorem clo60 (b : Bar) (w : World) : Calls Tryz.prog 60 #[b.val] w fun e w' => e = .returned (.bool (bigB b)) ∧ Below w.heap.size w w' := by
  have E := (Env.nil w).add w.heap.size 60 b.cs rfl
  unfold bigB
  rw [bcs] at E
  rw [vcs]
  obtain ⟨-, C0, C1, C2, C3, C4⟩ := s_b5 E
  go_enter Tryz.func60, Tryz.ntmps60
  go_wp2
  go_ret
  exact ⟨rfl, E.1⟩
set_option maxRecDepth 100000 in
theorem big_any (p : Option Addr) (l : List Bar) (cap : Nat) (w : World) (hS : Slb w p l cap) :
    Calls Tryz.prog 59 #[.slice p l.length cap, .func (.func 60) #[] #[]] w fun e w' => e = .returned (.bool (l.any bigB)) ∧ Below w.heap.size w w' := by
  have hm := hS.mx
  unfold maxLen at hm
  have h65 : Calls Tryz.prog 65 #[.slice p l.length cap, .func (.func 60) #[] #[]] w fun e w' => ∃ i : Int, e = .returned (.int .i64 i) ∧ decide (i ≥ 0) = l.any bigB ∧ Below w.heap.size w w' := by
    go_enter Tryz.func65, Tryz.ntmps65
    go_wp2
    go_loopw [8] (fun v wr => ∃ k : Nat, v = .int .i64 k ∧ k ≤ l.length ∧ Hid (∀ i (h : i < l.length), i < k → bigB l[i] = false) ∧ Below w.heap.size w wr) (fun v _ => l.length - (intOf v).toNat)
    case atStart => exact ⟨0, rfl, Nat.zero_le _, Lib.hid (fun i h h2 => absurd h2 (Nat.not_lt_zero i)), Below.refl _ _⟩
    case round =>
      obtain ⟨k, rfl, hk, hG, hB⟩ := hrel
      by_cases hlt : k < l.length
      · have g1 : decide ((k : Int) < (l.length : Int)) = true := by simp [hlt]
        have W1 : IntKind.i64.wrap ((k : Int) + 1) = ((k + 1 : Nat) : Int) := by rw [IntWalk.i64_in _ (by omega)]; omega
        have q1 : (0 : Int) ≤ (k : Int) := by omega
        have q2 : (k : Int) < (l.length : Int) := by omega
        obtain ⟨a, rfl, c0, c1, c2, c3, c4⟩ := (hS.on hB).at_ k hlt
        have hb := clo60 l[k] wr
        have HV : Hid (∃ v, v = bigB l[k]) := Lib.hid ⟨_, rfl⟩
        obtain ⟨V, hV⟩ := HV.out
        rw [← hV] at hb
        have HVV := Lib.hid hV
        clear hV HV
        rw [vcs] at hb
        cases V
        · generalize l[k].mark = mk at *
          generalize l[k].size = sz at *
          generalize l[k].count = ct at *
          generalize l[k].code = cd at *
          generalize l[k].ds.length = dl at *
          generalize l[k].cap = dc at *
          generalize l[k].p = dp at *
          go_wp2_with (go_at_call 60; (with_reducible refine hb.mono ?_); rintro e1 w1 ⟨rfl, hb1⟩)
          refine ⟨⟨k + 1, rfl, hlt, Lib.hid fun i h h2 => ?_, belows hB hb1⟩, by simp [intOf]; omega⟩
          rcases Nat.lt_or_ge i k with h3 | h3
          · exact hG.out i h h3
          · obtain rfl : i = k := by omega
            exact HVV.out.symm
        · have e : l.any bigB = true := List.any_eq_true.2 ⟨_, List.getElem_mem hlt, HVV.out.symm⟩
          generalize l[k].mark = mk at *
          generalize l[k].size = sz at *
          generalize l[k].count = ct at *
          generalize l[k].code = cd at *
          generalize l[k].ds.length = dl at *
          generalize l[k].cap = dc at *
          generalize l[k].p = dp at *
          go_wp2_with (go_at_call 60; (with_reducible refine hb.mono ?_); rintro e1 w1 ⟨rfl, hb1⟩)
          go_ret
          exact ⟨_, rfl, by rw [e]; simp, belows hB hb1⟩
      · have g1 : decide ((k : Int) < (l.length : Int)) = false := by simp; omega
        have e : l.any bigB = false := List.any_eq_false.2 fun x hx => by
          obtain ⟨i, hi, rfl⟩ := List.mem_iff_getElem.1 hx
          simp [hG.out i hi (by omega)]
        go_wp2
        go_ret
        exact ⟨-1, rfl, by rw [e]; rfl, hB⟩
  go_enter Tryz.func59, Tryz.ntmps59
  go_wp2_with (go_at_call 65; (with_reducible refine h65.mono ?_); rintro e1 w1 ⟨i, rfl, hi, hb1⟩)
  go_ret
  exact ⟨rfl, hb1⟩
set_option maxHeartbeats 8000000 in
set_option maxRecDepth 100000 in
theorem Merge_arg (p q : Option Addr) (a b : List Bar) (cp cq : Nat) (w : World) (hA : Slb w p a cp) (hB : Slb w q b cq) (hv : validL a = false ∨ validL b = false) :
    Calls Tryz.prog 27 #[.slice p a.length cp, .slice q b.length cq] w fun e w' => e = .returned (.tuple #[.slice none 0 0, .int .i64 1]) ∧ Below w.heap.size w w' := by
  have h1 := Valid_list p a cp w hA
  have h2 := fun W (h : Below w.heap.size w W) => Valid_list q b cq W (hB.on h)
  cases hva : validL a
  · rw [hva] at h1
    go_enter Tryz.func27, Tryz.ntmps27
    go_wp2_with (go_at_call 15; (with_reducible refine h1.mono ?_); rintro X w1 ⟨rfl, hb1⟩)
    exact bodyPost_ret (v := .tuple #[.slice none 0 0, .int .i64 1]) (by simp [results, Tryz.results27, go_sem]) rfl ⟨rfl, hb1⟩
  · have hvb : validL b = false := by rcases hv with h | h; rw [h] at hva; cases hva; exact h
    rw [hva] at h1
    rw [hvb] at h2
    have hw : Below w.heap.size w w := Below.refl _ _
    go_enter Tryz.func27, Tryz.ntmps27
    go_wp2_with (first
      | (go_at_call 15; (with_reducible refine h1.mono ?_); rintro X w1 ⟨rfl, hb1⟩)
      | (go_at_call 15; (with_reducible refine (h2 _ hb1).mono ?_); rintro X w2 ⟨rfl, hb2⟩))
    exact bodyPost_ret (v := .tuple #[.slice none 0 0, .int .i64 1]) (by simp [results, Tryz.results27, go_sem]) rfl ⟨rfl, belows hb1 hb2⟩
end Go.Proofs.YthdafpbmmfelpaaGreatDoor
