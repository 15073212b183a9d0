/- The reference's Nodes. -/
import Derived.Test.YteofbbakegcohaaCk
namespace Go.Proofs.Yteofbbakegcohaa
open Go.ChangeShapes Go.WideShapes Go.ChangeAt Go.RowKit
set_option linter.unusedVariables false
set_option linter.unusedSimpArgs false


set_option maxRecDepth 100000 in
set_option maxHeartbeats 2000000 in
theorem rnodes_any (n : Nat) (w : World) (o : Value) (os : List Int) (hn : n ≤ 1000) (hO : Rdz w o os) (hol : os.length ≤ 100000) :
    Calls Try.prog 18 #[.int .i64 n, o] w fun e w' => e = .returned (.int .i64 (codeN n os)) ∧ Below w.heap.size w w' := by
  obtain ⟨q, c, rfl, k1⟩ := hO
  have K1 := Lib.hid k1
  clear k1
  by_cases h1 : (os.length : Int) = (n : Int)
  · have hc : codeN n os = if os.any (outN n) = true then 2 else if os.Nodup then 0 else 10 := by unfold codeN; rw [if_neg (by simpa using h1)]
    have t1 : ((os.length : Int) != (n : Int)) = false := by simp [h1]
    have HC := Lib.hid hc
    obtain rfl : os.length = n := by omega
    obtain ⟨Z, hZ⟩ : ∃ Z, Z = codeN (os.length : Nat) os := ⟨_, rfl⟩
    rw [← hZ]
    have HZ := Lib.hid hZ
    clear hc h1 hZ
    go_enter Try.func18, Try.ntmps18
    go_wp2
    go_loop [5] (fun v => ∃ k : Nat, v = .int .i64 k ∧ k ≤ os.length ∧ Hid (∀ x ∈ os.take k, outN os.length x = false)) (fun v => os.length - (intOf v).toNat)
    case atStart => exact ⟨0, rfl, Nat.zero_le _, Lib.hid (by simp)⟩
    case round =>
      obtain ⟨k, rfl, hk, hG⟩ := hrel
      by_cases hlt : k < os.length
      · have g1 : decide ((k : Int) < (os.length : Int)) = true := by simp [hlt]
        have W1 : IntKind.i64.wrap ((k : Int) + 1) = ((k + 1 : Nat) : Int) := by rw [IntWalk.i64_in _ (by omega)]; omega
        have q1 : (0 : Int) ≤ (k : Int) := by omega
        have q2 : (k : Int) < (os.length : Int) := by omega
        obtain ⟨a, rfl, d0⟩ := K1.out k hlt
        have HM : Hid (outN os.length os[k] = true → os.any (outN os.length) = true) := Lib.hid fun h => List.any_eq_true.2 ⟨_, List.getElem_mem hlt, h⟩
        have HT : Hid (outN os.length os[k] = false → ∀ x ∈ os.take (k + 1), outN os.length x = false) := Lib.hid fun h x hx => by
          rw [List.take_succ_eq_append_getElem hlt, List.mem_append] at hx
          rcases hx with hx | hx
          · exact hG.out x hx
          · rw [List.mem_singleton.1 hx]; exact h
        obtain ⟨y, hyy⟩ : ∃ y, y = os[k] := ⟨_, rfl⟩
        rw [← hyy] at d0 HM HT
        clear hyy
        by_cases c1 : y < 0
        · have HZ2 : Hid (Z = 2) := Lib.hid (by rw [HZ.out, HC.out, if_pos (HM.out (by simp [outN, wi]; omega))])
          go_wp2
          go_ret
          exact ⟨by rw [HZ2.out]; rfl, Below.refl _ _⟩
        by_cases c2 : (os.length : Int) ≤ y
        · have HZ2 : Hid (Z = 2) := Lib.hid (by rw [HZ.out, HC.out, if_pos (HM.out (by simp [outN, wi]; omega))])
          go_wp2
          go_ret
          exact ⟨by rw [HZ2.out]; rfl, Below.refl _ _⟩
        · have HG : Hid (∀ x ∈ os.take (k + 1), outN os.length x = false) := Lib.hid (HT.out (by simp [outN, wi]; omega))
          go_wp2
          go_round
          case rel => exact ⟨k + 1, by go_num, hlt, HG⟩
          case measure => simp [intOf]; omega
      · have g1 : decide ((k : Int) < (os.length : Int)) = false := by simp; omega
        have hany : os.any (outN os.length) = false := List.any_eq_false.2 fun x hx => by
          have := hG.out x (by rw [List.take_of_length_le (by omega)]; exact hx)
          rw [this]; simp
        have HZ2 : Hid (Z = if os.Nodup then 0 else 10) := Lib.hid (by rw [HZ.out, HC.out, hany]; simp)
        clear hany hG HC HZ
        have N0 : Hid ((os.take 0).Nodup) := Lib.hid (by simp)
        go_wp2
        go_loopw [6] (fun v wr => ∃ i : Nat, v = .int .i64 i ∧ i ≤ os.length ∧ Hid ((os.take i).Nodup) ∧ Below w.heap.size w wr) (fun v _ => os.length - (intOf v).toNat)
        case atStart => exact ⟨0, rfl, Nat.zero_le _, N0, Below.refl _ _⟩
        case round =>
          clear N0 g1 hlt hk
          obtain ⟨i, rfl, hi, hN, hB⟩ := hrel
          by_cases hlt : i < os.length
          · have g1 : decide ((i : Int) < (os.length : Int)) = true := by simp [hlt]
            have W1 : IntKind.i64.wrap ((i : Int) + 1) = ((i + 1 : Nat) : Int) := by rw [IntWalk.i64_in _ (by omega)]; omega
            have HNN := Lib.hid (not_nodup (os := os) hlt)
            have HTN := Lib.hid (take_nodup (os := os) hlt hN.out)
            have HE : Hid (∀ (j : Nat) (h : j < os.length), j < i → os[j] ∈ os.take i) := Lib.hid fun j h hj => by
              rw [show os[j] = (os.take i)[j]'(by rw [List.length_take]; omega) from (List.getElem_take).symm]
              exact List.getElem_mem _
            have HQ : Hid (∀ x ∈ os.take i, ∃ (j : Nat) (h : j < os.length), j < i ∧ os[j] = x) := Lib.hid fun x hx => by
              obtain ⟨j, hj, e⟩ := List.getElem_of_mem hx
              rw [List.length_take] at hj
              exact ⟨j, by omega, by omega, by rw [← e, List.getElem_take]⟩
            obtain ⟨a, rfl, d0⟩ := K1.out i hlt
            have d0 := cell_later hB d0
            obtain ⟨y, hyy⟩ : ∃ y, y = os[i] := ⟨_, rfl⟩
            rw [← hyy] at d0 HNN HTN
            clear hyy
            have p1 : (0 : Int) ≤ (i : Int) := by omega
            have p2 : (i : Int) < (os.length : Int) := by omega
            have HLT := Lib.hid hlt
            go_wp2
            go_loopw [7] (fun v wr => ∃ j : Nat, v = .int .i64 j ∧ j ≤ i ∧ Hid (∀ (t : Nat) (h : t < os.length), t < j → os[t] ≠ y) ∧ Below w.heap.size w wr ∧ wr.cell? (a.add i) = some (.int .i64 y)) (fun v _ => i - (intOf v).toNat)
            case atStart => exact ⟨0, rfl, Nat.zero_le _, Lib.hid (fun t h k => absurd k (Nat.not_lt_zero t)), hB, d0⟩
            case round =>
              clear hB d0
              obtain ⟨j, rfl, hj, hS, hB, d0⟩ := hrel
              by_cases hlj : j < i
              · have g2 : decide ((j : Int) < (i : Int)) = true := by simp [hlj]
                have W2 : IntKind.i64.wrap ((j : Int) + 1) = ((j + 1 : Nat) : Int) := by rw [IntWalk.i64_in _ (by omega)]; omega
                have hjl : j < os.length := by omega
                have p3 : (0 : Int) ≤ (j : Int) := by omega
                have p4 : (j : Int) < (os.length : Int) := by omega
                obtain ⟨a', ea, d1⟩ := K1.out j hjl
                cases ea
                have d1 := cell_later hB d1
                have HX := Lib.hid (HE.out j hjl hlj)
                obtain ⟨x, hxx⟩ : ∃ x, x = os[j] := ⟨_, rfl⟩
                rw [← hxx] at d1 HX
                have HXX := Lib.hid hxx
                clear hxx
                by_cases e : x = y
                · have t2 : (x == y) = true := by simp [e]
                  have HZ3 : Hid (Z = 10) := Lib.hid (by rw [HZ2.out, if_neg (HNN.out (e ▸ HX.out))])
                  clear e
                  go_wp2_with fail
                  go_quiet (fail)
                  go_wp2
                  go_ret
                  exact ⟨by rw [HZ3.out]; rfl, below_drewN hB _⟩
                · have t2 : (x == y) = false := by simpa using e
                  have HS : Hid (∀ (t : Nat) (h : t < os.length), t < j + 1 → os[t] ≠ y) := Lib.hid fun t h k => by
                    rcases Nat.lt_or_ge t j with h1 | h1
                    · exact hS.out t h h1
                    · have : t = j := by omega
                      subst this
                      rw [← HXX.out]; exact e
                  clear e
                  go_wp2_with fail
                  go_quiet (fail)
                  go_wp2
                  exact ⟨⟨j + 1, rfl, hlj, HS, below_drewN hB _, d0⟩, by simp [intOf]; omega⟩
              · have g2 : decide ((j : Int) < (i : Int)) = false := by simp; omega
                have HN2 : Hid ((os.take (i + 1)).Nodup) := Lib.hid (HTN.out fun hm => by
                  obtain ⟨t, h, ht, e⟩ := HQ.out y hm
                  exact hS.out t h (by omega) e)
                have hlt := HLT.out
                go_wp2
                exact ⟨⟨i + 1, rfl, hlt, HN2, hB⟩, by simp [intOf]; omega⟩
          · have g1 : decide ((i : Int) < (os.length : Int)) = false := by simp; omega
            have HZ3 : Hid (Z = 0) := Lib.hid (by
              have := hN.out
              rw [List.take_of_length_le (by omega)] at this
              rw [HZ2.out, if_pos this])
            go_wp2
            go_ret
            exact ⟨by rw [HZ3.out]; rfl, hB⟩
  · have e : codeN n os = 3 := by unfold codeN; rw [if_pos h1]
    rw [e]
    have t1 : ((os.length : Int) != (n : Int)) = true := by simpa using h1
    clear e h1
    go_enter Try.func18, Try.ntmps18
    go_wp2
    go_ret
    exact ⟨rfl, Below.refl _ _⟩
end Go.Proofs.Yteofbbakegcohaa
