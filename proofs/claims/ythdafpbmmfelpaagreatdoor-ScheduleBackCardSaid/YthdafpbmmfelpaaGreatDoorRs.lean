/- The reference: Find, Total, Valid, Small; Find and Total of the program. -/
import Derived.Test.YthdafpbmmfelpaaGreatDoorTx
import Derived.Test.YthdafpbmmfelpaaGreatDoorM4
namespace Go.Proofs.YthdafpbmmfelpaaGreatDoor
open Go.ChangeShapes Go.WideShapes Go.ChangeAt Go.RowKit
set_option linter.unusedVariables false
set_option linter.unusedSimpArgs false

set_option maxRecDepth 100000 in
theorem rFind_any (p : Option Addr) (l : List Bar) (cap : Nat) (m : ByteArray) (w : World) (hS : Slb w p l cap) :
    Calls Tryz.prog 17 #[.slice p l.length cap, .string m] w fun e w' => e = .returned (.int .i64 (fndV m l)) ∧ w = w' := by
  have hle := fnd_le m l
  have hm := hS.mx
  unfold maxLen at hm
  have HF := Lib.hid (fun k h hk => fnd_lt (m := m) (l := l) (k := k) h hk)
  have HA := Lib.hid (fun h => fnd_at (m := m) (l := l) h)
  obtain ⟨R, hR⟩ : ∃ R : Int, R = fndV m l := ⟨_, rfl⟩
  rw [← hR]
  have HR0 := Lib.hid hR
  clear hR
  go_enter Tryz.func17, Tryz.ntmps17
  go_wp2
  go_loop [5] (fun v => ∃ k : Nat, v = .int .i64 k ∧ k ≤ fnd m l) (fun v => l.length - (intOf v).toNat)
  case atStart => exact ⟨0, rfl, Nat.zero_le _⟩
  case round =>
    obtain ⟨k, rfl, hk⟩ := hrel
    by_cases hlt : k < l.length
    · have g1 : decide ((k : Int) < (l.length : Int)) = true := by simp [hlt]
      have W1 : IntKind.i64.wrap ((k : Int) + 1) = ((k + 1 : Nat) : Int) := by rw [IntWalk.i64_in _ (by omega)]; omega
      have q1 : (0 : Int) ≤ (k : Int) := by omega
      have q2 : (k : Int) < (l.length : Int) := by omega
      obtain ⟨a, rfl, c0, c1, c2, c3, c4⟩ := hS.at_ k hlt
      by_cases he : k = fnd m l
      · have hx : (l[k].mark.toList == m.toList) = true := by subst he; exact HA.out hlt
        have hlt2 : fnd m l < l.length := by omega
        have HR : Hid (R = (k : Int)) := Lib.hid (by rw [HR0.out, fndV, if_pos hlt2, he])
        clear he hlt2
        generalize l[k].mark = mk at *
        go_wp2
        go_ret
        exact ⟨by rw [HR.out]; rfl, rfl⟩
      · have hx : (l[k].mark.toList == m.toList) = false := HF.out k (by omega) hlt
        have hk2 : k + 1 ≤ fnd m l := by omega
        clear he
        generalize l[k].mark = mk at *
        go_wp2
        exact ⟨⟨k + 1, rfl, hk2⟩, by simp [intOf]; omega⟩
    · have g1 : decide ((k : Int) < (l.length : Int)) = false := by simp; omega
      have HR : Hid (R = -1) := Lib.hid (by rw [HR0.out, fndV, if_neg (by omega)])
      go_wp2
      go_ret
      exact ⟨by rw [HR.out]; rfl, rfl⟩
def totL (l : List Bar) : Int := (l.map (·.count)).sum
theorem tot_take {l : List Bar} {k : Nat} (h : k < l.length) : totL (l.take (k + 1)) = totL (l.take k) + l[k].count := by
  unfold totL
  rw [List.take_succ_eq_append_getElem h, List.map_append, List.sum_append]; simp
theorem tot_bd : ∀ {l : List Bar}, (∀ b ∈ l, barB b = true) → 0 ≤ totL l ∧ totL l ≤ l.length * 1000
  | [], h => by simp [totL]
  | b :: r, h => by
    have ih := tot_bd (l := r) fun c hc => h c (by simp [hc])
    have h1 := (barB_and (h b (by simp))).2.2.2.2.2
    unfold totL at ih ⊢
    simp only [List.map_cons, List.sum_cons, List.length_cons]
    omega
set_option maxRecDepth 100000 in
theorem rTotal_any (p : Option Addr) (l : List Bar) (cap : Nat) (w : World) (hS : Slb w p l cap) (hl : l.length ≤ 60) (hv : ∀ b ∈ l, barB b = true) :
    Calls Tryz.prog 16 #[.slice p l.length cap] w fun e w' => e = .returned (.int .i64 (totL l)) ∧ w = w' := by
  have HV := Lib.hid hv
  clear hv
  go_enter Tryz.func16, Tryz.ntmps16
  go_wp2
  go_loop [3, 4] (fun v3 v => ∃ k : Nat, v = .int .i64 k ∧ k ≤ l.length ∧ v3 = .int .i64 (totL (l.take k))) (fun _ v => l.length - (intOf v).toNat)
  case atStart => exact ⟨0, rfl, Nat.zero_le _, rfl⟩
  case round =>
    obtain ⟨k, rfl, hk, rfl⟩ := hrel
    by_cases hlt : k < l.length
    · have g1 : decide ((k : Int) < (l.length : Int)) = true := by simp [hlt]
      have W1 : IntKind.i64.wrap ((k : Int) + 1) = ((k + 1 : Nat) : Int) := by rw [IntWalk.i64_in _ (by omega)]; omega
      have q1 : (0 : Int) ≤ (k : Int) := by omega
      have q2 : (k : Int) < (l.length : Int) := by omega
      obtain ⟨a, rfl, c0, c1, c2, c3, c4⟩ := hS.at_ k hlt
      have e := tot_take hlt
      have b1 := tot_bd (l := l.take (k + 1)) fun b hb => HV.out b (List.mem_of_mem_take hb)
      have hn : (l.take (k + 1)).length ≤ 60 := by simp; omega
      rw [e] at b1
      have W2 : IntKind.i64.wrap (totL (l.take k) + l[k].count) = totL (l.take k) + l[k].count := IntWalk.i64_in _ (by omega)
      have HE := Lib.hid e
      clear e b1 hn
      generalize l[k].count = ct at *
      generalize totL (l.take k) = tk at *
      go_wp2
      exact ⟨⟨k + 1, rfl, hlt, by rw [HE.out]⟩, by simp [intOf]; omega⟩
    · have g1 : decide ((k : Int) < (l.length : Int)) = false := by simp; omega
      have e : l.take k = l := List.take_of_length_le (by omega)
      rw [e]
      go_wp2
      go_ret
      exact ⟨rfl, rfl⟩
set_option maxHeartbeats 8000000 in
set_option maxRecDepth 100000 in
theorem Total_no (p : Option Addr) (l : List Bar) (cap : Nat) (w : World) (hS : Slb w p l cap) (hv : validL l = false) :
    Calls Tryz.prog 13 #[.slice p l.length cap] w fun e w' => e = .returned (.tuple #[.int .i64 0, .int .i64 1]) ∧ Below w.heap.size w w' := by
  have h15 := Valid_list p l cap w hS
  rw [hv] at h15
  go_enter Tryz.func13, Tryz.ntmps13
  go_wp2_with (go_at_call 15; (with_reducible refine h15.mono ?_); rintro X wq ⟨rfl, hb⟩)
  exact bodyPost_ret (v := .tuple #[.int .i64 0, .int .i64 1]) (by simp [results, Tryz.results13, go_sem]) rfl ⟨rfl, hb⟩
set_option maxHeartbeats 8000000 in
set_option maxRecDepth 100000 in
theorem Total_ok (p : Option Addr) (l : List Bar) (cap : Nat) (w : World) (hS : Slb w p l cap) (hv : validL l = true) :
    Calls Tryz.prog 13 #[.slice p l.length cap] w fun e w' => e = .returned (.tuple #[.int .i64 (totL l), .int .i64 0]) ∧ Below w.heap.size w w' := by
  have h15 := Valid_list p l cap w hS
  rw [hv] at h15
  obtain ⟨hl, hvb⟩ := valid_all hv
  have HV := Lib.hid hvb
  clear hv hvb
  go_enter Tryz.func13, Tryz.ntmps13
  go_upto_region 4 with (go_at_call 15; (with_reducible refine h15.mono ?_); rintro X w1 ⟨rfl, hb1⟩)
  clear h15
  go_wp2
  go_loopw [4, 12] (fun v4 v wr => ∃ k : Nat, v = .int .i64 k ∧ k ≤ l.length ∧ v4 = .int .i64 (totL (l.take k)) ∧ Below w.heap.size w wr) (fun _ v _ => l.length - (intOf v).toNat)
  case atStart => exact ⟨0, rfl, Nat.zero_le _, rfl, hb1⟩
  case round =>
    clear hb1
    obtain ⟨k, rfl, hk, rfl, hB⟩ := hrel
    by_cases hlt : k < l.length
    · have g1 : decide ((k : Int) < (l.length : Int)) = true := by simp [hlt]
      have W1 : IntKind.i64.wrap ((k : Int) + 1) = ((k + 1 : Nat) : Int) := by rw [IntWalk.i64_in _ (by omega)]; omega
      have q1 : (0 : Int) ≤ (k : Int) := by omega
      have q2 : (k : Int) < (l.length : Int) := by omega
      obtain ⟨a, rfl, c0, c1, c2, c3, c4⟩ := (hS.on hB).at_ k hlt
      have e := tot_take hlt
      have b1 := tot_bd (l := l.take (k + 1)) fun b hb => HV.out b (List.mem_of_mem_take hb)
      have hn : (l.take (k + 1)).length ≤ 60 := by simp; omega
      rw [e] at b1
      have W2 : IntKind.i64.wrap (totL (l.take k) + l[k].count) = totL (l.take k) + l[k].count := IntWalk.i64_in _ (by omega)
      have HE := Lib.hid e
      have E := (Env.nil wr).add wr.heap.size 60 l[k].cs rfl
      rw [bcs] at E
      clear e b1 hn
      generalize totL (l.take k) = tk at *
      generalize l[k].mark = mk at *
      generalize l[k].size = sz at *
      generalize l[k].count = ct at *
      generalize l[k].code = cd at *
      generalize l[k].ds.length = dl at *
      generalize l[k].cap = dc at *
      generalize l[k].p = dp at *
      obtain ⟨-, C0, C1, C2, C3, C4⟩ := s_b5 E
      have hB2 := envbb hB E
      clear E
      go_wp2
      exact ⟨⟨k + 1, rfl, hlt, by rw [HE.out], hB2⟩, by simp [intOf]; omega⟩
    · have g1 : decide ((k : Int) < (l.length : Int)) = false := by simp; omega
      have e : l.take k = l := List.take_of_length_le (by omega)
      rw [e]
      generalize htl : totL l = tl at *
      go_wp2
      exact bodyPost_ret (v := .tuple #[.int .i64 tl, .int .i64 0]) (by simp [results, Tryz.results13, go_sem]) rfl ⟨by rw [htl], hB⟩
set_option maxHeartbeats 8000000 in
set_option maxRecDepth 100000 in
theorem Find_no (p : Option Addr) (l : List Bar) (cap : Nat) (m : ByteArray) (w : World) (hS : Slb w p l cap) (hv : validL l = false) :
    Calls Tryz.prog 12 #[.slice p l.length cap, .string m] w fun e w' => e = .returned (.tuple #[.int .i64 0, .int .i64 1]) ∧ Below w.heap.size w w' := by
  have h15 := Valid_list p l cap w hS
  rw [hv] at h15
  go_enter Tryz.func12, Tryz.ntmps12
  go_wp2_with (go_at_call 15; (with_reducible refine h15.mono ?_); rintro X wq ⟨rfl, hb⟩)
  exact bodyPost_ret (v := .tuple #[.int .i64 0, .int .i64 1]) (by simp [results, Tryz.results12, go_sem]) rfl ⟨rfl, hb⟩
set_option maxHeartbeats 8000000 in
set_option maxRecDepth 100000 in
theorem Find_ok (p : Option Addr) (l : List Bar) (cap : Nat) (m : ByteArray) (w : World) (hS : Slb w p l cap) (hv : validL l = true) :
    Calls Tryz.prog 12 #[.slice p l.length cap, .string m] w fun e w' => e = .returned (.tuple #[.int .i64 (if fndV m l < 0 then 0 else fndV m l), .int .i64 (if fndV m l < 0 then 9 else 0)]) ∧ Below w.heap.size w w' := by
  have h15 := Valid_list p l cap w hS
  have h38 := fun W (h : Below w.heap.size w W) => indexOf_any p l cap m W (hS.on h)
  rw [hv] at h15
  generalize fndV m l = f at *
  by_cases hf : f < 0
  · rw [if_pos hf, if_pos hf]
    have g1 : decide (f < 0) = true := by simpa using hf
    clear hf
    go_enter Tryz.func12, Tryz.ntmps12
    go_wp2_with (first
      | (go_at_call 15; (with_reducible refine h15.mono ?_); rintro X wq ⟨rfl, hb⟩)
      | (go_at_call 38; (with_reducible refine (h38 _ hb).mono ?_); rintro X wz ⟨rfl, hb2⟩))
    exact bodyPost_ret (v := .tuple #[.int .i64 0, .int .i64 9]) (by simp [results, Tryz.results12, go_sem]) rfl ⟨rfl, belows hb hb2⟩
  · rw [if_neg hf, if_neg hf]
    have g1 : decide (f < 0) = false := by simpa using hf
    clear hf
    go_enter Tryz.func12, Tryz.ntmps12
    go_wp2_with (first
      | (go_at_call 15; (with_reducible refine h15.mono ?_); rintro X wq ⟨rfl, hb⟩)
      | (go_at_call 38; (with_reducible refine (h38 _ hb).mono ?_); rintro X wz ⟨rfl, hb2⟩))
    exact bodyPost_ret (v := .tuple #[.int .i64 f, .int .i64 0]) (by simp [results, Tryz.results12, go_sem]) rfl ⟨rfl, belows hb hb2⟩
theorem fnd_take {l : List Bar} {i : Nat} (hi : i < l.length) : (fndV l[i].mark l = (i : Int)) ↔ fndV l[i].mark (l.take i) < 0 := by
  have hle := fnd_le l[i].mark l
  have hself : (l[i].mark.toList == l[i].mark.toList) = true := by simp
  have h1 : fnd l[i].mark l ≤ i := by
    rcases Nat.lt_or_ge i (fnd l[i].mark l) with h | h
    · have := fnd_lt h hi
      rw [hself] at this; cases this
    · exact h
  have hv : fndV l[i].mark l = (fnd l[i].mark l : Int) := if_pos (by omega)
  constructor
  · intro h
    have he : fnd l[i].mark l = i := by omega
    have : ¬ fnd l[i].mark (l.take i) < (l.take i).length := fun hlt => by
      have hj := fnd_at hlt
      have hjl : fnd l[i].mark (l.take i) < i := by simp at hlt; omega
      rw [List.getElem_take] at hj
      have := fnd_lt (m := l[i].mark) (l := l) (k := fnd l[i].mark (l.take i)) (by omega) (by omega)
      rw [hj] at this; cases this
    unfold fndV
    rw [if_neg this]; decide
  · intro h
    rcases Nat.lt_or_ge (fnd l[i].mark l) i with hlt | hge
    · exfalso
      have hat := fnd_at (m := l[i].mark) (l := l) (by omega)
      unfold fndV at h
      split at h
      · omega
      · rename_i hn
        have hfl := fnd_le l[i].mark (l.take i)
        have hlen : (l.take i).length = i := by simp; omega
        have := fnd_lt (m := l[i].mark) (l := l.take i) (k := fnd l[i].mark l) (by omega) (by omega)
        rw [List.getElem_take, hat] at this
        cases this
    · omega
set_option maxHeartbeats 8000000 in
set_option maxRecDepth 100000 in
theorem rValid_list (p : Option Addr) (l : List Bar) (cap : Nat) (w : World) (hS : Slb w p l cap) :
    Calls Tryz.prog 14 #[.slice p l.length cap] w fun e w' => e = .returned (.bool (validL l)) ∧ Below w.heap.size w w' := by
  by_cases hl : ¬ l.length ≤ 60
  · have hR : validL l = false := by simp [validL, hl]
    rw [hR]
    have g0 : decide ((l.length : Int) > 60) = true := by simp; omega
    clear hR hl
    go_enter Tryz.func14, Tryz.ntmps14
    go_wp2
    go_ret
    exact ⟨rfl, Below.refl _ _⟩
  rw [Decidable.not_not] at hl
  have g0 : decide ((l.length : Int) > 60) = false := by simp; omega
  have HV := Lib.hid (show validL l = (List.range l.length).all fun i => okAt l i by simp [validL, hl])
  go_enter Tryz.func14, Tryz.ntmps14
  go_wp2
  go_loopw [3] (fun v wr => ∃ k : Nat, v = .int .i64 k ∧ k ≤ l.length ∧ Below w.heap.size w wr ∧ Hid (∀ i, i < k → okAt l i = true)) (fun v _ => l.length - (intOf v).toNat)
  case atStart => exact ⟨0, rfl, Nat.zero_le _, Below.refl _ _, Lib.hid (fun i h => absurd h (Nat.not_lt_zero i))⟩
  case round =>
    obtain ⟨k, rfl, hk, hB, HI⟩ := hrel
    by_cases hlt : k < l.length
    · have g1 : decide ((k : Int) < (l.length : Int)) = true := by simp [hlt]
      have W1 : IntKind.i64.wrap ((k : Int) + 1) = ((k + 1 : Nat) : Int) := by rw [IntWalk.i64_in _ (by omega)]; omega
      have q1 : (0 : Int) ≤ (k : Int) := by omega
      have q2 : (k : Int) < (l.length : Int) := by omega
      obtain ⟨a, rfl, c0, c1, c2, c3, c4⟩ := (hS.on hB).at_ k hlt
      have h39 := fun W (h : Below w.heap.size w W) => rValid_any l[k] W ((hS.ok _ (List.getElem_mem hlt)).on h)
      have h17 := fun W (h : Below w.heap.size w W) => rFind_any (some a) l cap l[k].mark W (hS.on h)
      have HAt : Hid (∀ W, Below w.heap.size w W → W.cell? (a.add (k * 5)) = some (.string l[k].mark)) := Lib.hid fun W h => by
        obtain ⟨a', e, f⟩ := (hS.on h).at_ k hlt
        cases e
        exact f.1
      have HO := Lib.hid (okAt_eq hlt)
      have HT := Lib.hid (fnd_take hlt)
      rw [vcs] at h39
      generalize l[k].mark = mk at *
      generalize l[k].size = sz at *
      generalize l[k].count = ct at *
      generalize l[k].code = cd at *
      generalize l[k].ds.length = dl at *
      generalize l[k].cap = dc at *
      generalize l[k].p = dp at *
      obtain ⟨fv, hfv⟩ : ∃ fv, fv = fndV mk l := ⟨_, rfl⟩
      rw [← hfv] at h17 HT
      clear hfv
      generalize barB l[k] = vb at *
      generalize fndV mk (l.take k) = ft at *
      generalize hn : l.length = n at *
      have HB := Lib.hid hB
      cases vb
      · go_wp2_with (go_at_call 39; (with_reducible refine (h39 _ HB.out).mono ?_); rintro X wq ⟨rfl, hb⟩)
        go_ret
        refine ⟨?_, belows HB.out hb⟩
        rw [HV.out, show (List.range n).all (fun i => okAt l i) = false from List.all_eq_false.2 ⟨k, List.mem_range.2 hlt, by rw [HO.out]; simp⟩]; rfl
      · by_cases hq : fv = (k : Int)
        · have g2 : (fv != (k : Int)) = false := by simp [hq]
          have hf2 : ft < 0 := HT.out.1 hq
          have HF := Lib.hid hf2
          clear hq hf2
          go_wp2_with (first
            | (go_at_call 39; (with_reducible refine (h39 _ HB.out).mono ?_); rintro X wq ⟨rfl, hb⟩; have hB2 := belows HB.out hb; have a0 := HAt.out _ hB2)
            | (go_at_call 17; (with_reducible refine (h17 _ hB2).mono ?_); rintro X wz ⟨rfl, rfl⟩))
          refine ⟨⟨k + 1, rfl, hlt, hB2, Lib.hid fun i hi => ?_⟩, by simp [intOf]; omega⟩
          rcases Nat.lt_or_ge i k with h | h
          · exact HI.out i h
          · obtain rfl : i = k := by omega
            rw [HO.out]; simp [HF.out]
        · have g2 : (fv != (k : Int)) = true := by simp [hq]
          have hf2 : ¬ ft < 0 := fun h => hq (HT.out.2 h)
          have HF := Lib.hid hf2
          clear hq hf2
          go_wp2_with (first
            | (go_at_call 39; (with_reducible refine (h39 _ HB.out).mono ?_); rintro X wq ⟨rfl, hb⟩; have hB2 := belows HB.out hb; have a0 := HAt.out _ hB2)
            | (go_at_call 17; (with_reducible refine (h17 _ hB2).mono ?_); rintro X wz ⟨rfl, rfl⟩))
          go_ret
          refine ⟨?_, hB2⟩
          rw [HV.out, show (List.range n).all (fun i => okAt l i) = false from List.all_eq_false.2 ⟨k, List.mem_range.2 hlt, by rw [HO.out]; simp [HF.out]⟩]; rfl
    · have g1 : decide ((k : Int) < (l.length : Int)) = false := by simp; omega
      go_wp2
      go_ret
      refine ⟨?_, hB⟩
      rw [HV.out, show (List.range l.length).all (fun i => okAt l i) = true from List.all_eq_true.2 fun i hi => HI.out i (by have := List.mem_range.1 hi; omega)]; rfl
end Go.Proofs.YthdafpbmmfelpaaGreatDoor
