/- ScheduleCounts. -/
import Derived.Test.YthdafpbmmfelpaaGreatDoorPq
import Derived.Test.YthdafpbmmfelpaaGreatDoorRvs
import Derived.Test.YthdafpbmmfelpaaGreatDoorAx
import Derived.Test.YthdafpbmmfelpaaGreatDoorFw
namespace Go.Proofs.YthdafpbmmfelpaaGreatDoor
open Go.ChangeShapes Go.WideShapes Go.ChangeAt Go.RowKit
set_option linter.unusedVariables false
set_option linter.unusedSimpArgs false

theorem rd_form4 {w : World} {v : Value} {xs : List S2} (h : Rd sc 2 w v xs) : ∃ q c, v = .slice q xs.length c := let ⟨q, c, e, _⟩ := h; ⟨q, c, e⟩
theorem map_len60 {α β : Type} {xs : List α} {f : α → β} {n : Nat} (h : xs.length ≤ n) (hn : n ≤ 60) : (xs.map f).length ≤ 60 := by rw [List.length_map]; omega
theorem le60 {x : Int} {n : Nat} (h1 : x ≤ n * 1000) (h : n ≤ 60) : x ≤ 60000 := by omega
theorem s_b2 {w0 w : World} {l : List Fb} {h : Nat} {t : TypeId} {c0 c1 : Value} (E : Env w0 w (⟨h, t, #[c0, c1]⟩ :: l)) : Env w0 w (⟨h, t, #[c0, c1]⟩ :: l) ∧ w.cell? ⟨h, 0, none⟩ = some c0 ∧ w.cell? ⟨h, 1, none⟩ = some c1 := by
  have C := E.cells
  simp [BC, CF] at C
  exact ⟨E, C.1.2.1.1, C.1.2.2.1⟩
theorem sum_bd {M : Int} : ∀ {xs : List Int}, (∀ x ∈ xs, 0 ≤ x ∧ x ≤ M) → 0 ≤ xs.sum ∧ xs.sum ≤ xs.length * M
  | [], h => by simp
  | x :: r, h => by
    have ih := sum_bd (xs := r) fun y hy => h y (by simp [hy])
    have h1 := h x (by simp)
    simp only [List.sum_cons, List.length_cons]
    have : ((r.length + 1 : Nat) : Int) * M = r.length * M + M := by rw [Int.natCast_add, Int.add_mul]; simp
    omega
theorem szT_bd {l : List Bar} (hv : ∀ b ∈ l, barB b = true) (hl : l.length ≤ 60) (d : Int) : 0 ≤ szT l d ∧ szT l d ≤ 60000 := by
  unfold szT
  have h := sum_bd (M := 1000) (xs := (l.filter fun b => b.size == d).map (·.count)) fun x hx => by
    obtain ⟨b, hb, rfl⟩ := List.mem_map.1 hx
    have := (barB_and (hv b (List.mem_filter.1 hb).1)).2.2.2.2.2
    omega
  have h2 : ((l.filter fun b => b.size == d).map (·.count)).length ≤ l.length := by rw [List.length_map]; exact List.length_filter_le _ _
  omega
/-- What is left of n when k sizes have been counted. -/
def lftK (l : List Bar) (k : Nat) : Int := totL l - ((sz.take k).map fun d => szT l d).sum
theorem lft_zero (l : List Bar) : lftK l 0 = totL l := by simp [lftK]
theorem lft_all {l : List Bar} (hv : ∀ b ∈ l, barB b = true) : lftK l 9 = 0 := by
  have : sz.take 9 = sz := by decide
  rw [lftK, this, sz_all hv]; omega
theorem lft_succ (l : List Bar) {k : Nat} (h : k < 9) : lftK l (k + 1) = lftK l k - szT l (sz[k]'h) := by
  unfold lftK
  rw [List.take_succ_eq_append_getElem (show k < sz.length from h), List.map_append, List.sum_append]
  simp
  omega
theorem lft_bd {l : List Bar} (hv : ∀ b ∈ l, barB b = true) (hl : l.length ≤ 60) (k : Nat) (hk : k ≤ 9) : -540000 ≤ lftK l k ∧ lftK l k ≤ 60000 := by
  have h1 := tot_bd hv
  have h2 := sum_bd (M := 60000) (xs := (sz.take k).map fun d => szT l d) fun x hx => by
    obtain ⟨d, -, rfl⟩ := List.mem_map.1 hx
    exact szT_bd hv hl d
  have h3 : ((sz.take k).map fun d => szT l d).length ≤ 9 := by simp; omega
  unfold lftK
  omega
/-- What is left when j pieces of a list have been counted. -/
def lftJ (N : Int) (PC : List S2) (j : Nat) : Int := N - ((PC.take j).map (·.2)).sum
theorem lftJ_zero (N : Int) (PC : List S2) : lftJ N PC 0 = N := by simp [lftJ]
theorem lftJ_succ (N : Int) (PC : List S2) {j : Nat} (h : j < PC.length) : lftJ N PC (j + 1) = lftJ N PC j - PC[j].2 := by
  unfold lftJ
  rw [List.take_succ_eq_append_getElem h, List.map_append, List.sum_append]
  simp
  omega
theorem lftJ_all (N : Int) (PC : List S2) {j : Nat} (h : PC.length ≤ j) : lftJ N PC j = N - (PC.map (·.2)).sum := by
  rw [lftJ, List.take_of_length_le h]
theorem lftJ_bd {N : Int} {PC : List S2} (h : ∀ k (h : k < PC.length), 1 ≤ PC[k].2 ∧ PC[k].2 ≤ 60000) (hl : PC.length ≤ 60) (hN : -540000 ≤ N ∧ N ≤ 60000) (j : Nat) : -4140000 ≤ lftJ N PC j ∧ lftJ N PC j ≤ 60000 := by
  have h2 := sum_bd (M := 60000) (xs := (PC.take j).map (·.2)) fun x hx => by
    obtain ⟨y, hy, rfl⟩ := List.mem_map.1 hx
    obtain ⟨k, hk, rfl⟩ := List.mem_iff_getElem.1 (List.mem_of_mem_take hy)
    have := h k hk
    exact ⟨by omega, this.2⟩
  have h3 : ((PC.take j).map (·.2)).length ≤ 60 := by simp; omega
  unfold lftJ
  omega
theorem pieces_l {l : List Bar} {PF : Int → List S2} (hpf : ∀ d, pcs l d = PF d) (hv : validL l = true) (p : Option Addr) (cap : Nat) (d : Int) (W : World) (hS : Slb W p l cap) (hz : isz d = true) :
    Calls Tryz.prog 23 #[.slice p l.length cap, .int .i64 d] W fun e w' => ∃ v, e = .returned (.tuple #[v, .int .i64 0]) ∧ Own sc 49 2 W.heap.size w' v (PF d) ∧ Below W.heap.size W w' := by
  have := Pieces_ok p l cap d W hS hv hz
  rw [hpf] at this
  exact this
theorem pieces_m {l m : List Bar} {PF : Int → List S2} (hpf : ∀ d, pcs l d = PF d) (hv : validL l = true) (hN : m.map nrm = l.map nrm) (p : Option Addr) (cap : Nat) (d : Int) (W : World) (hS : Slb W p m.reverse cap) (hz : isz d = true) :
    Calls Tryz.prog 23 #[.slice p m.length cap, .int .i64 d] W fun e w' => ∃ v, e = .returned (.tuple #[v, .int .i64 0]) ∧ Own sc 49 2 W.heap.size w' v (PF d) ∧ Below W.heap.size W w' := by
  have := Pieces_ok p m.reverse cap d W hS (valid_rev (valid_nrm hN hv)) hz
  rw [List.length_reverse, pcs_rev d hN, hpf] at this
  exact this
theorem pcs_ok {l : List Bar} {PF : Int → List S2} (hpf : ∀ d, pcs l d = PF d) (hv : ∀ b ∈ l, barB b = true) (hl : l.length ≤ 60) (d : Int) :
    (PF d).length ≤ 60 ∧ ((PF d).map (·.2)).sum = szT l d ∧ ∀ i (h : i < (PF d).length), 1 ≤ (PF d)[i].2 ∧ (PF d)[i].2 ≤ 60000 ∧ (0 < i → ∀ (h2 : i - 1 < (PF d).length), (PF d)[i].1 < (PF d)[i - 1].1) := by
  rw [← hpf]
  refine ⟨?_, pcs_sum hv d, fun i h => ?_⟩
  · unfold pcs
    exact map_len60 (pcK_le l d hv) hl
  · obtain ⟨h1, h2, h3⟩ := pcs_at hv h
    exact ⟨h1, le60 h2 hl, h3⟩
set_option maxHeartbeats 16000000 in
set_option maxRecDepth 100000 in
theorem counts_aux (PF : Int → List S2) (p : Option Addr) (l : List Bar) (cap : Nat) (w : World) (hpf : ∀ d, pcs l d = PF d) (hS : Slb w p l cap) (hT : Tab w) :
    Calls Tryz.prog 8 #[.slice p l.length cap] w fun e w' => e = .returned (.bool true) ∧ Below w.heap.size w w' := by
  have few1 := few_one p l cap
  cases hs : smallL l
  · rw [hs] at few1
    go_enter Tryz.func8, Tryz.ntmps8
    go_wp2_with (first
      | (go_at_call 10; (with_reducible refine (awake_any _ hT).mono ?_); rintro X w1 ⟨rfl, hb1⟩; have h11 := few1 w1 (hS.on hb1))
      | (go_at_call 11; (with_reducible refine h11.mono ?_); rintro X w2 ⟨rfl, rfl⟩; have B2 := al hb1 (.cells #[.slice p l.length cap] 22)))
    go_ret
    exact ⟨rfl, B2⟩
  rw [hs] at few1
  cases hv : validL l
  · have h13 := fun W (h : Below w.heap.size w W) => Total_no p l cap W (hS.on h) hv
    clear hv hs
    go_enter Tryz.func8, Tryz.ntmps8
    go_wp2_with (first
      | (go_at_call 10; (with_reducible refine (awake_any _ hT).mono ?_); rintro X w1 ⟨rfl, hb1⟩; have h11 := few1 w1 (hS.on hb1))
      | (go_at_call 11; (with_reducible refine h11.mono ?_); rintro X w2 ⟨rfl, rfl⟩; have B2 := al hb1 (.cells #[.slice p l.length cap] 22))
      | (go_at_call 13; (with_reducible refine (h13 _ B2).mono ?_); rintro X w3 ⟨rfl, hb⟩; have B3 := belows B2 hb; clear hb))
    go_ret
    exact ⟨rfl, B3⟩
  obtain ⟨hl60, hvb⟩ := valid_all hv
  have h13 := fun W (h : Below w.heap.size w W) => Total_ok p l cap W (hS.on h) hv
  have h29 := fun W (h : Below w.heap.size w W) => rCopy_any p l cap W (hS.on h) (by omega) fun x hx => by
    obtain ⟨hc, hd, -⟩ := barB_and (hvb x hx)
    rw [hd]
    have := ndim_le x.code
    have := ndim_pos hc
    omega
  have HV := Lib.hid hv
  have HVB := Lib.hid hvb
  have HLK := Lib.hid (lft_bd hvb hl60)
  have HZ0 := Lib.hid (lft_zero l)
  have HALL := Lib.hid (lft_all hvb)
  have HPF := Lib.hid hpf
  have HOK := Lib.hid (pcs_ok hpf hvb hl60)
  clear hv hs hvb hpf
  go_enter Tryz.func8, Tryz.ntmps8
  go_wp2_with (first
    | (go_at_call 10; (with_reducible refine (awake_any _ hT).mono ?_); rintro X w1 ⟨rfl, hb1⟩; have h11 := few1 w1 (hS.on hb1))
    | (go_at_call 11; (with_reducible refine h11.mono ?_); rintro X w2 ⟨rfl, rfl⟩; have B2 := al hb1 (.cells #[.slice p l.length cap] 22))
    | (go_at_call 13; (with_reducible refine (h13 _ B2).mono ?_); rintro X w3 ⟨rfl, hb⟩; have B3 := belows B2 hb; clear hb)
    | (go_at_call 29; (with_reducible refine (h29 _ B3).mono ?_); rintro X w4 ⟨v4, m, rfl, hO4, hN4, hX4, hb⟩; have B4 := belows B3 hb; have hml : m.length = l.length := (by simpa using congrArg List.length hN4); have h30 := bars_reverse w.heap.size v4 m w4 (hO4.mono B3.size) (fun x hx => ⟨(hX4 x hx).1, fun b hb => (hX4 x hx).2 b (.inr hb)⟩) (by omega); clear hb hO4 hX4 hml)
    | (go_at_call 30; (with_reducible refine h30.mono ?_); rintro X w5 ⟨rfl, ⟨pT, cT, rfl, hT5⟩, hb⟩; have B5 := B4.trans hb; clear hb)
    | (go_at_call 31; (with_reducible refine (sizes_any w5).mono ?_); rintro X w6 ⟨g, rfl, hZ6, hb, hg⟩; have B6 := belows B5 hb; have hT6 := hT5.on hb; clear hb))
  have hS6 := hS.on B6
  have HT6 := Lib.hid (fun d W (hz : isz d = true) (h : Below w6.heap.size w6 W) => pieces_m HPF.out HV.out hN4 pT cT d W (hT6.on h) hz)
  have HS6 := Lib.hid (fun d W (hz : isz d = true) (h : Below w6.heap.size w6 W) => pieces_l HPF.out HV.out p cap d W (hS6.on h) hz)
  clear h13 h29 h30 h11 B2 B3 B4 B5 hb1 hT5 hT6 hS6
  go_loopw [3, 35] (fun v3 v35 wr => ∃ k : Nat, v35 = .int .i64 k ∧ k ≤ 9 ∧ v3 = .int .i64 (lftK l k) ∧ Below w6.heap.size w6 wr) (fun _ v _ => 9 - (intOf v).toNat)
  case atStart => exact ⟨0, rfl, Nat.zero_le _, by rw [HZ0.out], Below.refl _ _⟩
  case round =>
    obtain ⟨k, rfl, hk, rfl, hB⟩ := hrel
    by_cases hlt : k < 9
    · have g1 : decide ((k : Int) < 9) = true := by simp; omega
      have W1 : IntKind.i64.wrap ((k : Int) + 1) = ((k + 1 : Nat) : Int) := by rw [IntWalk.i64_in _ (by omega)]; omega
      have q1 : (0 : Int) ≤ (k : Int) := by omega
      have q2 : (k : Int) < 9 := by omega
      have hzc := (hZ6.on hB).read hlt
      have hz : isz (sz[k]'hlt) = true := List.contains_iff_mem.2 (List.getElem_mem _)
      have HNX := Lib.hid (lft_succ l hlt)
      have hbd := HLK.out k hk
      generalize sz[k]'hlt = d at *
      generalize hN : lftK l k = N at *
      obtain ⟨hpl, hsum, hat0⟩ := HOK.out d
      have HSum := Lib.hid hsum
      have HAt := Lib.hid hat0
      clear hsum hat0
      have h23a := HS6.out d wr hz hB
      have h23b := fun W (h : Below w6.heap.size w6 W) => HT6.out d W hz h
      generalize szT l d = ST at *
      generalize PF d = PC at *
      have HJ := Lib.hid (lftJ_bd (fun i h => ⟨(HAt.out i h).1, (HAt.out i h).2.1⟩) hpl hbd)
      clear hz
      go_wp2_with (first
        | (go_at_call 23; (with_reducible refine h23a.mono ?_); rintro X wa ⟨va, rfl, hOa, hb⟩; have Ba := belows hB hb; clear hb; have Ra := Own.rd sl hOa; obtain ⟨qa, ca, rfl⟩ := rd_form4 Ra; have HRa := Lib.hid Ra; clear Ra hOa)
        | (go_at_call 23; (with_reducible refine (h23b _ Ba).mono ?_); rintro X wb ⟨vb, rfl, hOb, hb⟩; have Bb := belows Ba hb; have HRb := Lib.hid (HRa.out.on sl hb); have h25 := equalq_any _ vb PC PC wb HRb.out (Own.rd sl hOb) (by omega); clear hb hOb)
        | (go_at_call 25; (with_reducible refine h25.mono ?_); rintro X wc ⟨rfl, hb⟩; have Bc := belows Bb hb; have HRc := Lib.hid (HRb.out.on sl hb); clear hb))
      clear h23a h23b h25 hB Ba Bb HRa HRb hzc HT6 HS6
      go_loopw [3, 65] (fun v3 v65 wr => ∃ j : Nat, v65 = .int .i64 j ∧ j ≤ PC.length ∧ v3 = .int .i64 (lftJ N PC j) ∧ Below wc.heap.size wc wr) (fun _ v _ => PC.length - (intOf v).toNat)
      case atStart => exact ⟨0, rfl, Nat.zero_le _, by rw [lftJ_zero], Below.refl _ _⟩
      case round =>
        obtain ⟨j, rfl, hj, rfl, hX⟩ := hrel
        by_cases hjl : j < PC.length
        · have t1 : decide ((j : Int) < (PC.length : Int)) = true := by simp; omega
          have V1 : IntKind.i64.wrap ((j : Int) + 1) = ((j + 1 : Nat) : Int) := by rw [IntWalk.i64_in _ (by omega)]; omega
          have u1 : (0 : Int) ≤ (j : Int) := by omega
          have u2 : (j : Int) < (PC.length : Int) := by omega
          obtain ⟨q2, c2, e2, kk⟩ := HRc.out.on sl hX
          simp only [Value.slice.injEq] at e2
          obtain ⟨rfl, -, rfl⟩ := e2
          obtain ⟨g2, rfl, cc⟩ := kk j hjl
          have c0 := cc 0 (by omega)
          have c1 := cc 1 (by omega)
          have hpp : 0 < j → ∃ y, wr.cell? ⟨g2, (j - 1) * 2, none⟩ = some (.int .i64 y) ∧ PC[j].1 < y := fun h0 => by
            obtain ⟨g3, e3, cp⟩ := kk (j - 1) (by omega)
            cases e3
            exact ⟨_, cp 0 (by omega), (HAt.out j hjl).2.2 h0 (by omega)⟩
          have hat := HAt.out j hjl
          have hsu := Lib.hid (lftJ_succ N PC hjl)
          have b1 := HJ.out j
          have b2 := HJ.out (j + 1)
          rw [hsu.out] at b2
          obtain ⟨x, hx⟩ : ∃ x, x = PC[j] := ⟨_, rfl⟩
          rw [← hx] at c0 c1 hpp hat hsu b2
          obtain ⟨xl, xc⟩ := x
          replace c0 : wr.cell? ⟨g2, j * 2, none⟩ = some (.int .i64 xl) := c0
          replace c1 : wr.cell? ⟨g2, j * 2 + 1, none⟩ = some (.int .i64 xc) := c1
          have hat1 : 1 ≤ xc := hat.1
          have W2 : IntKind.i64.wrap (lftJ N PC j - xc) = lftJ N PC j - xc := by
            have b3 : -4140000 ≤ lftJ N PC j - xc ∧ lftJ N PC j - xc ≤ 60000 := b2
            exact IntWalk.i64_in _ (by omega)
          have l1 : decide (xc < 1) = false := by simp; omega
          have E := (Env.nil wr).add wr.heap.size 49 #[.int .i64 xl, .int .i64 xc] rfl
          obtain ⟨-, s0, s1⟩ := s_b2 E
          have B9 := al hX (.cells #[.int .i64 xl, .int .i64 xc] 49)
          have HE := Lib.hid (show lftJ N PC (j + 1) = lftJ N PC j - xc from hsu.out)
          clear hx hat hsu b1 b2 cc kk E HJ
          generalize lftJ N PC j = nj at *
          rcases Nat.eq_zero_or_pos j with h0 | h0
          · subst h0
            clear hpp
            go_wp2_with fail
            go_quiet (fail)
            go_wp2
            exact ⟨⟨0 + 1, rfl, hjl, by rw [HE.out], below_drewN B9 _⟩, by simp [intOf]; omega⟩
          · obtain ⟨y, p0, hy⟩ := hpp h0
            have p1 := cell_later (al1 wr (.cells #[.int .i64 xl, .int .i64 xc] 49)) p0
            have l2 : decide ((j : Int) > 0) = true := by simp; omega
            have hy2 : xl < y := hy
            have l3 : decide (xl ≥ y) = false := by simp; omega
            have V0 : IntKind.i64.wrap ((j : Int) - 1) = ((j - 1 : Nat) : Int) := by rw [IntWalk.i64_in _ (by omega)]; omega
            have u3 : (0 : Int) ≤ ((j - 1 : Nat) : Int) := by omega
            have u4 : ((j - 1 : Nat) : Int) < (PC.length : Int) := by omega
            clear hpp hy hy2
            go_wp2_with fail
            go_quiet (fail)
            go_wp2
            exact ⟨⟨j + 1, rfl, hjl, by rw [HE.out], below_drewN B9 _⟩, by simp [intOf]; omega⟩
        · have t1 : decide ((j : Int) < (PC.length : Int)) = false := by simp; omega
          have e := lftJ_all N PC (j := j) (by omega)
          rw [HSum.out] at e
          have HE := Lib.hid (show lftJ N PC j = lftK l (k + 1) by rw [e, HNX.out])
          clear e
          rw [HE.out]
          go_wp2
          exact ⟨⟨k + 1, rfl, hlt, rfl, belows Bc hX⟩, by simp [intOf]; omega⟩
    · have g1 : decide ((k : Int) < 9) = false := by simp; omega
      obtain rfl : k = 9 := by omega
      have e := HALL.out
      rw [e]
      go_wp2
      go_ret
      exact ⟨rfl, belows B6 hB⟩
theorem counts_walk (p : Option Addr) (l : List Bar) (cap : Nat) (w : World) (hS : Slb w p l cap) (hT : Tab w) :
    Calls Tryz.prog 8 #[.slice p l.length cap] w fun e w' => e = .returned (.bool true) ∧ Below w.heap.size w w' :=
  counts_aux (pcs l) p l cap w (fun d => rfl) hS hT
end Go.Proofs.YthdafpbmmfelpaaGreatDoor
