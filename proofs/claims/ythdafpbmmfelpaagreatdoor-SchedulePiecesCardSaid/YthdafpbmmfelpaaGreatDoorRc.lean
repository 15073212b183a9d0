/- The reference: Pieces. -/
import Derived.Test.YthdafpbmmfelpaaGreatDoorPc
namespace Go.Proofs.YthdafpbmmfelpaaGreatDoor
open Go.ChangeShapes Go.WideShapes Go.ChangeAt Go.RowKit
set_option linter.unusedVariables false
set_option linter.unusedSimpArgs false

/-- m is the greatest cutting length below b, or 0. -/
structure Mx (t : List Bar) (d b m : Int) : Prop where
  z : 0 ≤ m
  i : m = 0 ∨ hasC t d m = true ∧ m < b
  u : ∀ x, hasC t d x = true → x < b → x ≤ m
theorem Mx.nil (d b : Int) : Mx [] d b 0 := ⟨Int.le_refl _, .inl rfl, fun x h => by simp [hasC] at h⟩
theorem hasC_zero {t : List Bar} (h : ∀ x ∈ t, barB x = true) (d : Int) : hasC t d 0 = false := by
  unfold hasC
  rw [List.any_eq_false]
  intro b hb
  have := cut_bd (h b hb)
  unfold inC
  simp; intro _; omega
theorem Mx.skip {t : List Bar} {d b m : Int} {c : Bar} (h : Mx t d b m) (hc : c.size ≠ d ∨ b ≤ cutB c ∨ cutB c < m) (h5 : 5 ≤ cutB c) (hb : 0 < b) : Mx (t ++ [c]) d b m ∧ kct (t ++ [c]) d m = kct t d m := by
  have e : inC d m c = false := by
    unfold inC
    simp
    intro hs
    rcases hc with k | k | k
    · exact absurd hs k
    · rcases h.i with r | r
      · omega
      · omega
    · omega
  refine ⟨⟨h.z, ?_, fun x hx hxb => ?_⟩, by rw [kct_snoc, e]; simp⟩
  · rcases h.i with r | r
    · exact .inl r
    · exact .inr ⟨by rw [has_snoc, r.1]; rfl, r.2⟩
  · rw [has_snoc, Bool.or_eq_true] at hx
    rcases hx with hx | hx
    · exact h.u x hx hxb
    · unfold inC at hx
      simp only [Bool.and_eq_true, beq_iff_eq] at hx
      rcases hc with k | k | k
      · exact absurd hx.1 k
      · omega
      · omega
theorem Mx.more {t : List Bar} {d b m : Int} {c : Bar} (h : Mx t d b m) (hs : c.size = d) (hb : cutB c < b) (hm : m < cutB c) : Mx (t ++ [c]) d b (cutB c) ∧ kct (t ++ [c]) d (cutB c) = 0 + c.count := by
  have e : inC d (cutB c) c = true := by simp [inC, hs]
  have e0 : hasC t d (cutB c) = false := by
    cases k : hasC t d (cutB c)
    · rfl
    · have := h.u _ k hb; omega
  refine ⟨⟨by have := h.z; omega, .inr ⟨by rw [has_snoc, e]; simp, hb⟩, fun x hx hxb => ?_⟩, by rw [kct_snoc, e, kct_none e0]; simp⟩
  rw [has_snoc, Bool.or_eq_true] at hx
  rcases hx with hx | hx
  · have := h.u x hx hxb; omega
  · unfold inC at hx
    simp only [Bool.and_eq_true, beq_iff_eq] at hx
    omega
theorem Mx.same {t : List Bar} {d b m : Int} {c : Bar} (h : Mx t d b m) (hs : c.size = d) (hb : cutB c < b) (hm : cutB c = m) : Mx (t ++ [c]) d b m ∧ kct (t ++ [c]) d m = kct t d m + c.count := by
  have e : inC d m c = true := by simp [inC, hs, hm]
  refine ⟨⟨h.z, .inr ⟨by rw [has_snoc, e]; simp, by omega⟩, fun x hx hxb => ?_⟩, by rw [kct_snoc, e]; simp⟩
  rw [has_snoc, Bool.or_eq_true] at hx
  rcases hx with hx | hx
  · exact h.u x hx hxb
  · unfold inC at hx
    simp only [Bool.and_eq_true, beq_iff_eq] at hx
    omega
/-- The bound behind j lengths. -/
def bel (ks : List Int) (j : Nat) : Int := if j = 0 then 1048577 else ks.getD (j - 1) 0
theorem bel_next {l : List Bar} {d m : Int} {j : Nat} {ks : List Int} (hv : ∀ b ∈ l, barB b = true) (hd : ks.Pairwise (· > ·)) (hmem : ∀ x, x ∈ ks ↔ hasC l d x = true) (hj : j ≤ ks.length) (h : Mx l d (bel ks j) m) :
    (m = 0 ∧ j = ks.length) ∨ (∃ hl : j < ks.length, m = ks[j] ∧ 5 ≤ m ∧ m < bel ks j) := by
  have hcut : ∀ x, hasC l d x = true → 5 ≤ x ∧ x ≤ 1048576 := fun x hx => by
    obtain ⟨b, hb, e⟩ := List.any_eq_true.1 hx
    unfold inC at e
    simp only [Bool.and_eq_true, beq_iff_eq] at e
    have := cut_bd (hv b hb)
    omega
  have hlt : ∀ (i k : Nat) (hi : i < ks.length) (hk : k < ks.length), i < k → ks[k] < ks[i] := fun i k hi hk hik => List.pairwise_iff_getElem.1 hd i k hi hk hik
  have hbel : ∀ k (hk : k < ks.length), ks[k] < bel ks j ↔ j ≤ k := fun k hk => by
    unfold bel
    have hx := hcut _ ((hmem _).1 (List.getElem_mem hk))
    split
    · omega
    · rw [List.getD_eq_getElem?_getD, List.getElem?_eq_getElem (by omega)]
      show ks[k] < ks[j - 1] ↔ _
      constructor
      · intro hh
        rcases Nat.lt_or_ge k j with h1 | h1
        · exfalso
          rcases Nat.lt_or_ge k (j - 1) with h2 | h2
          · have := hlt k (j - 1) hk (by omega) h2; omega
          · obtain rfl : k = j - 1 := by omega
            omega
        · exact h1
      · intro hh
        exact hlt (j - 1) k (by omega) hk (by omega)
  rcases Nat.lt_or_ge j ks.length with hjl | hjl
  · right
    have h1 := h.u _ ((hmem _).1 (List.getElem_mem hjl)) ((hbel j hjl).2 (Nat.le_refl _))
    have h5 := (hcut _ ((hmem _).1 (List.getElem_mem hjl))).1
    rcases h.i with r | r
    · omega
    · obtain ⟨k, hk, e⟩ := List.mem_iff_getElem.1 ((hmem m).2 r.1)
      have hjk := (hbel k hk).1 (by rw [e]; exact r.2)
      refine ⟨hjl, ?_, by omega, r.2⟩
      rcases Nat.lt_or_ge j k with h2 | h2
      · have := hlt j k hjl hk h2; omega
      · obtain rfl : j = k := by omega
        exact e.symm
  · left
    refine ⟨?_, by omega⟩
    rcases h.i with r | r
    · exact r
    · obtain ⟨k, hk, e⟩ := List.mem_iff_getElem.1 ((hmem m).2 r.1)
      have hjk := (hbel k hk).1 (by rw [e]; exact r.2)
      omega
theorem bel_bd {l : List Bar} {d : Int} {ks : List Int} (hv : ∀ b ∈ l, barB b = true) (hmem : ∀ x, x ∈ ks ↔ hasC l d x = true) {j : Nat} (hj : j ≤ ks.length) : 5 ≤ bel ks j ∧ bel ks j ≤ 1048577 := by
  unfold bel
  split
  · omega
  · rw [List.getD_eq_getElem?_getD, List.getElem?_eq_getElem (by omega)]
    obtain ⟨b, hb, e⟩ := List.any_eq_true.1 ((hmem _).1 (List.getElem_mem (l := ks) (n := j - 1) (by omega)))
    unfold inC at e
    simp only [Bool.and_eq_true, beq_iff_eq] at e
    have := cut_bd (hv b hb)
    show 5 ≤ ks[j - 1] ∧ ks[j - 1] ≤ 1048577
    omega
theorem bel_succ (ks : List Int) {j : Nat} (h : j < ks.length) : bel ks (j + 1) = ks[j] := by
  unfold bel
  rw [if_neg (by omega), List.getD_eq_getElem?_getD, Nat.add_sub_cancel, List.getElem?_eq_getElem h]; rfl
set_option maxHeartbeats 16000000 in
set_option maxRecDepth 100000 in
theorem rPieces_aux (p : Option Addr) (l : List Bar) (cap : Nat) (d : Int) (w : World) (hS : Slb w p l cap) (hl : l.length ≤ 60) (hv : ∀ b ∈ l, barB b = true) (ks : List Int) (PC : List S2) (hpc : PC = ks.map fun x => (x, kct l d x)) (hd : ks.Pairwise (· > ·)) (hmem : ∀ x, x ∈ ks ↔ hasC l d x = true) (hkl : ks.length ≤ l.length) :
    Calls Tryz.prog 26 #[.slice p l.length cap, .int .i64 d] w fun e w' => ∃ v, e = .returned v ∧ Own sc 49 2 w.heap.size w' v PC ∧ Below w.heap.size w w' := by
  obtain ⟨i0, hi, hz0, hz1, hz2⟩ := info_parts info49
  have HV := Lib.hid hv
  have HK := Lib.hid hkl
  have HPC := Lib.hid hpc
  have HBN := Lib.hid (fun j m hj h => bel_next (l := l) (d := d) (m := m) (j := j) hv hd hmem hj h)
  have HBS := Lib.hid (fun j h => bel_succ ks (j := j) h)
  have hB00 : bel ks 0 = 1048577 := rfl
  have HBD := Lib.hid (fun j hj => bel_bd (l := l) (d := d) (j := j) hv hmem hj)
  clear hv hpc hd hmem hkl
  go_enter Tryz.func26, Tryz.ntmps26
  go_wp2
  go_loopw [5, 6] (fun v5 v6 wr => ∃ (j : Nat) (F : Value), v6 = .int .i64 (bel ks j) ∧ F = v5 ∧ j ≤ ks.length ∧ Own sc 49 2 w.heap.size wr F (PC.take j) ∧ Below w.heap.size w wr) (fun _ v _ => (intOf v).toNat)
  case atStart => exact ⟨0, _, by rw [hB00], rfl, Nat.zero_le _, ⟨rfl, .inl ⟨rfl, rfl⟩⟩, Below.refl _ _⟩
  case round =>
    obtain ⟨j, F, rfl, rfl, hj, hO, hB⟩ := hrel
    have HBj := Lib.hid (fun m h => HBN.out j m hj h)
    have hbpos := HBD.out j hj
    generalize bel ks j = be at *
    obtain ⟨wo, rfl⟩ : ∃ wo, wo = wr := ⟨wr, rfl⟩
    go_wp2
    go_loopw [7, 8, 9] (fun v7 v8 v9 wr => ∃ (i : Nat) (m : Int), v9 = .int .i64 i ∧ i ≤ l.length ∧ v7 = .int .i64 m ∧ v8 = .int .i64 (kct (l.take i) d m) ∧ Hid (Mx (l.take i) d be m) ∧ Below wo.heap.size wo wr) (fun _ _ v _ => l.length - (intOf v).toNat)
    case atStart => exact ⟨0, 0, rfl, Nat.zero_le _, rfl, rfl, Lib.hid (Mx.nil d be), Below.refl _ _⟩
    case round =>
      obtain ⟨i, m, rfl, hil, rfl, rfl, hM, hX⟩ := hrel
      by_cases hlt : i < l.length
      · have g1 : decide ((i : Int) < (l.length : Int)) = true := by simp [hlt]
        have W1 : IntKind.i64.wrap ((i : Int) + 1) = ((i + 1 : Nat) : Int) := by rw [IntWalk.i64_in _ (by omega)]; omega
        have q1 : (0 : Int) ≤ (i : Int) := by omega
        have q2 : (i : Int) < (l.length : Int) := by omega
        have hWX := belows hB hX
        obtain ⟨a, rfl, c0, c1, c2, c3, c4⟩ := (hS.on hWX).at_ i hlt
        have hmem := List.getElem_mem hlt
        have hcb := cut_bd (HV.out _ hmem)
        have hct := (barB_and (HV.out _ hmem)).2.2.2.2.2
        have h56 := rCut_ok l[i] wr ((hS.ok _ hmem).on hWX) (HV.out _ hmem)
        have htk : l.take (i + 1) = l.take i ++ [l[i]] := List.take_succ_eq_append_getElem hlt
        have hkb := kct_bd (l := l.take i) d m fun b hb => HV.out b (List.mem_of_mem_take hb)
        have hlk : (l.take i).length ≤ 60 := by simp; omega
        have HFr : Hid (∀ W, Below wr.heap.size wr W → W.cell? ⟨(a.add (i * 5)).block, (a.add (i * 5)).off + 1, none⟩ = some (.int .i64 l[i].size) ∧ W.cell? ⟨(a.add (i * 5)).block, (a.add (i * 5)).off + 2, none⟩ = some (.int .i64 l[i].count)) := Lib.hid fun W h => ⟨cell_later h c1, cell_later h c2⟩
        have HX := Lib.hid hX
        by_cases hc : l[i].size ≠ d ∨ be ≤ cutB l[i] ∨ cutB l[i] < m
        · obtain ⟨hN, hN2⟩ := hM.out.skip hc hcb.1 (by omega)
          have hgo : ((l[i].size != d) || (decide (cutB l[i] ≥ be) || decide (cutB l[i] < m))) = true := by
            simp; exact hc
          rw [← htk] at hN hN2
          have HN := Lib.hid (And.intro hN hN2)
          clear hN hN2 htk hmem hkb hlk hc hX hM
          rw [vcs] at h56
          generalize cutB l[i] = cu at *
          generalize kct (l.take i) d m = kc at *
          generalize l[i].mark = mk at *
          generalize l[i].size = sz at *
          generalize l[i].count = ct at *
          generalize l[i].code = cd at *
          generalize l[i].ds.length = dl at *
          generalize l[i].cap = dc at *
          generalize l[i].p = dp at *
          cases b1 : (sz != d)
          · cases b2 : decide (cu ≥ be)
            · have b3 : decide (cu < m) = true := by rw [b1, b2] at hgo; simpa using hgo
              clear hgo
              go_wp2_with (go_at_call 56; (with_reducible refine h56.mono ?_); rintro X wq ⟨rfl, hb⟩; obtain ⟨e1, e2⟩ := HFr.out _ hb)
              exact ⟨⟨i + 1, m, rfl, hlt, rfl, by rw [HN.out.2], Lib.hid HN.out.1, belows HX.out hb⟩, by simp [intOf]; omega⟩
            · clear hgo
              go_wp2_with (go_at_call 56; (with_reducible refine h56.mono ?_); rintro X wq ⟨rfl, hb⟩; obtain ⟨e1, e2⟩ := HFr.out _ hb)
              exact ⟨⟨i + 1, m, rfl, hlt, rfl, by rw [HN.out.2], Lib.hid HN.out.1, belows HX.out hb⟩, by simp [intOf]; omega⟩
          · clear hgo
            go_wp2_with (go_at_call 56; (with_reducible refine h56.mono ?_); rintro X wq ⟨rfl, hb⟩; obtain ⟨e1, e2⟩ := HFr.out _ hb)
            exact ⟨⟨i + 1, m, rfl, hlt, rfl, by rw [HN.out.2], Lib.hid HN.out.1, belows HX.out hb⟩, by simp [intOf]; omega⟩
        · have hsz : l[i].size = d := by
            rcases Decidable.em (l[i].size = d) with h | h
            · exact h
            · exact absurd (.inl h) hc
          have hlb : cutB l[i] < be := by
            rcases Int.lt_or_le (cutB l[i]) be with h | h
            · exact h
            · exact absurd (.inr (.inl h)) hc
          have hge : m ≤ cutB l[i] := by
            rcases Int.lt_or_le (cutB l[i]) m with h | h
            · exact absurd (.inr (.inr h)) hc
            · exact h
          have b1 : (l[i].size != d) = false := by simp [hsz]
          have b2 : decide (cutB l[i] ≥ be) = false := by simp; omega
          have b3 : decide (cutB l[i] < m) = false := by simp; omega
          have hz0' := hM.out.z
          by_cases hgt : m < cutB l[i]
          · obtain ⟨hN, hN2⟩ := hM.out.more hsz hlb hgt
            rw [← htk] at hN hN2
            have b4 : decide (cutB l[i] > m) = true := by simp; omega
            have W2 : IntKind.i64.wrap (0 + l[i].count) = 0 + l[i].count := IntWalk.i64_in _ (by omega)
            have HN := Lib.hid (And.intro hN hN2)
            clear hN hN2 htk hmem hkb hlk hc hX hM hsz hlb hge hgt
            rw [vcs] at h56
            generalize cutB l[i] = cu at *
            generalize kct (l.take i) d m = kc at *
            generalize l[i].mark = mk at *
            generalize l[i].size = sz at *
            generalize l[i].count = ct at *
            generalize l[i].code = cd at *
            generalize l[i].ds.length = dl at *
            generalize l[i].cap = dc at *
            generalize l[i].p = dp at *
            go_wp2_with (go_at_call 56; (with_reducible refine h56.mono ?_); rintro X wq ⟨rfl, hb⟩; obtain ⟨e1, e2⟩ := HFr.out _ hb)
            exact ⟨⟨i + 1, cu, rfl, hlt, rfl, by rw [HN.out.2, Int.zero_add], Lib.hid HN.out.1, belows HX.out hb⟩, by simp [intOf]; omega⟩
          · obtain ⟨hN, hN2⟩ := hM.out.same hsz hlb (by omega)
            rw [← htk] at hN hN2
            have b4 : decide (cutB l[i] > m) = false := by simp; omega
            have W2 : IntKind.i64.wrap (kct (l.take i) d m + l[i].count) = kct (l.take i) d m + l[i].count := IntWalk.i64_in _ (by omega)
            have HN := Lib.hid (And.intro hN hN2)
            clear hN hN2 htk hmem hkb hlk hc hX hM hsz hlb hge hgt
            rw [vcs] at h56
            generalize cutB l[i] = cu at *
            generalize kct (l.take i) d m = kc at *
            generalize l[i].mark = mk at *
            generalize l[i].size = sz at *
            generalize l[i].count = ct at *
            generalize l[i].code = cd at *
            generalize l[i].ds.length = dl at *
            generalize l[i].cap = dc at *
            generalize l[i].p = dp at *
            go_wp2_with (go_at_call 56; (with_reducible refine h56.mono ?_); rintro X wq ⟨rfl, hb⟩; obtain ⟨e1, e2⟩ := HFr.out _ hb)
            exact ⟨⟨i + 1, m, rfl, hlt, rfl, by rw [HN.out.2], Lib.hid HN.out.1, belows HX.out hb⟩, by simp [intOf]; omega⟩
      · have g1 : decide ((i : Int) < (l.length : Int)) = false := by simp; omega
        have e : l.take i = l := List.take_of_length_le (by omega)
        rw [e] at hM
        have hz := hM.out.z
        have hkb := kct_bd (l := l) d m fun b hb => HV.out b hb
        rw [e]
        rcases HBj.out m hM.out with ⟨rfl, hjl⟩ | ⟨hjl, hm, h5, hmb⟩
        · have HO := Lib.hid hO
          have HX := Lib.hid hX
          have HJ : Hid (PC.take j = PC) := Lib.hid (List.take_of_length_le (by rw [HPC.out, List.length_map, hjl]; exact Nat.le_refl _))
          clear hO hX hM hkb e
          go_wp2
          go_ret
          refine ⟨_, rfl, ?_, belows hB HX.out⟩
          have := own_on HO.out HX.out
          rw [HJ.out] at this
          exact this
        · have b5 : (m == 0) = false := by simp; omega
          have HPt : Hid (PC.take (j + 1) = PC.take j ++ [(m, kct l d m)]) := Lib.hid (by
            have h1 : j < PC.length := by rw [HPC.out, List.length_map]; exact hjl
            rw [List.take_succ_eq_append_getElem h1]
            congr 2
            have : PC[j] = (ks.map fun x => (x, kct l d x))[j]'(by rw [List.length_map]; exact hjl) := by congr 1
            rw [this, List.getElem_map, ← hm])
          have hlen : (PC.take j).length = j := by rw [List.length_take, HPC.out, List.length_map]; exact Nat.min_eq_left (by omega)
          have HE : Hid (bel ks (j + 1) = m) := Lib.hid (by rw [HBS.out j hjl, hm])
          have HB2 := Lib.hid (belows hB hX)
          have hO2 := own_on hO hX
          have hk60 := HK.out
          have HJ := Lib.hid hjl
          clear hM hkb e hm hO hX
          generalize PC.take j = O at *
          generalize kct l d m = kc at *
          have HN := Has.new_ wr 49 #[.int .i64 m, .int .i64 kc]
          have ho := own_on hO2 (al1 wr (.cells #[.int .i64 m, .int .i64 kc] 49))
          have hcl : ∀ (j : Nat) (u : Value), [Value.int .i64 m, Value.int .i64 kc][j]? = some u → (wr.alloc (.cells #[.int .i64 m, .int .i64 kc] 49)).cell? ((⟨wr.heap.size, 0, none⟩ : Addr).add j) = some u := fun j u h => by
            rw [Addr.add_lit, Nat.zero_add, HN.read j]
            simpa using h
          go_wp2_with (at_builtin; refine wpList_append_own_at _ rfl _ _ 43 rfl w.heap.size 49 i0 _ 2 16 Tryz.underlying43 hi hz0 hz1 hz2 rfl (by decide) _ O.length (O.flatMap sc) rfl ho _ 1 1 [.int .i64 m, .int .i64 kc] rfl rfl hcl (by simp [Value.oneCell']) (by unfold maxLen; omega) (by omega) (by have := HB2.out.size; simp; omega) ?_)
          intro v' w6 r1 r2 r3 r4
          have O7 : Own sc 49 2 w.heap.size w6 v' (O ++ [(m, kc)]) := own_snoc (by rw [hlen]; exact r1)
          have ob := al HB2.out (.cells #[.int .i64 m, .int .i64 kc] 49)
          have B7 : Below w.heap.size w w6 := ob.grown r2 ob.size (fun q hq => (World.ownsRow.lt hO2 q hq).1)
          have HO7 := Lib.hid O7
          have HB7 := Lib.hid B7
          clear r1 r2 r3 r4 O7 ob B7 hO2 ho hcl HN
          go_wp2
          exact ⟨⟨j + 1, _, by rw [HE.out], rfl, HJ.out, by rw [HPt.out]; exact HO7.out, HB7.out⟩, by simp [intOf]; omega⟩
theorem rPieces_any (p : Option Addr) (l : List Bar) (cap : Nat) (d : Int) (w : World) (hS : Slb w p l cap) (hl : l.length ≤ 60) (hv : ∀ b ∈ l, barB b = true) :
    Calls Tryz.prog 26 #[.slice p l.length cap, .int .i64 d] w fun e w' => ∃ v, e = .returned v ∧ Own sc 49 2 w.heap.size w' v (pcs l d) ∧ Below w.heap.size w w' :=
  rPieces_aux p l cap d w hS hl hv (pcK l d) (pcs l d) (pcs.eq_1 l d) (pcK_desc l d) (fun x => pcK_mem hv) (pcK_le l d hv)
end Go.Proofs.YthdafpbmmfelpaaGreatDoor
