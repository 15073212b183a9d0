/- SubsetsPairs: the law's walk. -/
import Derived.Test.YtepcokgpepcccaaDoorPr1
import Derived.Laws.EntriesVeiled
namespace Go.Proofs.YtepcokgpepcccaaDoor
open Go.ChangeShapes Go.WideShapes Go.ChangeAt Go.RowKit
set_option linter.unusedVariables false
set_option linter.unusedSimpArgs false
theorem OwnZ.form {B : Nat} {w : World} {v : Value} {S : List Int} (h : OwnZ B w v S) (h0 : S ≠ []) : ∃ g cap, v = .slice (some ⟨g, 0, none⟩) S.length cap ∧ S.length ≤ cap := by
  obtain ⟨hl, ⟨-, h1⟩ | ⟨g, cap, cur, rfl, hB, hg, hn, -⟩⟩ := h
  · exact absurd (List.length_eq_zero_iff.1 h1) h0
  · exact ⟨g, cap, rfl, hn⟩
theorem smz_ne (zs : List Int) : smz zs ≠ [] := fun e => by have := zero_mem zs; rw [e] at this; cases this
theorem smz_len (zs : List Int) : (smz zs).length ≤ 2 ^ zs.length := by
  have := compact_len ((sums zs).mergeSort fun x y => decide (x ≤ y))
  rw [List.length_mergeSort, sums_len] at this
  exact this
theorem sums_form (u : Value) (zs : List Int) (w : World) (hR : Rdz w u zs) (h0 : fau zs = 0) (hl : zs.length ≤ 10) :
    Calls Tryd.prog 11 #[u] w fun e w' => ∃ g cap, e = .returned (.tuple #[.slice (some ⟨g, 0, none⟩) (smz zs).length cap, .int .i64 0]) ∧ OwnZ w.heap.size w' (.slice (some ⟨g, 0, none⟩) (smz zs).length cap) (smz zs) ∧ Below w.heap.size w w' :=
  (sums_ok u zs w hR h0 hl).mono fun e w' ⟨v, he, ho, hb⟩ => by
    obtain ⟨g, cap, rfl, -⟩ := ho.form (smz_ne zs)
    exact ⟨g, cap, he, ho, hb⟩
theorem clone_own (B g cap : Nat) (S : List Int) (w : World) (h : OwnZ B w (.slice (some ⟨g, 0, none⟩) S.length cap) S) (h0 : S ≠ []) (hl : S.length ≤ 100000) :
    Calls Tryd.prog 31 #[.slice (some ⟨g, 0, none⟩) S.length cap] w fun e w' => ∃ g' c', e = .returned (.slice (some ⟨g', 0, none⟩) S.length c') ∧ OwnZ w.heap.size w' (.slice (some ⟨g', 0, none⟩) S.length c') S ∧ S.length ≤ c' ∧ Below w.heap.size w w' := by
  refine (Tryd.slices_Clone_int g 0 S.length cap S w (Nat.le_refl _) (by omega) (fun j hj => by rw [Nat.zero_add, h.at_ hj]; simp [List.getD, hj])).mono ?_
  rintro e w' ⟨v', rfl, ho, -, hb⟩
  rw [List.take_length] at ho
  have ho : OwnZ w.heap.size w' v' S := ho
  obtain ⟨g', c', rfl, hc⟩ := ho.form h0
  exact ⟨g', c', rfl, ho, hc, hb⟩
theorem compact_own (B g cap : Nat) (S : List Int) (w : World) (h : OwnZ B w (.slice (some ⟨g, 0, none⟩) S.length cap) S) (hc : S.length ≤ cap) (hl : S.length ≤ 100000) (ha : Asc S) :
    Calls Tryd.prog 30 #[.slice (some ⟨g, 0, none⟩) S.length cap] w fun e w' => e = .returned (.slice (some ⟨g, 0, none⟩) S.length cap) ∧ Below B w w' := by
  refine (compactz_any B g cap S w h hl hc).mono ?_
  rintro e w' ⟨rfl, -, hb⟩
  rw [asc_compact ha]
  exact ⟨rfl, hb⟩
theorem cont_own (B g cap : Nat) (S : List Int) (x : Int) (w : World) (h : OwnZ B w (.slice (some ⟨g, 0, none⟩) S.length cap) S) (hl : S.length ≤ 100000) :
    Calls Tryd.prog 32 #[.slice (some ⟨g, 0, none⟩) S.length cap, .int .i64 x] w fun e w' => e = .returned (.bool (decide (x ∈ S))) ∧ w' = w := by
  refine (Tryd.slices_Contains_int g 0 S.length cap S x w (Nat.le_refl _) (by omega) (fun j hj => by rw [Nat.zero_add, h.at_ hj]; simp [List.getD, hj])).mono ?_
  rintro e w' ⟨rfl, rfl⟩
  rw [List.take_length]
  refine ⟨?_, rfl⟩
  congr 2
  rw [Bool.eq_iff_iff]
  simp
theorem Good.len {w : World} {zs : List Int} {o : Option Nat} {x : Value} {c : Int} (h : Good w zs o x c) (hl : zs.length ≤ 10) : ∃ q n cc, x = .slice q n cc ∧ n ≤ zs.length := by
  cases o with
  | none => exact ⟨none, 0, 0, h.1, Nat.zero_le _⟩
  | some b =>
    obtain ⟨-, hb, q, cc, e, -⟩ := h
    refine ⟨q, _, cc, e, ?_⟩
    rw [ixs_more _ _ _ hb hl, toZ_len]
    exact ixs_len _ _
theorem sorted_own (B g cap : Nat) (S : List Int) (w : World) (h : OwnZ B w (.slice (some ⟨g, 0, none⟩) S.length cap) S) (hl : S.length ≤ 100000) (ha : Asc S) :
    Calls Tryd.prog 29 #[.slice (some ⟨g, 0, none⟩) S.length cap] w fun e w' => e = .returned (.bool true) ∧ Below w.heap.size w w' :=
  (sorted_asc _ S w h.rd hl ha).mono fun e w' ⟨h1, n, h2⟩ => ⟨h1, by subst h2; exact below_drewN (Below.refl _ _) n⟩
def zeroI (b : Bool) : Int := if b then 0 else 12
theorem Good.code {w : World} {zs : List Int} {o : Option Nat} {x : Value} {c : Int} (h : Good w zs o x c) : c = zeroI o.isSome := by
  cases o with
  | none => exact h.2
  | some b => exact h.1
theorem new1_read (w : World) (o : Obj) (t : TypeId) (v : Value) : ((w.alloc o).alloc (.cells #[v] t)).cell? ⟨w.heap.size + 1, 0, none⟩ = some v := by
  rw [← show (w.alloc o).heap.size = w.heap.size + 1 by simp]
  exact Has.read (Has.new_ (w.alloc o) t #[v]) 0
theorem near_full (u : Value) (zs : List Int) (sum : Int) (w : World) (hR : Rdz w u zs) (hT : Tab w) (h0 : fau zs = 0) (hl : zs.length ≤ 10) (ho : outR sum = false) :
    Calls Tryd.prog 12 #[u, .int .i64 sum] w fun e w' => ∃ n q ny cc, e = .returned (.tuple #[.int .i64 n, .slice q ny cc, .int .i64 0]) ∧ Hid (Least sum (sums zs) n) ∧ ny ≤ zs.length ∧ Below w.heap.size w w' :=
  (near_ok u zs sum w hR hT h0 hl ho).mono fun e w' ⟨n, x, c, he, hL, hG, hb⟩ => by
    obtain ⟨q, ny, cc, rfl, hny⟩ := hG.len hl
    have hc := hG.code
    rw [bySum_is, decide_eq_true (((smz_asc zs).2 n).2 hL.out.1)] at hc
    subst hc
    exact ⟨n, q, ny, cc, he, hL, hny, hb⟩
theorem find_none (u : Value) (zs : List Int) (sum : Int) (w : World) (hR : Rdz w u zs) (hT : Tab w) (h0 : fau zs = 0) (hl : zs.length ≤ 10) (ho : fst (bySum zs sum) (2 ^ zs.length) = none) :
    Calls Tryd.prog 19 #[u, .int .i64 sum] w fun e w' => e = .returned (.tuple #[.slice none 0 0, .int .i64 12]) ∧ Below w.heap.size w w' :=
  (find_good u zs sum w hR hT h0 hl).mono fun e w' ⟨x, c, he, hG, hb⟩ => by
    rw [ho] at hG
    obtain ⟨rfl, rfl⟩ := hG
    exact ⟨he, hb⟩
theorem find_some (u : Value) (zs : List Int) (sum : Int) (b : Nat) (X : List Int) (hX : X = toZ (ixs zs.length b)) (w : World) (hR : Rdz w u zs) (hT : Tab w) (h0 : fau zs = 0) (hl : zs.length ≤ 10) (ho : fst (bySum zs sum) (2 ^ zs.length) = some b) :
    Calls Tryd.prog 19 #[u, .int .i64 sum] w fun e w' => ∃ q cc, e = .returned (.tuple #[.slice q X.length cc, .int .i64 0]) ∧ Rdz w' (.slice q X.length cc) X ∧ Below w.heap.size w w' :=
  (find_good u zs sum w hR hT h0 hl).mono fun e w' ⟨x, c, he, hG, hb⟩ => by
    rw [ho] at hG
    obtain ⟨rfl, hb2, hx⟩ := hG
    rw [ixs_more _ _ _ hb2 hl, ← hX] at hx
    obtain ⟨q, cc, rfl, k⟩ := hx
    exact ⟨q, cc, he, ⟨q, cc, rfl, k⟩, hb⟩
set_option maxRecDepth 100000 in
set_option maxHeartbeats 8000000 in
theorem pairs_walk (u : Value) (zs : List Int) (sum : Int) (w : World) (hR : Rdz w u zs) (hI : I64 sum) (hT : Tab w) :
    Calls Tryd.prog 6 #[u, .int .i64 sum] w fun e w' => e = .returned (.bool true) ∧ Below w.heap.size w w' := by
  obtain ⟨uq, ucc, rfl, hq⟩ := hR
  have hR : Rdz w (.slice uq zs.length ucc) zs := ⟨uq, ucc, rfl, hq⟩
  have b0 := al1 w (.cells #[.int .i64 sum] 3)
  have cz : (w.alloc (.cells #[.int .i64 sum] 3)).cell? ⟨w.heap.size, 0, none⟩ = some (.int .i64 sum) := Has.read (Has.new_ w 3 #[.int .i64 sum]) 0
  have hR0 := hR.on b0
  have hT0 := hT.on b0
  clear hq hR
  go_enter Tryd.func6, Tryd.ntmps6
  by_cases hl : 10 < zs.length
  · have g1 : decide ((10 : Int) < (zs.length : Int)) = true := by simp; omega
    go_wp2_with (go_at_call 9; (with_reducible refine (awake_any _ hT0).mono ?_); rintro e1 w1 ⟨rfl, b1⟩; have cz := cell_later b1 cz)
    go_ret
    exact ⟨rfl, belows b0 b1⟩
  have g1 : decide ((10 : Int) < (zs.length : Int)) = false := by simp; omega
  have hG := fun w h => given_any (.slice uq zs.length ucc) zs w h
  by_cases h0 : fau zs ≠ 0
  · obtain ⟨f, ef⟩ : ∃ f, fau zs = f := ⟨_, rfl⟩
    rw [ef] at hG h0
    have g : (f != 0) = true := by simp [h0]
    clear ef
    go_wp2_with (first
      | (go_at_call 9; (with_reducible refine (awake_any _ hT0).mono ?_); rintro e1 w1 ⟨rfl, b1⟩; have cz := cell_later b1 cz; have R1 := hR0.on b1)
      | (go_at_call 13; (with_reducible refine (hG _ R1).mono ?_); rintro e2 w2 ⟨rfl, hw⟩; subst w2))
    go_ret
    exact ⟨rfl, belows b0 b1⟩
  have h0 : fau zs = 0 := Classical.not_not.1 h0
  rw [h0] at hG
  by_cases ho : outR sum = true
  · by_cases h1 : sum < -1152921504606846976
    · have g2 : decide (sum < -1152921504606846976) = true := by simp [h1]
      go_wp2_with (first
        | (go_at_call 9; (with_reducible refine (awake_any _ hT0).mono ?_); rintro e1 w1 ⟨rfl, b1⟩; have cz := cell_later b1 cz; have R1 := hR0.on b1)
        | (go_at_call 13; (with_reducible refine (hG _ R1).mono ?_); rintro e2 w2 ⟨rfl, hw⟩; subst w2))
      go_ret
      exact ⟨rfl, belows b0 b1⟩
    · have g2 : decide (sum < -1152921504606846976) = false := by simp; omega
      have g3 : decide (1152921504606846976 < sum) = true := by unfold outR at ho; rw [g2] at ho; simpa using ho
      go_wp2_with (first
        | (go_at_call 9; (with_reducible refine (awake_any _ hT0).mono ?_); rintro e1 w1 ⟨rfl, b1⟩; have cz := cell_later b1 cz; have R1 := hR0.on b1)
        | (go_at_call 13; (with_reducible refine (hG _ R1).mono ?_); rintro e2 w2 ⟨rfl, hw⟩; subst w2))
      go_ret
      exact ⟨rfl, belows b0 b1⟩
  have ho : outR sum = false := by simpa using ho
  have g2 : decide (sum < -1152921504606846976) = false := by unfold outR at ho; simp at ho ⊢; omega
  have g3 : decide (1152921504606846976 < sum) = false := by unfold outR at ho; simp at ho ⊢; omega
  have hsum : Sml sum := by unfold outR at ho; simp at ho; unfold Sml; omega
  have hl10 : zs.length ≤ 10 := by omega
  have hz := (fau_zero h0).2
  have HS := fun w h => sums_form (.slice uq zs.length ucc) zs w h h0 hl10
  have HN := fun w h t => near_full (.slice uq zs.length ucc) zs sum w h t h0 hl10 ho
  have HFn := fun w h t => find_none (.slice uq zs.length ucc) zs sum w h t h0 hl10
  have HFs := fun b X hX w h t => find_some (.slice uq zs.length ucc) zs sum b X hX w h t h0 hl10
  have HTt := fun w h => total_any (.slice uq zs.length ucc) zs w h (by omega) hz
  have hA := (smz_asc zs).1
  have hmem := (smz_asc zs).2
  have h0S := zero_mem zs
  have hne := smz_ne zs
  have hpair := fun i => smz_pair zs i
  have hN2 : (smz zs).length ≤ 1024 := Nat.le_trans (smz_len zs) (Nat.pow_le_pow_right (n := 2) (by omega) hl10)
  have hbs := bySum_is zs sum
  have hsml : ∀ x ∈ smz zs, Sml x := fun x hx => sums_sml hz hl10 x ((hmem x).1 hx)
  obtain ⟨T, hTT⟩ : ∃ T, tot zs zs.length = T := ⟨_, rfl⟩
  rw [hTT] at HTt hpair
  obtain ⟨S, hSS⟩ : ∃ S, smz zs = S := ⟨_, rfl⟩
  rw [hSS] at HS hA hmem h0S hne hpair hN2 hbs hsml
  have hpos : 0 < S.length := List.length_pos_iff.2 hne
  have c1 := fun B g cap w h => sorted_own B g cap S w h (by omega) hA
  have c2 := fun B g cap w h => clone_own B g cap S w h hne (by omega)
  have c3 := fun B g cap w h k => compact_own B g cap S w h k (by omega) hA
  have c4 := fun B g cap x w h => cont_own B g cap S x w h (by omega)
  have c40 := fun B g cap w h => c4 B g cap 0 w h
  rw [decide_eq_true h0S] at c40
  have HSS := Lib.hid hSS
  obtain ⟨m, hm⟩ : ∃ m, S.length = m := ⟨_, rfl⟩
  have HM := Lib.hid hm
  have HP := Lib.hid hpair
  have HMM := Lib.hid hmem
  have HSML := Lib.hid hsml
  rw [hm] at HS hN2 c1 c2 c3 c4 c40 hpos
  have g4 : ((m : Int) == 0) = false := by simp; omega
  have g5 : ((m : Int) != (m : Int)) = false := by simp
  clear hTT hSS hm hpair h0S hne hA h0 ho hmem hsml
  go_upto_region 8 with (first
    | (go_at_call 9; (with_reducible refine (awake_any _ hT0).mono ?_); rintro e1 w1 ⟨rfl, b1⟩; have cz := cell_later b1 cz; have R1 := hR0.on b1; have T1 := hT0.on b1)
    | (go_at_call 13; (with_reducible refine (hG _ R1).mono ?_); rintro e2 w2 ⟨rfl, hw⟩; subst w2)
    | (go_at_call 11; (with_reducible refine (HS _ R1).mono ?_); rintro e3 w3 ⟨g, cap, rfl, o3, b3⟩; have cz := cell_later b3 cz; have R3 := R1.on b3; have T3 := T1.on b3)
    | (go_at_call 29; (with_reducible refine (c1 _ _ _ _ o3).mono ?_); rintro e4 w4 ⟨rfl, b4⟩; have o4 := o3.on b4)
    | (go_at_call 31; (with_reducible refine (c2 _ _ _ _ o4).mono ?_); rintro e5 w5 ⟨g', c', rfl, o5, l5, b5⟩)
    | (go_at_call 30; (with_reducible refine (c3 _ _ _ _ o5 l5).mono ?_); rintro e6 w6 ⟨rfl, b6⟩; have b56 := b5.trans b6; have o6 := o4.on b56)
    | (go_at_call 32; (with_reducible refine (c40 _ _ _ _ o6).mono ?_); rintro e7 w7 ⟨rfl, hw⟩; subst w7))
  have cz := cell_later b56 (cell_later b4 cz)
  have R6 := (R3.on b4).on b56
  have T6 := (T3.on b4).on b56
  have bb := belows (belows (belows (belows b0 b1) b3) b4) b56
  clear c1 c2 c3 c40 HS hG R1 T1 R3 T3 o3 o4 o5 l5 b0 b1 b3 b4 b5 b6 b56 hR0 hT0
  go_upto_region 9 with (go_at_call 33; (with_reducible refine (HTt _ R6).mono ?_); rintro e8 w8 ⟨rfl, hw⟩; subst w8)
  have O6 := Lib.hid o6
  obtain ⟨m1, hm1⟩ : ∃ m1, m - 1 = m1 := ⟨_, rfl⟩
  have HM1 := Lib.hid hm1
  have W0 : IntKind.i64.wrap ((m : Int) - 1) = (m1 : Int) := by rw [IntWalk.i64_in _ (by omega)]; omega
  have gT : (T != T) = false := by simp
  clear hm1
  go_wp2
  go_loopw [71] (fun v wr => ∃ k : Nat, v = .int .i64 k ∧ k ≤ m ∧ Below w6.heap.size w6 wr) (fun v _ => m - (intOf v).toNat)
  case atStart => exact ⟨0, rfl, Nat.zero_le _, Below.refl _ _⟩
  case round =>
    obtain ⟨k, rfl, hk, hB⟩ := hrel
    by_cases hlt : k < m
    · have gd : decide ((k : Int) < (m : Int)) = true := by simp [hlt]
      have hkS : k < S.length := by rw [HM.out]; exact hlt
      have hjS : S.length - 1 - k < S.length := by omega
      have hpr := HP.out k hkS hjS
      have cx := (O6.out.on hB).at_ hkS
      have cy := (O6.out.on hB).at_ hjS
      have s1 := HSML.out _ (List.getElem_mem hkS)
      have s2 := HSML.out _ (List.getElem_mem hjS)
      obtain ⟨x, hx⟩ : ∃ x, x = S[k] := ⟨_, rfl⟩
      obtain ⟨y, hy⟩ : ∃ y, y = S[S.length - 1 - k] := ⟨_, rfl⟩
      obtain ⟨j, hj⟩ : ∃ j, j = S.length - 1 - k := ⟨_, rfl⟩
      rw [← hx] at hpr cx s1
      rw [← hy] at hpr cy s2
      rw [← hj] at cy
      have hjm : j = m1 - k ∧ k ≤ m1 ∧ m1 < m := by have := HM.out; have := HM1.out; omega
      unfold Sml at s1 s2
      have W1 : IntKind.i64.wrap ((k : Int) + 1) = ((k + 1 : Nat) : Int) := by rw [IntWalk.i64_in _ (by omega)]; omega
      have W2 : IntKind.i64.wrap ((m1 : Int) - (k : Int)) = (j : Int) := by rw [IntWalk.i64_in _ (by omega)]; omega
      have W3 : IntKind.i64.wrap (x + y) = T := by rw [IntWalk.i64_in _ (by omega)]; exact hpr
      have q1 : (0 : Int) ≤ (k : Int) := by omega
      have q2 : (k : Int) < (m : Int) := by omega
      have q3 : (0 : Int) ≤ (j : Int) := by omega
      have q4 : (j : Int) < (m : Int) := by omega
      clear hpr hx hy hj hjS hkS hjm s1 s2
      go_wp2_with fail
      go_quiet (fail)
      go_wp2
      exact ⟨⟨k + 1, rfl, hlt, below_drewN hB _⟩, by simp [intOf]; omega⟩
    · have gd : decide ((k : Int) < (m : Int)) = false := by simp; omega
      have R7 := R6.on hB
      have T7 := T6.on hB
      have cz7 := cell_later hB cz
      have o7 := O6.out.on hB
      have b7 := belows bb hB
      clear R6 T6 O6 bb o6
      have c4s := fun w h => c4 w1.heap.size g cap sum w h
      cases hoo : fst (bySum zs sum) (2 ^ zs.length) with
      | none =>
        rw [hoo] at hbs
        have hbs : decide (sum ∈ S) = false := hbs.symm
        rw [hbs] at c4s
        have HF := fun w h t => HFn w h t hoo
        clear HFn HFs hbs hoo
        go_upto_region 29 with (first
          | (go_at_call 19; (with_reducible refine (HF _ R7 T7).mono ?_); rintro e8 w8 ⟨rfl, b8⟩; have R8 := R7.on b8; have T8 := T7.on b8; have cz8 := cell_later b8 cz7; have o8 := o7.on b8; have bb8 := belows b7 b8)
          | (go_at_call 32; (with_reducible refine (c4s _ o8).mono ?_); rintro e9 w9 ⟨rfl, hw⟩; subst w9))
        clear R7 T7 cz7 o7 b7 b8
        go_wp2_with (first
          | (go_at_call 12; (with_reducible refine (HN _ R8 T8).mono ?_); rintro e10 w10 ⟨n, qy, ny, cy, rfl, hL, hny, b10⟩; have cz10 := cell_later (al1 w10 (.cells #[.int .i64 n] 3)) (cell_later b10 cz8); have cn10 : (w10.alloc (.cells #[.int .i64 n] 3)).cell? ⟨w10.heap.size, 0, none⟩ = some (.int .i64 n) := Has.read (Has.new_ w10 3 _) 0; have o10 := (o8.on b10).on (al1 w10 (.cells #[.int .i64 n] 3)); have c5 := c4 _ _ _ n _ o10; rw [decide_eq_true ((HMM.out n).2 hL.out.1)] at c5; have gy : decide ((zs.length : Int) < (ny : Int)) = false := (by simp; omega); have Q := outn_any _ S _ _ _ n sum _ (o10.on (al1 _ (.cells #[.func (.func 34) #[] #[.pointer (some ⟨w.heap.size, 0, none⟩)]] 49))).rd (by rw [HM.out]; omega) HSML.out (HSML.out n ((HMM.out n).2 hL.out.1)) hsum (cell_later (al1 _ _) cz10) (new1_read _ _ _ _) (cell_later (al1 _ _) cn10) (fun x hx => hL.out.2 x ((HMM.out x).1 hx)))
          | (go_at_call 32; (with_reducible refine c5.mono ?_); rintro e11 w11 ⟨rfl, hw⟩; subst w11)
          | (go_at_call 35; (with_reducible refine Q.mono ?_); rintro e12 w12 ⟨rfl, nd, rfl⟩))
        go_ret
        exact ⟨rfl, below_drewN (belows (belows (belows bb8 b10) (al1 w10 _)) (al1 _ _)) nd⟩
      | some b =>
        rw [hoo] at hbs
        have hbs : decide (sum ∈ S) = true := hbs.symm
        rw [hbs] at c4s
        obtain ⟨hb1, hb2⟩ := bySum_some hoo
        have hXl : (toZ (ixs zs.length b)).length ≤ zs.length := by rw [toZ_len]; exact ixs_len _ _
        have hXa := ixs_asc zs.length b
        have hXn := fun j h => toZ_at (ixs zs.length b) j h
        have hXlt : ∀ n, n ∈ ixs zs.length b → n < zs.length := fun n h => ixs_lt _ _ _ h
        have hXp : pick zs (toZ (ixs zs.length b)) = sum := by rw [pick_ixs]; exact hb2
        obtain ⟨X, hX⟩ : ∃ X, X = toZ (ixs zs.length b) := ⟨_, rfl⟩
        have HF := fun w h t => HFs b X hX w h t hoo
        rw [← hX] at hXl hXa hXn hXp
        have HXA := Lib.hid hXa
        have HXN : Hid (∀ j (h : j < X.length), ∃ n : Nat, X[j] = (n : Int) ∧ n < zs.length) := Lib.hid fun j h => by
          obtain ⟨n, e, hn⟩ := hXn j h
          exact ⟨n, e, hXlt n hn⟩
        have HXP := Lib.hid hXp
        clear HFn HFs hbs hoo hX hXa hXn hXp hXlt hb1 hb2
        go_upto_region 20 with (first
          | (go_at_call 19; (with_reducible refine (HF _ R7 T7).mono ?_); rintro e8 w8 ⟨xq, xc, rfl, hx8, b8⟩; have R8 := R7.on b8; have T8 := T7.on b8; have cz8 := cell_later b8 cz7; have o8 := o7.on b8; have bb8 := belows b7 b8)
          | (go_at_call 32; (with_reducible refine (c4s _ o8).mono ?_); rintro e9 w9 ⟨rfl, hw⟩; subst w9))
        clear R7 T7 cz7 o7 b7 b8
        have HX8 := Lib.hid hx8
        have HR8 := Lib.hid R8
        clear hx8
        go_wp2
        go_loopw [11, 106] (fun v11 v wr => ∃ k : Nat, v = .int .i64 k ∧ k ≤ X.length ∧ v11 = .int .i64 (pick zs (X.take k)) ∧ w8 = wr) (fun _ v _ => X.length - (intOf v).toNat)
        case atStart => exact ⟨0, rfl, Nat.zero_le _, by simp [pick], rfl⟩
        case round =>
          obtain ⟨k, rfl, hk, rfl, rfl⟩ := hrel
          by_cases hlt : k < X.length
          · have gd : decide ((k : Int) < (X.length : Int)) = true := by simp [hlt]
            obtain ⟨xq', xc', exq, hcx⟩ := HX8.out
            simp only [Value.slice.injEq] at exq
            obtain ⟨rfl, -, rfl⟩ := exq
            obtain ⟨ax, eax, cx⟩ := hcx k hlt
            have cprev := fun (h : k - 1 < X.length) => hcx (k - 1) h
            have hasc := fun (h : k - 1 < X.length) (h0 : 0 < k) => List.pairwise_iff_getElem.1 HXA.out (k - 1) k h hlt (by omega)
            obtain ⟨j, ej, hj⟩ := HXN.out k hlt
            obtain ⟨uq', ucc', euq, hcu⟩ := HR8.out
            simp only [Value.slice.injEq] at euq
            obtain ⟨rfl, -, rfl⟩ := euq
            obtain ⟨au, eau, cu⟩ := hcu j hj
            subst eax eau
            have e1 : pick zs (X.take (k + 1)) = pick zs (X.take k) + zs.getD j 0 := by rw [pick_take zs X k hlt, ej]; rfl
            have i1 := pick_in hz (X.take (k + 1))
            have li : (X.take (k + 1)).length ≤ 10 := by rw [List.length_take]; omega
            have ez : zs[j] = zs.getD j 0 := by simp [List.getD, hj]
            rw [ez] at cu
            rw [ej] at cx hasc
            obtain ⟨p, hp⟩ : ∃ p, pick zs (X.take k) = p := ⟨_, rfl⟩
            obtain ⟨p', hp'⟩ : ∃ p, pick zs (X.take (k + 1)) = p := ⟨_, rfl⟩
            obtain ⟨z, hzz⟩ : ∃ z, zs.getD j 0 = z := ⟨_, rfl⟩
            rw [hp, hp', hzz] at e1
            rw [hp'] at i1
            rw [hzz] at cu
            rw [hp]
            have HP' := Lib.hid hp'
            have W1 : IntKind.i64.wrap ((k : Int) + 1) = ((k + 1 : Nat) : Int) := by rw [IntWalk.i64_in _ (by omega)]; omega
            have W3 : IntKind.i64.wrap (p + z) = p' := by rw [IntWalk.i64_in _ (by omega)]; omega
            have q1 : (0 : Int) ≤ (k : Int) := by omega
            have q2 : (k : Int) < (X.length : Int) := by omega
            have q3 : (0 : Int) ≤ (j : Int) := by omega
            have q4 : (j : Int) < (zs.length : Int) := by omega
            have gj1 : decide ((j : Int) < 0) = false := by simp
            have gj2 : decide ((zs.length : Int) ≤ (j : Int)) = false := by simp; omega
            clear hp hp' hzz ej e1 i1 ez hcu
            by_cases hk0 : k = 0
            · have gk : decide ((0 : Int) < (k : Int)) = false := by simp; omega
              have gk2 : ¬ 0 < k := by omega
              have gk3 : decide (0 < k) = false := by simp; omega
              clear cprev hasc hcx hk0
              go_wp2
              exact ⟨⟨k + 1, rfl, hlt, by rw [HP'.out], trivial⟩, by simp [intOf]; omega⟩
            · have gk : decide ((0 : Int) < (k : Int)) = true := by simp; omega
              have hk1 : k - 1 < X.length := by omega
              obtain ⟨ax', eax', cp⟩ := cprev hk1
              simp only [Option.some.injEq] at eax'
              subst eax'
              have hasc := hasc hk1 (by omega)
              obtain ⟨y, hy⟩ : ∃ y, X[k - 1] = y := ⟨_, rfl⟩
              rw [hy] at hasc cp
              have W4 : IntKind.i64.wrap ((k : Int) - 1) = (k : Int) - 1 := IntWalk.i64_in _ (by omega)
              have gy2 : decide ((j : Int) ≤ y) = false := by simp; omega
              have q5 : (0 : Int) ≤ (k : Int) - 1 := by omega
              have q6 : (k : Int) - 1 < (X.length : Int) := by omega
              clear hy hasc cprev hcx hk0
              go_wp2
              exact ⟨⟨k + 1, rfl, hlt, by rw [HP'.out], trivial⟩, by simp [intOf]; omega⟩
          · have gd : decide ((k : Int) < (X.length : Int)) = false := by simp; omega
            have ek : pick zs (X.take k) = sum := by rw [List.take_of_length_le (by omega)]; exact HXP.out
            have R8 := HR8.out
            rw [ek]
            clear ek
            go_wp2_with (first
              | (go_at_call 12; (with_reducible refine (HN _ R8 T8).mono ?_); rintro e10 w10 ⟨n, qy, ny, cy, rfl, hL, hny, b10⟩; have cz10 := cell_later (al1 w10 (.cells #[.int .i64 n] 3)) (cell_later b10 cz8); have cn10 : (w10.alloc (.cells #[.int .i64 n] 3)).cell? ⟨w10.heap.size, 0, none⟩ = some (.int .i64 n) := Has.read (Has.new_ w10 3 _) 0; have o10 := (o8.on b10).on (al1 w10 (.cells #[.int .i64 n] 3)); have c5 := c4 _ _ _ n _ o10; rw [decide_eq_true ((HMM.out n).2 hL.out.1)] at c5; have gy : decide ((zs.length : Int) < (ny : Int)) = false := (by simp; omega); have Q := outn_any _ S _ _ _ n sum _ (o10.on (al1 _ (.cells #[.func (.func 34) #[] #[.pointer (some ⟨w.heap.size, 0, none⟩)]] 49))).rd (by rw [HM.out]; omega) HSML.out (HSML.out n ((HMM.out n).2 hL.out.1)) hsum (cell_later (al1 _ _) cz10) (new1_read _ _ _ _) (cell_later (al1 _ _) cn10) (fun x hx => hL.out.2 x ((HMM.out x).1 hx)))
              | (go_at_call 32; (with_reducible refine c5.mono ?_); rintro e11 w11 ⟨rfl, hw⟩; subst w11)
              | (go_at_call 35; (with_reducible refine Q.mono ?_); rintro e12 w12 ⟨rfl, nd, rfl⟩))
            go_ret
            exact ⟨rfl, below_drewN (belows (belows (belows bb8 b10) (al1 w10 _)) (al1 _ _)) nd⟩
end Go.Proofs.YtepcokgpepcccaaDoor
