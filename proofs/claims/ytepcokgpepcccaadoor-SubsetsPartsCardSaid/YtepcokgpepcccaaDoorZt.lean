/- Small facts for the reference's Parts. The reference's Parts. Where the whole does not balance; whether some list is long. What the reference's Check asks, without the program. The reference's Check: one number after the other. The reference's Check. SubsetsParts: the law's walk. -/
import Derived.Test.YtepcokgpepcccaaDoorCt0
import Derived.Test.YtepcokgpepcccaaDoorCk2
import Derived.Test.YtepcokgpepcccaaDoorMsw
import Derived.Test.YtepcokgpepcccaaDoorLawO
namespace Go.Proofs.YtepcokgpepcccaaDoor
open Go.ChangeShapes Go.WideShapes Go.ChangeAt Go.RowKit
set_option linter.unusedVariables false
set_option linter.unusedSimpArgs false

theorem pr_earl {n s t : Nat} (hs : s < 2 ^ n) (ht : t < 2 ^ n) (h : Pr s t) (hn : ¬ Sub t s) : earlN (ixs n s) (ixs n t) = true ∧ earlN (ixs n t) (ixs n s) = false := by
  obtain ⟨i, a, b, c⟩ := h
  have hi : i < n := by
    apply Nat.lt_of_not_le
    intro k
    rw [bit_hi hs k] at a; cases a
  obtain ⟨m, rfl⟩ : ∃ m, n = i + (m + 1) := ⟨n - i - 1, by omega⟩
  have hP : ixs i s = ixs i t := by
    unfold ixs
    exact List.filter_congr fun j hj => c j (List.mem_range.1 hj)
  rw [ixs_at, ixs_at, hP, earlN_app, earlN_app, a, b]
  simp only [if_true, Bool.false_eq_true, if_false, List.nil_append, List.singleton_append]
  have g2 := fun x => @rs_gt i m t x
  have hne : rs i m t ≠ [] := fun e => hn fun j hj => by
    rcases Nat.lt_trichotomy j i with l | l | l
    · rw [c j l]; exact hj
    · subst l; exact a
    · exfalso
      have hjn : j < i + (m + 1) := by
        apply Nat.lt_of_not_le
        intro k
        rw [bit_hi ht k] at hj; cases hj
      have : j ∈ rs i m t := by
        unfold rs
        exact List.mem_filter.2 ⟨List.mem_map.2 ⟨j - i - 1, List.mem_range.2 (by omega), by omega⟩, hj⟩
      rw [e] at this; cases this
  cases hB : rs i m t with
  | nil => exact absurd hB hne
  | cons y ys =>
    have := g2 y (by rw [hB]; exact List.mem_cons_self ..)
    rw [earlN, if_neg (by omega), earlN, if_neg (by omega)]
    exact ⟨decide_eq_true this, decide_eq_false (by omega)⟩
theorem earl_pr {n s t : Nat} (hn : n ≤ 10) (hs : s < 2 ^ n) (ht : t < 2 ^ n) (h1 : ¬ Sub s t) (h2 : ¬ Sub t s) : earl (toZ (ixs n s)) (toZ (ixs n t)) = true ↔ Pr s t := by
  have h10 : 2 ^ n ≤ 1024 := Nat.pow_le_pow_right (n := 2) (by omega) hn
  rw [earl_toZ]
  have hne : s ≠ t := fun e => by subst e; exact h1 (Sub.refl _)
  rcases pr_total (by omega : s < 1024) (by omega : t < 1024) hne with k | k
  · exact ⟨fun _ => k, fun _ => (pr_earl hs ht k h2).1⟩
  · constructor
    · intro h; rw [(pr_earl ht hs k h1).2] at h; cases h
    · intro h; exact (pr_not h k).elim
theorem seen0_end {Q : Nat → Prop} {r b : Nat} (hQ : ∀ t, Q t → Sub t r ∧ t ≠ 0) (h : IsFirst (Seen Q 0 r 1) b) : IsFirst Q b :=
  first_cong (fun t => ⟨fun h => h.1, fun q => ⟨q, t, (hQ t q).1, by have := (hQ t q).2; omega, (Nat.zero_or t).symm⟩⟩) h
theorem seen0_step {Q : Nat → Prop} {r x b : Nat} (hx : Sub x r) (h0 : x ≠ 0) (h : IsFirst (Seen Q 0 r x) b) : IsFirst (Seen Q 0 r ((x - 1 &&& r) + 1)) b := seen_step hx h0 h
theorem seen_cand {zs : List Int} {r lo b : Nat} (h : IsFirst (Seen (cand (SF zs) (MF zs) r) 0 r lo) b) (hb : b ≠ 0) : cand (SF zs) (MF zs) r b ∧ lo ≤ b := by
  rcases h.1 with e | ⟨q, y, a, l, e⟩
  · exact absurd e hb
  · rw [Nat.zero_or] at e
    subst e
    exact ⟨q, l⟩
theorem rd_ind (u : Value) (zs : List Int) (s : Nat) (w : World) (hR : Rdz w u zs) (hl : zs.length ≤ 10) (hs : s < 1024) :
    Calls Tryd.prog 17 #[u, .int .i64 s] w fun e w' => ∃ q n c, e = .returned (.slice q n c) ∧ Hid (OwnZ w.heap.size w' (.slice q n c) (toZ (ixs zs.length s))) ∧ Below w.heap.size w w' := by
  refine (rindices_any u zs s w hR hl hs).mono ?_
  rintro e w' ⟨v, rfl, h, hb⟩
  obtain ⟨q, c, e, k⟩ := h.cell
  subst e
  exact ⟨q, _, c, rfl, Lib.hid h, hb⟩
theorem earl_is (v v' : Value) (xs ys : List Int) (b : Bool) (w : World) (h1 : Rdz w v xs) (h2 : Rdz w v' ys) (hx : xs.length ≤ 100000) (hb : earl xs ys = b) :
    Calls Tryd.prog 51 #[v, v'] w fun e w' => e = .returned (.bool b) ∧ Below w.heap.size w w' :=
  (earl_any v v' xs ys w h1 h2 hx).mono fun e w' ⟨a, n, k⟩ => ⟨by rw [a, hb], by subst k; exact below_drewN (Below.refl _ _) n⟩
theorem low_and {r y : Nat} (hr : r < 1024) (h0 : r ≠ 0) : Sub (low r) y ↔ y &&& low r ≠ 0 := by
  obtain ⟨i, hi, e⟩ := bit_low hr h0
  rw [e]
  constructor
  · intro h k
    have := congrArg (·.testBit i) k
    simp [Nat.testBit_and, bit_of_sub h, Nat.testBit_two_pow] at this
  · intro h
    apply sub_bit
    apply Decidable.byContradiction
    intro k
    apply h
    apply Nat.eq_of_testBit_eq
    intro j
    rw [Nat.testBit_and, Nat.testBit_two_pow, Nat.zero_testBit]
    by_cases e : i = j
    · subst e; simp at k; simp [k]
    · simp [e]
theorem cand_is {zs : List Int} {r y : Nat} (hr : r < 1024) (h0 : r ≠ 0) (hy : Sub y r) : cand (SF zs) (MF zs) r y ↔ (y &&& low r ≠ 0 ∧ SF zs y = 0 ∧ (MF zs (r - y) : Int) = (MF zs r : Int) - 1) := by
  rw [← low_and hr h0]
  exact ⟨fun h => h.2, fun h => ⟨hy, h⟩⟩
theorem s0_take0 {Q : Nat → Prop} {r x : Nat} (hx : Sub x r) (hq : Q x) (h0 : x ≠ 0) (h : IsFirst (Seen Q 0 r (x + 1)) 0) : IsFirst (Seen Q 0 r ((x - 1 &&& r) + 1)) x := by
  have := seen_take0 (st := 0) (others := r) hx (by rwa [Nat.zero_or]) (by rwa [Nat.zero_or]) h
  rw [Nat.zero_or] at this
  exact seen0_step hx h0 this
theorem s0_take {Q : Nat → Prop} {r x b : Nat} (hx : Sub x r) (hq : Q x) (h0 : x ≠ 0) (hp : Pr x b) (h : IsFirst (Seen Q 0 r (x + 1)) b) : IsFirst (Seen Q 0 r ((x - 1 &&& r) + 1)) x := by
  have := seen_take (st := 0) (others := r) hx (by rwa [Nat.zero_or]) (by rwa [Nat.zero_or]) (by rwa [Nat.zero_or]) h
  rw [Nat.zero_or] at this
  exact seen0_step hx h0 this
theorem s0_keep {Q : Nat → Prop} {r x b : Nat} (hx : Sub x r) (h0 : x ≠ 0) (hb0 : b ≠ 0) (hb : b < 1024) (hx2 : x < 1024) (hn : ¬ Pr x b) (h : IsFirst (Seen Q 0 r (x + 1)) b) : IsFirst (Seen Q 0 r ((x - 1 &&& r) + 1)) b :=
  seen0_step hx h0 (seen_keep (st := 0) (others := r) hb0 hb (by rwa [Nat.zero_or]) (by rwa [Nat.zero_or]) h)
theorem s0_skip {Q : Nat → Prop} {r x b : Nat} (hx : Sub x r) (h0 : x ≠ 0) (hq : ¬ Q x) (h : IsFirst (Seen Q 0 r (x + 1)) b) : IsFirst (Seen Q 0 r ((x - 1 &&& r) + 1)) b :=
  seen0_step hx h0 (seen_skip (st := 0) (others := r) (by rwa [Nat.zero_or]) h)
/-- The part that is sought, and the best up to now: which comes first. -/
theorem s0_pick {zs : List Int} {r y b : Nat} {g : Bool} (hl : zs.length ≤ 10) (hr : r < 2 ^ zs.length) (hy : cand (SF zs) (MF zs) r y) (y0 : y ≠ 0) (b0 : b ≠ 0) (h : IsFirst (Seen (cand (SF zs) (MF zs) r) 0 r (y + 1)) b)
    (e : earl (toZ (ixs zs.length y)) (toZ (ixs zs.length b)) = g) : IsFirst (Seen (cand (SF zs) (MF zs) r) 0 r ((y - 1 &&& r) + 1)) (if g = true then y else b) := by
  have h10 : 2 ^ zs.length ≤ 1024 := Nat.pow_le_pow_right (n := 2) (by omega) hl
  obtain ⟨hc, hb⟩ := seen_cand h b0
  have l1 := hy.1.le
  have l2 := hc.1.le
  have n1 : ¬ Sub y b := fun k => by
    have := part_whole hl hr hc k y0 hy.2.2.1
    omega
  have n2 : ¬ Sub b y := fun k => by have := k.le; omega
  have E := earl_pr hl (by omega : y < 2 ^ zs.length) (by omega : b < 2 ^ zs.length) n1 n2
  rw [e] at E
  cases g
  · have k1 : b < 1024 := by omega
    have k2 : y < 1024 := by omega
    exact s0_keep hy.1 y0 b0 k1 k2 (fun k => by cases E.2 k) h
  · exact s0_take hy.1 hy y0 (E.1 rfl) h
theorem toZ_short (n s : Nat) (h : n ≤ 10) : (toZ (ixs n s)).length ≤ 100000 := by
  have := ixs_len n s
  simp [toZ]
  omega
theorem cand_ne {zs : List Int} {r : Nat} (hr : r < 1024) (h0 : r ≠ 0) (t : Nat) (h : cand (SF zs) (MF zs) r t) : Sub t r ∧ t ≠ 0 := ⟨h.1, fun e => cand_zero hr h0 (e ▸ h)⟩
end Go.Proofs.YtepcokgpepcccaaDoor
namespace Go.Proofs.YtepcokgpepcccaaDoor
open Go.ChangeShapes Go.WideShapes Go.ChangeAt Go.RowKit
set_option linter.unusedVariables false
set_option linter.unusedSimpArgs false

set_option maxRecDepth 100000 in
set_option maxHeartbeats 1000000 in
theorem rparts_yes (u : Value) (zs : List Int) (w : World) (hR : Rdz w u zs) (hl : zs.length ≤ 8) (h0 : fau zs = 0) (hs0 : SF zs (allS zs) = 0) :
    Calls Tryd.prog 26 #[u] w fun e w' => ∃ ps v, e = .returned (.tuple #[v, .int .i64 0]) ∧ Hid (Pts (SF zs) (MF zs) (allS zs) ps) ∧ Hid (Rdzz w' v (lists ps)) ∧ Below w.heap.size w w' := by
  obtain ⟨j0, hj, ht0, ht1, ht2⟩ := info_parts info22
  have hl10 : zs.length ≤ 10 := by omega
  have hz := (fau_zero h0).2
  have hG := fun w h => given_any u zs w h
  rw [h0] at hG
  have hN2 : 2 ^ zs.length ≤ 256 := Nat.pow_le_pow_right (n := 2) (by omega) hl
  have hN1 := Nat.two_pow_pos zs.length
  have hcast : (2 : Int) ^ zs.length = ((2 ^ zs.length : Nat) : Int) := by simp
  have hRS : ∀ (s : Nat) w, Rdz w u zs → s < 1024 → Calls Tryd.prog 48 #[u, .int .i64 s] w fun e w' => e = .returned (.int .i64 (SF zs s)) ∧ w' = w := fun s w h hs => rsum_any u zs s w h (by omega) hz hs
  have hC := fun w h => rcounts_any u zs w h hl hz
  have hI := fun s w h k => rd_ind u zs s w h hl10 k
  have hMl := MF_le zs hl10
  have hA : allS zs = 2 ^ zs.length - 1 := rfl
  have hPS := fun r p (a : r < 2 ^ zs.length) b c d => part_step (p := p) hl10 a b c d
  have hPI := fun r y b g (a : r < 2 ^ zs.length) c d e f h => s0_pick (zs := zs) (r := r) (y := y) (b := b) (g := g) hl10 a c d e f h
  have hmore := fun p (h : p < 2 ^ zs.length) => ixs_more zs.length 10 p h hl10
  obtain ⟨A, hAA⟩ : ∃ A, allS zs = A := ⟨_, rfl⟩
  rw [hAA] at hA hs0 ⊢
  have HS0 := Lib.hid hs0
  clear hAA hs0 h0
  obtain ⟨N, hN⟩ : ∃ N, 2 ^ zs.length = N := ⟨_, rfl⟩
  have W0 : wrap64 ((2 : Int) ^ zs.length) = (N : Int) := by rw [hcast, hN]; clear hA; unfold wrap64; rw [hN] at hN2; clear hN hcast; omega
  rw [hN] at hN2 hN1 hA hC hPS hPI hmore
  clear hN hcast
  have WA : IntKind.i64.wrap ((N : Int) - 1) = (A : Int) := by rw [IntWalk.i64_in _ (by omega)]; omega
  have hAl : A < N := by omega
  have hs0 := HS0.out
  have gz : ((0 : Int) != 0) = false := by decide
  have hSA := fun w h => hRS A w h (by omega)
  rw [hs0] at hSA
  have HRS := Lib.hid hRS
  have HPS := Lib.hid hPS
  have HPI := Lib.hid hPI
  have HMO := Lib.hid hmore
  have HML := Lib.hid hMl
  clear hA hRS hPS hPI hmore hMl hs0
  obtain ⟨uq, ucc, rfl, hq⟩ := hR
  have hR : Rdz w (.slice uq zs.length ucc) zs := ⟨uq, ucc, rfl, hq⟩
  clear hq
  go_enter Tryd.func26, Tryd.ntmps26
  go_wp2_with (first
    | (go_at_call 13; (with_reducible refine (hG _ hR).mono ?_); rintro e1 w1 ⟨rfl, hw⟩; subst w1)
    | (go_at_call 61; (with_reducible refine (hC _ hR).mono ?_); rintro e2 w2 ⟨g, cp, rfl, hO, hb2⟩; have R2 := hR.on hb2)
    | (go_at_call 48; (with_reducible refine (hSA _ R2).mono ?_); rintro e3 w3 ⟨rfl, hw⟩; subst w3))
  have C1 : Hid (∀ j, j < N → w2.cell? ⟨g, j, none⟩ = some (.int .i64 (cnt zs j))) := Lib.hid fun j hj => by
    have o5 : OwnZ w.heap.size w2 (.slice (some ⟨g, 0, none⟩) (cntL zs N).length cp) (cntL zs N) := by rw [cntL_len]; exact hO.out
    have cc := o5.at_ (j := j) (by rw [cntL_len]; exact hj)
    rw [cntL_at] at cc
    exact cc
  have R2 := Lib.hid R2
  clear hO hG hC hSA hR
  go_loopw [7, 8] (fun v7 v8 wr => ∃ (r : Nat) (ps : List Nat) (vs : List Value), v8 = .int .i64 r ∧ r < N ∧ Hid (SF zs r = 0) ∧ Hid (Nst w2.heap.size wr v7 (lists ps) vs) ∧ Hid (∀ qs, Pts (SF zs) (MF zs) r qs → Pts (SF zs) (MF zs) A (ps ++ qs)) ∧ Hid (ps.length + r ≤ A) ∧ Below w2.heap.size w2 wr) (fun _ v _ => (intOf v).toNat)
  case atStart => exact ⟨A, [], [], rfl, hAl, HS0, Lib.hid (Nst.nil _ _), Lib.hid fun qs h => h, Lib.hid (by simp), Below.refl _ _⟩
  case round =>
    obtain ⟨r, ps, vs, rfl, hr, hrz, hN3, hP, hLn, hB⟩ := hrel
    obtain ⟨WA, rfl⟩ : ∃ W, W = wr := ⟨_, rfl⟩
    by_cases hr0 : 0 < r
    · have gr : decide ((0 : Int) < (r : Int)) = true := by simp [hr0]
      have gr2 : decide (0 < r) = true := by simp [hr0]
      have hr1 : r < 1024 := by omega
      have hrn : r ≠ 0 := by omega
      have HC := fun y h => cand_is (zs := zs) (y := y) hr1 hrn h
      have HNE := Lib.hid (cand_ne (zs := zs) hr1 hrn)
      have Wn : IntKind.i64.wrap (0 - (r : Int)) = -(r : Int) := by rw [IntWalk.i64_in _ (by omega)]; omega
      have Wn2 : IntKind.i64.wrap (-(r : Int)) = -(r : Int) := by rw [IntWalk.i64_in _ (by omega)]
      have hLo := lowsI r hr1
      have hll := low_lt r hr1
      obtain ⟨f, hf⟩ : ∃ f, low r = f := ⟨_, rfl⟩
      rw [hf] at hLo hll HC
      have HC := Lib.hid HC
      have R3 := Lib.hid (R2.out.on hB)
      clear hf hrn
      go_wp2
      go_loopw [9, 10] (fun v9 v10 wq => ∃ (y b : Nat), v10 = .int .i64 y ∧ v9 = .int .i64 b ∧ y ≤ r ∧ b ≤ r ∧ Hid (Sub y r) ∧ Hid (IsFirst (Seen (cand (SF zs) (MF zs) r) 0 r (y + 1)) b) ∧ Below WA.heap.size WA wq) (fun _ v _ => (intOf v).toNat)
      case atStart => exact ⟨r, 0, rfl, rfl, Nat.le_refl _, Nat.zero_le _, Lib.hid (Sub.refl r), Lib.hid (seen_start _ 0 r), Below.refl _ _⟩
      case round =>
        obtain ⟨y, b, rfl, rfl, hyr, hbr, hy, hF, hQ⟩ := hrel
        obtain ⟨WB, rfl⟩ : ∃ W, W = wr := ⟨_, rfl⟩
        by_cases hy0 : 0 < y
        · have gy : decide ((0 : Int) < (y : Int)) = true := by simp [hy0]
          have gy2 : decide (0 < y) = true := by simp [hy0]
          have hAF := bits_and_i64_nat y f (by omega) hll
          have hNX := bits_and_i64_nat (y - 1) r (by omega) hr1
          have Wd : IntKind.i64.wrap ((r : Int) - (y : Int)) = ((r - y : Nat) : Int) := by rw [IntWalk.i64_in _ (by omega)]; omega
          have hnl : (y - 1) &&& r ≤ y - 1 := Nat.and_le_left
          have hns := Lib.hid (and_sub (y - 1) r)
          have hyn : y ≠ 0 := by omega
          have R4 := R3.out.on hQ
          have hS := fun nd => HRS.out y (WB.drewN nd) (R4.on (below_drewN (Below.refl _ _) nd)) (by omega)
          have cd := cell_later (belows hB hQ) (C1.out (r - y) (by omega))
          have cr := cell_later (belows hB hQ) (C1.out r hr)
          rw [cnt_yes hrz.out] at cr
          have hgd := HC.out y hy.out
          have hzd : SF zs y = 0 → SF zs (r - y) = 0 := fun h => by
            have h1 := (SF_adds zs).2 r y hy.out
            have h2 := hrz.out
            clear hgd cr cd hAF hNX
            generalize SF zs r = x1 at *
            generalize SF zs y = x2 at *
            generalize SF zs (r - y) = x3 at *
            omega
          have hmd := HML.out (r - y)
          have hmr := HML.out r
          have hSK := Lib.hid (fun h => s0_skip hy.out hyn h hF.out)
          have hTK := Lib.hid (fun h (e : b = 0) => s0_take0 hy.out h hyn (by rw [e] at hF; exact hF.out))
          have hPK := Lib.hid (fun h (g : Bool) b0 e => HPI.out r y b g hr h hyn b0 hF.out e)
          obtain ⟨z, hzz⟩ : ∃ z, y &&& f = z := ⟨_, rfl⟩
          obtain ⟨nx, hnx⟩ : ∃ x, (y - 1) &&& r = x := ⟨_, rfl⟩
          obtain ⟨d, hd⟩ : ∃ d, r - y = d := ⟨_, rfl⟩
          obtain ⟨sy, hsy⟩ : ∃ v, SF zs y = v := ⟨_, rfl⟩
          obtain ⟨mr, hmrr⟩ : ∃ v, MF zs r = v := ⟨_, rfl⟩
          obtain ⟨md, hmdd⟩ : ∃ v, MF zs (r - y) = v := ⟨_, rfl⟩
          rw [hzz] at hAF hgd
          rw [hnx] at hNX hnl hns hSK hTK hPK
          rw [hsy] at hS hgd hzd
          rw [hmrr] at cr hgd hmr
          rw [hmdd] at hgd hmd
          have hcd : SF zs (r - y) = 0 → cnt zs (r - y) = (md : Int) := fun h => by rw [cnt_yes h, hmdd]
          rw [hd] at cd Wd hzd hcd
          have hyy : (y : Int) - 1 = ((y - 1 : Nat) : Int) := by omega
          rw [← hyy] at hNX
          have Wy2 : IntKind.i64.wrap ((y : Int) - 1) = (y : Int) - 1 := by rw [IntWalk.i64_in _ (by omega)]
          have Wm : IntKind.i64.wrap ((mr : Int) - 1) = (mr : Int) - 1 := by rw [IntWalk.i64_in _ (by omega)]
          have q1 : (0 : Int) ≤ (d : Int) := by omega
          have q2 : (d : Int) < (N : Int) := by omega
          have q3 : (0 : Int) ≤ (r : Int) := by omega
          have q4 : (r : Int) < (N : Int) := by omega
          have hdd : (r : Int) - (y : Int) = (d : Int) := by omega
          have Hgd := Lib.hid hgd
          have HZD := Lib.hid hzd
          have HCD := Lib.hid hcd
          have R4 := Lib.hid R4
          clear hzz hnx hd hsy hmrr hmdd hyy hgd hzd hcd
          by_cases c1 : z = 0
          · have g1 : ((z : Int) == 0) = true := by simp [c1]
            have B3 := Lib.hid (hSK.out fun h => (Hgd.out.1 h).1 c1)
            clear c1
            go_wp2_with fail
            go_quiet (fail)
            go_wp2
            exact ⟨⟨nx, b, rfl, rfl, by omega, hbr, hns, B3, below_drewN hQ nq⟩, by simp [intOf]; omega⟩
          · have g1 : ((z : Int) == 0) = false := by simp [c1]
            by_cases c2 : sy = 0
            · have g2 : (sy != 0) = false := by simp [c2]
              have ez := HCD.out (HZD.out c2)
              rw [ez] at cd
              clear ez
              by_cases c3 : (md : Int) = (mr : Int) - 1
              · have g3 : ((md : Int) != (mr : Int) - 1) = false := by simp [c3]
                have hq := Hgd.out.2 ⟨c1, c2, c3⟩
                have HQ := Lib.hid hq
                clear hq c1 c2 c3
                go_wp2_with fail
                go_quiet (with_reducible exact Calls.quiet_of_same (hS _))
                by_cases c4 : b = 0
                · have g4 : ((b : Int) == 0) = true := by simp [c4]
                  have B3 := Lib.hid (hTK.out HQ.out c4)
                  clear c4
                  go_wp2
                  exact ⟨⟨nx, y, rfl, rfl, by omega, hyr, hns, B3, below_drewN hQ nq⟩, by simp [intOf]; omega⟩
                · have g4 : ((b : Int) == 0) = false := by simp [c4]
                  have I1 := fun w h => hI y w h (by omega)
                  have I2 := fun w h => hI b w h (by omega)
                  have R5 := R4.out.on (below_drewN (Below.refl _ WB) nq)
                  cases c5 : earl (toZ (ixs zs.length y)) (toZ (ixs zs.length b))
                  · have B3 := Lib.hid (hPK.out HQ.out false c4 c5)
                    simp only [Bool.false_eq_true, if_false] at B3
                    clear hI hS
                    go_wp2_with (first
                      | (go_at_call 17; (with_reducible refine (I1 _ R5).mono ?_); rintro e5 w5 ⟨q5, n5, c5', rfl, hO5, hb5⟩; have R6 := R5.on hb5)
                      | (go_at_call 17; (with_reducible refine (I2 _ R6).mono ?_); rintro e6 w6 ⟨q6, n6, c6', rfl, hO6, hb6⟩)
                      | (go_at_call 51; (with_reducible refine (earl_is _ _ _ _ _ _ (hO5.out.on hb6).rd hO6.out.rd (toZ_short _ _ hl10) c5).mono ?_); rintro e7 w7 ⟨rfl, hb7⟩))
                    exact ⟨⟨nx, b, rfl, rfl, by omega, hbr, hns, B3, belows (belows (belows (below_drewN hQ nq) hb5) hb6) hb7⟩, by simp [intOf]; omega⟩
                  · have B3 := Lib.hid (hPK.out HQ.out true c4 c5)
                    simp only [if_true] at B3
                    clear hI hS
                    go_wp2_with (first
                      | (go_at_call 17; (with_reducible refine (I1 _ R5).mono ?_); rintro e5 w5 ⟨q5, n5, c5', rfl, hO5, hb5⟩; have R6 := R5.on hb5)
                      | (go_at_call 17; (with_reducible refine (I2 _ R6).mono ?_); rintro e6 w6 ⟨q6, n6, c6', rfl, hO6, hb6⟩)
                      | (go_at_call 51; (with_reducible refine (earl_is _ _ _ _ _ _ (hO5.out.on hb6).rd hO6.out.rd (toZ_short _ _ hl10) c5).mono ?_); rintro e7 w7 ⟨rfl, hb7⟩))
                    exact ⟨⟨nx, y, rfl, rfl, by omega, hyr, hns, B3, belows (belows (belows (below_drewN hQ nq) hb5) hb6) hb7⟩, by simp [intOf]; omega⟩
              · have g3 : ((md : Int) != (mr : Int) - 1) = true := by simp [c3]
                have B3 := Lib.hid (hSK.out fun h => c3 (Hgd.out.1 h).2.2)
                clear c1 c2 c3
                go_wp2_with fail
                go_quiet (with_reducible exact Calls.quiet_of_same (hS _))
                go_wp2
                exact ⟨⟨nx, b, rfl, rfl, by omega, hbr, hns, B3, below_drewN hQ nq⟩, by simp [intOf]; omega⟩
            · have g2 : (sy != 0) = true := by simp [c2]
              have B3 := Lib.hid (hSK.out fun h => c2 (Hgd.out.1 h).2.1)
              clear c1 c2
              go_wp2_with fail
              go_quiet (with_reducible exact Calls.quiet_of_same (hS _))
              go_wp2
              exact ⟨⟨nx, b, rfl, rfl, by omega, hbr, hns, B3, below_drewN hQ nq⟩, by simp [intOf]; omega⟩
        · have gy : decide ((0 : Int) < (y : Int)) = false := by simp; omega
          have y0 : y = 0 := by omega
          subst y0
          have hfst := seen0_end HNE.out hF.out
          obtain ⟨p0, ps0, pz⟩ := HPS.out r b hr (by omega) hrz.out hfst
          have hAn : IntKind.i64.wrap ((r : Int) - (b : Int)) = ((r - b : Nat) : Int) := by rw [IntWalk.i64_in _ (by omega)]; omega
          have hdl : r - b < r := by omega
          have E10 := HMO.out b (by omega)
          have HP6 : Hid (∀ qs, Pts (SF zs) (MF zs) (r - b) qs → Pts (SF zs) (MF zs) A ((ps ++ [b]) ++ qs)) := Lib.hid fun qs h => by
            rw [List.append_assoc]
            exact hP.out _ (.cons (by omega) p0 hfst h)
          have HL6 : Hid ((ps ++ [b]).length + (r - b) ≤ A) := Lib.hid (by have := hLn.out; rw [List.length_append]; simp; omega)
          have hpl : (lists ps).length ≤ 1024 := by have := hLn.out; rw [lists, List.length_map]; omega
          obtain ⟨d, hd⟩ : ∃ d, r - b = d := ⟨_, rfl⟩
          rw [hd] at HP6 HL6 hAn pz hdl
          have HPZ := Lib.hid pz
          have I2 := fun w h => hI b w h (by omega)
          have R4 := R3.out.on hQ
          have N4 := Lib.hid (hN3.out.on hQ)
          have hzb := belows hB hQ
          have HE10 := Lib.hid E10
          clear hd pz ps0 p0 hfst hI hF E10
          go_wp2_with (first
            | (go_at_call 17; (with_reducible refine (I2 _ R4).mono ?_); rintro e5 w5 ⟨q, n, c, rfl, hO5, hb5⟩; have hN5 := Lib.hid (N4.out.on hb5))
            | (at_builtin; refine wpList_append_own_at _ rfl _ _ 39 rfl w2.heap.size 22 j0 _ 1 24 Tryd.underlying39 hj ht0 ht1 ht2 rfl (by decide) _ (lists ps).length vs rfl (own_on hN5.out.row (al1 _ _)) ⟨_, 0, none⟩ 1 1 [.slice q n c] rfl rfl (cell_one_new _ _ _) (by simp [Value.oneCell']) (by unfold maxLen; omega) (by omega) (Nat.le_trans (belows hzb hb5).size (al1 _ _).size) ?_))
          intro v' w6 o1 o2 o3 o4
          have hOm := hO5.out.mono (B := w2.heap.size) hzb.size
          have hrr : ∀ b, (Value.slice q n c).ownBlock = some b → _ ≠ some b := fun b e e' => by
            have l1 := (World.ownsRow.lt hO5.out _ e).1
            have l2 := (World.ownsRow.lt N4.out.row _ e').2
            omega
          have N6 := Nst.push (hN5.out.on (al1 _ _)) (hOm.on (al1 _ _)) hrr o1 o2 (by simpa using o4)
          have E6 : lists ps ++ [toZ (ixs zs.length b)] = lists (ps ++ [b]) := by rw [← HE10.out]; simp [lists]
          rw [E6] at N6
          have B6 : Below w2.heap.size w2 w6 := ((belows hzb hb5).alloc (belows hzb hb5).size _).grown o2 (Nat.le_trans (belows hzb hb5).size (al1 _ _).size) (fun j hj => (World.ownsRow.lt hN3.out.row _ hj).1)
          have HN6 := Lib.hid N6
          clear o1 o2 o3 o4 N6 hOm hrr hP hLn hN3 hN5 hO5 E6 N4
          go_wp2
          exact ⟨⟨d, ps ++ [b], _, rfl, by omega, HPZ, HN6, HP6, HL6, B6⟩, by simp [intOf]; omega⟩
    · have gr : decide ((0 : Int) < (r : Int)) = false := by simp; omega
      have r0 : r = 0 := by omega
      subst r0
      have HPT := Lib.hid (hP.out [] .nil)
      go_wp2
      exact bodyPost_ret (v := .tuple #[_, .int .i64 0]) (by simp [results, Tryd.results26, go_sem]) rfl ⟨ps, _, rfl, by rwa [List.append_nil] at HPT, Lib.hid hN3.out.rd, belows hb2 hB⟩
end Go.Proofs.YtepcokgpepcccaaDoor
namespace Go.Proofs.YtepcokgpepcccaaDoor
open Go.ChangeShapes Go.WideShapes Go.ChangeAt Go.RowKit
set_option linter.unusedVariables false
set_option linter.unusedSimpArgs false

set_option maxRecDepth 100000 in
set_option maxHeartbeats 1000000 in
theorem rparts_no (u : Value) (zs : List Int) (w : World) (hR : Rdz w u zs) (hl : zs.length ≤ 8) (h0 : fau zs = 0) (hs0 : SF zs (allS zs) ≠ 0) :
    Calls Tryd.prog 26 #[u] w fun e w' => e = .returned (.tuple #[.slice none 0 0, .int .i64 18]) ∧ Below w.heap.size w w' := by
  have hz := (fau_zero h0).2
  have hG := fun w h => given_any u zs w h
  rw [h0] at hG
  have hC := fun w h => rcounts_any u zs w h hl hz
  have hN2 : 2 ^ zs.length ≤ 256 := Nat.pow_le_pow_right (n := 2) (by omega) hl
  have hN1 := Nat.two_pow_pos zs.length
  have hcast : (2 : Int) ^ zs.length = ((2 ^ zs.length : Nat) : Int) := by simp
  have hA : allS zs = 2 ^ zs.length - 1 := rfl
  have hRS : ∀ (s : Nat) w, Rdz w u zs → s < 1024 → Calls Tryd.prog 48 #[u, .int .i64 s] w fun e w' => e = .returned (.int .i64 (SF zs s)) ∧ w' = w := fun s w h hs => rsum_any u zs s w h (by omega) hz hs
  have hSA := fun w h => hRS (allS zs) w h (by have e := hA; clear hs0 h0 hcast; generalize allS zs = A at *; omega)
  obtain ⟨A, hAA⟩ : ∃ A, allS zs = A := ⟨_, rfl⟩
  rw [hAA] at hA hs0 hSA
  obtain ⟨T, hTT⟩ : ∃ T, SF zs A = T := ⟨_, rfl⟩
  rw [hTT] at hs0 hSA
  obtain ⟨N, hN⟩ : ∃ N, 2 ^ zs.length = N := ⟨_, rfl⟩
  rw [hN] at hN2 hN1 hA hC hcast
  have W0 : wrap64 ((2 : Int) ^ zs.length) = (N : Int) := by clear hA hAA hTT h0 hN; rw [hcast]; unfold wrap64; clear hcast; omega
  clear hTT h0 hN hcast hAA hRS
  have WA : IntKind.i64.wrap ((N : Int) - 1) = (A : Int) := by rw [IntWalk.i64_in _ (by omega)]; omega
  have gz : ((0 : Int) != 0) = false := by decide
  have gT : (T != 0) = true := by simp [hs0]
  clear hs0 hA
  obtain ⟨uq, ucc, rfl, hq⟩ := hR
  have hR : Rdz w (.slice uq zs.length ucc) zs := ⟨uq, ucc, rfl, hq⟩
  clear hq
  go_enter Tryd.func26, Tryd.ntmps26
  go_wp2_with (first
    | (go_at_call 13; (with_reducible refine (hG _ hR).mono ?_); rintro e1 w1 ⟨rfl, hw⟩; subst w1)
    | (go_at_call 61; (with_reducible refine (hC _ hR).mono ?_); rintro e2 w2 ⟨g, cp, rfl, hO, hb2⟩; have R2 := hR.on hb2)
    | (go_at_call 48; (with_reducible refine (hSA _ R2).mono ?_); rintro e3 w3 ⟨rfl, hw⟩; subst w3))
  exact bodyPost_ret (v := .tuple #[.slice none 0 0, .int .i64 18]) (by simp [results, Tryd.results26, go_sem]) rfl ⟨rfl, hb2⟩
theorem long1_any (u : Value) (xs : List Int) (w : World) (hR : Rdz w u xs) : Calls Tryd.prog 23 #[u] w fun e w' => e = .returned (.bool (decide ((20 : Int) < (xs.length : Int)))) ∧ w' = w := by
  obtain ⟨q, c, rfl, -⟩ := hR
  go_enter Tryd.func23, Tryd.ntmps23
  go_wp2
  go_ret
  exact ⟨rfl, rfl⟩
set_option maxRecDepth 100000 in
set_option maxHeartbeats 1000000 in
theorem longi_any (v : Value) (ls : List (List Int)) (w : World) (hX : Rdzz w v ls) (hl : ls.length ≤ 100000) :
    Calls Tryd.prog 54 #[v, .func (.func 23) #[] #[]] w fun e w' => ∃ m : Int, e = .returned (.int .i64 m) ∧ Hid (m < 0 ↔ ∀ x ∈ ls, x.length ≤ 20) ∧ w' = w := by
  obtain ⟨q, c, rfl, hq⟩ := hX
  have HQ := Lib.hid hq
  clear hq
  go_enter Tryd.func54, Tryd.ntmps54
  go_wp2
  go_loopw [8] (fun v8 wr => ∃ k : Nat, v8 = .int .i64 k ∧ k ≤ ls.length ∧ Hid (∀ j (h : j < ls.length), j < k → ls[j].length ≤ 20) ∧ w = wr) (fun v _ => ls.length - (intOf v).toNat)
  case atStart => exact ⟨0, rfl, Nat.zero_le _, Lib.hid fun j h k => absurd k (Nat.not_lt_zero _), rfl⟩
  case round =>
    obtain ⟨k, rfl, hk, hE, hw⟩ := hrel
    subst hw
    by_cases hlt : k < ls.length
    · have g : decide ((k : Int) < (ls.length : Int)) = true := by simp [hlt]
      have W1 : IntKind.i64.wrap ((k : Int) + 1) = ((k + 1 : Nat) : Int) := by rw [IntWalk.i64_in _ (by omega)]; omega
      obtain ⟨a, u, rfl, hc, hu⟩ := HQ.out k hlt
      have q1 : (0 : Int) ≤ (k : Int) := by omega
      have q2 : (k : Int) < (ls.length : Int) := by omega
      have hL := long1_any u ls[k] w hu
      by_cases h20 : ls[k].length ≤ 20
      · have HE : Hid (∀ j (h : j < ls.length), j < k + 1 → ls[j].length ≤ 20) := Lib.hid fun j h hj => by
          rcases Nat.lt_or_ge j k with h1 | h1
          · exact hE.out j h h1
          · have : j = k := by omega
            subst this; exact h20
        rw [show decide ((20 : Int) < (ls[k].length : Int)) = false from by simp; omega] at hL
        clear h20 hu
        go_wp2_with (go_at_call 23; (with_reducible refine hL.mono ?_); rintro e1 w1 ⟨rfl, hw⟩; subst w1)
        exact ⟨⟨k + 1, rfl, hlt, HE, trivial⟩, by simp [intOf]; omega⟩
      · rw [show decide ((20 : Int) < (ls[k].length : Int)) = true from by simp; omega] at hL
        have H20 := Lib.hid h20
        clear h20 hu
        go_wp2_with (go_at_call 23; (with_reducible refine hL.mono ?_); rintro e1 w1 ⟨rfl, hw⟩; subst w1)
        go_ret
        exact ⟨_, rfl, Lib.hid ⟨fun h => by omega, fun h => absurd (h _ (List.getElem_mem hlt)) H20.out⟩, rfl⟩
    · have g : decide ((k : Int) < (ls.length : Int)) = false := by simp; omega
      have e : k = ls.length := by omega
      have HK := Lib.hid e
      clear e
      go_wp2
      go_ret
      have hall : ∀ x ∈ ls, x.length ≤ 20 := fun x hx => by
        obtain ⟨j, hj, rfl⟩ := List.mem_iff_getElem.1 hx
        exact hE.out j hj (by rw [HK.out]; exact hj)
      exact ⟨_, rfl, Lib.hid ⟨fun _ => hall, fun _ => by decide⟩, rfl⟩
set_option maxRecDepth 100000 in
theorem longl_any (v : Value) (ls : List (List Int)) (w : World) (hX : Rdzz w v ls) (hl : ls.length ≤ 100000) :
    Calls Tryd.prog 22 #[v, .func (.func 23) #[] #[]] w fun e w' => ∃ b : Bool, e = .returned (.bool b) ∧ Hid (b = false ↔ ∀ x ∈ ls, x.length ≤ 20) ∧ w' = w := by
  have hI := longi_any v ls w hX hl
  obtain ⟨q, c, rfl, hq⟩ := hX
  clear hq
  go_enter Tryd.func22, Tryd.ntmps22
  go_wp2_with (go_at_call 54; (with_reducible refine hI.mono ?_); rintro e1 w1 ⟨m, rfl, hm, hw⟩; subst w1)
  go_ret
  exact ⟨_, rfl, Lib.hid (by rw [← hm.out]; simp), rfl⟩
theorem longl_is (v : Value) (ls : List (List Int)) (B : Bool) (w : World) (hX : Rdzz w v ls) (hl : ls.length ≤ 100000) (hB : B = false ↔ ∀ x ∈ ls, x.length ≤ 20) :
    Calls Tryd.prog 22 #[v, .func (.func 23) #[] #[]] w fun e w' => e = .returned (.bool B) ∧ w' = w :=
  (longl_any v ls w hX hl).mono fun e w' ⟨b, he, hb, hw⟩ => by
    have k := hb.out.trans hB.symm
    have : b = B := by cases b <;> cases B <;> simp_all
    exact ⟨by rw [he, this], hw⟩
end Go.Proofs.YtepcokgpepcccaaDoor
namespace Go.Proofs.YtepcokgpepcccaaDoor
open Go.ChangeShapes Go.WideShapes Go.ChangeAt Go.RowKit
set_option linter.unusedVariables false
set_option linter.unusedSimpArgs false

theorem low_least : ∀ s : Nat, s < 1024 → ∀ j, j < 10 → s.testBit j = true → low s ≤ 2 ^ j := by
  have h : chk (fun s => (List.range 10).all fun j => !s.testBit j || decide (low s ≤ 2 ^ j)) 10 0 = true := by decide +kernel
  intro s hs j hj hb
  have k := chk_all _ 10 0 h s (Nat.zero_le _) (by omega)
  have := List.all_eq_true.1 k j (List.mem_range.2 hj)
  rw [hb] at this
  simpa using this
/-- The list's first number. -/
def hd0 (xs : List Int) : Int := xs.headD 0
/-- What the reference's Check asks of the lists that are left, with S the numbers seen and f the last list's first. -/
def RC (zs : List Int) : Nat → Int → List (List Int) → Prop
  | S, _, [] => S = allS zs
  | S, f, xs :: ls => xs ≠ [] ∧ okL zs.length xs ∧ mOf zs.length xs &&& S = 0 ∧ pick zs xs = 0 ∧ f ≤ hd0 xs ∧ RC zs (S ||| mOf zs.length xs) (hd0 xs) ls
theorem all_bit (zs : List Int) (i : Nat) : (allS zs).testBit i = decide (i < zs.length) := by
  unfold allS; rw [Nat.testBit_two_pow_sub_one]
theorem and_zero {a b : Nat} : a &&& b = 0 ↔ ∀ i, a.testBit i = true → b.testBit i = false := by
  constructor
  · intro h i hi
    have := congrArg (·.testBit i) h
    simpa [Nat.testBit_and, hi] using this
  · intro h
    apply Nat.eq_of_testBit_eq
    intro i
    rw [Nat.testBit_and, Nat.zero_testBit]
    cases ha : a.testBit i
    · rfl
    · rw [h i ha]; rfl
theorem hd_mem {xs : List Int} (h : xs ≠ []) : hd0 xs ∈ xs := by
  cases xs with
  | nil => exact absurd rfl h
  | cons x t => exact List.mem_cons_self ..
theorem hd_le {n : Nat} {xs : List Int} (h : okL n xs) : ∀ x ∈ xs, hd0 xs ≤ x := by
  cases xs with
  | nil => intro x hx; cases hx
  | cons y t =>
    intro x hx
    rcases List.mem_cons.1 hx with rfl | hx
    · exact Int.le_refl _
    · exact Int.le_of_lt ((List.pairwise_cons.1 h.1).1 x hx)
theorem rc_low {zs : List Int} : ∀ {ls : List (List Int)} {S : Nat} {f : Int}, RC zs S f ls → ∀ i, i < zs.length → S.testBit i = false → f ≤ (i : Int)
  | [], S, f, h, i, hi, hb => by
    have h : S = allS zs := h
    rw [h, all_bit, decide_eq_true hi] at hb; cases hb
  | xs :: ls, S, f, h, i, hi, hb => by
    obtain ⟨h1, h2, h3, h4, h5, h6⟩ := h
    by_cases k : (i : Int) ∈ xs
    · have := hd_le h2 _ k; omega
    · have := rc_low h6 i hi (by rw [Nat.testBit_or, hb, mOf_bit, decide_eq_false k]; simp)
      omega
theorem m_zero {n : Nat} {xs : List Int} (h : okL n xs) (h0 : xs ≠ []) : mOf n xs ≠ 0 := fun e => by
  have k := h.2 _ (hd_mem h0)
  have := mOf_bit n xs (hd0 xs).toNat
  rw [e, Nat.zero_testBit, decide_eq_true (by omega), show (((hd0 xs).toNat : Nat) : Int) = hd0 xs by omega, decide_eq_true (hd_mem h0)] at this
  cases this
theorem rc_chk {zs : List Int} (hl : zs.length ≤ 10) : ∀ (ls : List (List Int)) (S : Nat) (f : Int), S < 2 ^ zs.length → (RC zs S f ls → Chk zs (allS zs - S) ls 0) ∧ ((∀ i, i < zs.length → S.testBit i = false → f ≤ (i : Int)) → Chk zs (allS zs - S) ls 0 → RC zs S f ls)
  | [], S, f, hS => by
    have hA : allS zs = 2 ^ zs.length - 1 := rfl
    refine ⟨fun h => ?_, fun _ h => ?_⟩
    · have h : S = allS zs := h
      rw [h, Nat.sub_self]; exact .nil 0
    · have := chk_nil.1 h
      show S = allS zs
      generalize allS zs = A at *
      omega
  | xs :: ls, S, f, hS => by
    have h10 : 2 ^ zs.length ≤ 1024 := Nat.pow_le_pow_right (n := 2) (by omega) hl
    have hA : allS zs < 1024 := by unfold allS; omega
    have hSA : Sub S (allS zs) := fun i hi => by
      rw [all_bit, decide_eq_true_iff]
      apply Nat.lt_of_not_le
      intro k
      rw [bit_hi hS k] at hi; cases hi
    have hR : allS zs - S < 1024 := by generalize allS zs = A at *; omega
    have hRb := fun i => minus_bit hSA i
    have hm := mOf_lt zs.length xs
    have hSm : S ||| mOf zs.length xs < 2 ^ zs.length := Nat.or_lt_two_pow hS hm
    obtain ⟨ih1, ih2⟩ := rc_chk hl ls (S ||| mOf zs.length xs) (hd0 xs) hSm
    have hnext : mOf zs.length xs &&& S = 0 → allS zs - S - mOf zs.length xs = allS zs - (S ||| mOf zs.length xs) := fun h => by
      have hd := and_zero.1 h
      have hmA : Sub (mOf zs.length xs) (allS zs - S) := fun i hi => by
        rw [hRb, hd i hi, all_bit]
        rw [mOf_bit, Bool.and_eq_true] at hi
        rw [hi.1]; rfl
      have hoA : Sub (S ||| mOf zs.length xs) (allS zs) := fun i hi => by
        rw [Nat.testBit_or, Bool.or_eq_true] at hi
        rcases hi with hi | hi
        · exact hSA i hi
        · have := hmA i hi
          rw [hRb, Bool.and_eq_true] at this
          exact this.1
      apply Nat.eq_of_testBit_eq
      intro i
      rw [minus_bit hmA, minus_bit hoA, hRb, Nat.testBit_or]
      cases (allS zs).testBit i <;> cases S.testBit i <;> cases (mOf zs.length xs).testBit i <;> rfl
    constructor
    · rintro ⟨h1, h2, h3, h4, h5, h6⟩
      have hd := and_zero.1 h3
      have hx := h2.2 _ (hd_mem h1)
      obtain ⟨i, hi⟩ : ∃ i : Nat, (i : Int) = hd0 xs := ⟨(hd0 xs).toNat, by omega⟩
      have hin : i < zs.length := by omega
      have hib : (mOf zs.length xs).testBit i = true := by
        rw [mOf_bit, decide_eq_true hin, hi, decide_eq_true (hd_mem h1)]; rfl
      have hsub : Sub (mOf zs.length xs) (allS zs - S) := fun j hj => by
        rw [hRb, hd j hj, all_bit]
        rw [mOf_bit, Bool.and_eq_true] at hj
        rw [hj.1]; rfl
      have hr0 : allS zs - S ≠ 0 := fun e => by
        have := hsub i hib
        rw [e, Nat.zero_testBit] at this; cases this
      have hlow : low (allS zs - S) = 2 ^ i := by
        obtain ⟨j, hj, e⟩ := bit_low hR hr0
        have l1 := low_least _ hR i (by omega) (hsub i hib)
        rw [e] at l1
        have l2 : j ≤ i := (Nat.pow_le_pow_iff_right (by omega)).1 l1
        rw [hRb, all_bit, Bool.and_eq_true, decide_eq_true_iff] at hj
        have hSj : S.testBit j = false := by simpa using hj.2
        have l3 : hd0 xs ≤ (j : Int) := by
          by_cases k : (j : Int) ∈ xs
          · exact hd_le h2 _ k
          · exact rc_low h6 j hj.1 (by rw [Nat.testBit_or, hSj, mOf_bit, decide_eq_false k]; simp)
        have : j = i := by omega
        rw [e, this]
      refine chk_cons.2 ⟨h2, hsub, ?_, h4, ?_⟩
      · rw [hlow]
        intro e
        have := and_zero.1 e i hib
        rw [Nat.testBit_two_pow] at this
        simp at this
      · rw [hnext h3]; exact ih1 h6
    · intro hU h
      obtain ⟨h2, h3, h4, h5, h6⟩ := chk_cons.1 h
      have h1 : xs ≠ [] := fun e => h4 (by rw [e, mOf_nil, Nat.zero_and])
      have hdis : mOf zs.length xs &&& S = 0 := and_zero.2 fun i hi => by
        have := h3 i hi
        rw [hRb, Bool.and_eq_true] at this
        simpa using this.2
      have hx := h2.2 _ (hd_mem h1)
      obtain ⟨i, hi⟩ : ∃ i : Nat, (i : Int) = hd0 xs := ⟨(hd0 xs).toNat, by omega⟩
      have hin : i < zs.length := by omega
      have hib : (mOf zs.length xs).testBit i = true := by
        rw [mOf_bit, decide_eq_true hin, hi, decide_eq_true (hd_mem h1)]; rfl
      have hr0 : allS zs - S ≠ 0 := fun e => by
        have := h3 i hib
        rw [e, Nat.zero_testBit] at this; cases this
      refine ⟨h1, h2, hdis, h5, ?_, ih2 (fun j hj hb => ?_) (by rw [← hnext hdis]; exact h6)⟩
      · have := hU i hin (and_zero.1 hdis i hib)
        omega
      · rw [Nat.testBit_or, Bool.or_eq_false_iff] at hb
        obtain ⟨l, hl1, e⟩ := bit_low hR hr0
        have hml : (mOf zs.length xs).testBit l = true := by
          rw [e] at h4
          apply Decidable.byContradiction
          intro k
          apply h4
          apply and_zero.2
          intro a ha
          rw [Nat.testBit_two_pow]
          by_cases x : l = a
          · subst x; exact absurd ha k
          · simp [x]
        have l1 := low_least _ hR j (by omega) (by rw [hRb, all_bit, decide_eq_true hj, hb.1]; rfl)
        rw [e] at l1
        have l2 : l ≤ j := (Nat.pow_le_pow_iff_right (by omega)).1 l1
        rw [mOf_bit, Bool.and_eq_true, decide_eq_true_iff, decide_eq_true_iff] at hml
        have := hd_le h2 _ hml.2
        omega
/-- The two checks are one. -/
theorem rc_all {zs : List Int} (hl : zs.length ≤ 10) (ls : List (List Int)) (f : Int) (hf : f ≤ 0) : RC zs 0 f ls ↔ Chk zs (allS zs) ls 0 := by
  have h := rc_chk hl ls 0 f (Nat.two_pow_pos _)
  rw [Nat.sub_zero] at h
  exact ⟨h.1, h.2 fun i _ _ => by omega⟩
end Go.Proofs.YtepcokgpepcccaaDoor
namespace Go.Proofs.YtepcokgpepcccaaDoor
open Go.ChangeShapes Go.WideShapes Go.ChangeAt Go.RowKit
set_option linter.unusedVariables false
set_option linter.unusedSimpArgs false

/-- How many of the first n are in S. -/
def cN : Nat → Nat → Nat
  | 0, _ => 0
  | n + 1, S => cN n S + if S.testBit n then 1 else 0
theorem cN_le : ∀ n S, cN n S ≤ n
  | 0, _ => Nat.le_refl _
  | n + 1, S => by
    have := cN_le n S
    rw [cN]; split <;> omega
theorem cN_cong : ∀ (n S T : Nat), (∀ i, i < n → S.testBit i = T.testBit i) → cN n S = cN n T
  | 0, _, _, _ => rfl
  | n + 1, S, T, h => by rw [cN, cN, cN_cong n S T fun i hi => h i (by omega), h n (by omega)]
theorem cN_zero : ∀ n, cN n 0 = 0
  | 0 => rfl
  | n + 1 => by rw [cN, cN_zero n]; simp
theorem or_bit (S x i : Nat) : (S ||| 2 ^ x).testBit i = (S.testBit i || decide (x = i)) := by rw [Nat.testBit_or, Nat.testBit_two_pow]
theorem cN_set : ∀ (n S x : Nat), x < n → S.testBit x = false → cN n (S ||| 2 ^ x) = cN n S + 1
  | 0, _, _, h, _ => by omega
  | n + 1, S, x, h, hb => by
    rw [cN, cN, or_bit]
    by_cases e : x = n
    · subst e
      rw [cN_cong x (S ||| 2 ^ x) S fun i hi => by rw [or_bit, decide_eq_false (by omega), Bool.or_false], hb]
      simp
    · rw [cN_set n S x (by omega) hb, decide_eq_false e, Bool.or_false]; omega
theorem cN_all : ∀ (n S : Nat), cN n S = n → ∀ i, i < n → S.testBit i = true
  | 0, _, _, _, h => by omega
  | n + 1, S, h, i, hi => by
    have l := cN_le n S
    rw [cN] at h
    cases hb : S.testBit n
    · rw [hb] at h; simp at h; omega
    · rw [hb] at h; simp at h
      by_cases e : i = n
      · subst e; exact hb
      · exact cN_all n S h i (by omega)
theorem cN_full : ∀ (n S : Nat), (∀ i, i < n → S.testBit i = true) → cN n S = n
  | 0, _, _ => rfl
  | n + 1, S, h => by rw [cN, cN_full n S fun i hi => h i (by omega), h n (by omega)]; rfl
theorem cN_is {zs : List Int} {S : Nat} (hS : S < 2 ^ zs.length) : cN zs.length S = zs.length ↔ S = allS zs := by
  constructor
  · intro h
    apply Nat.eq_of_testBit_eq
    intro i
    rw [all_bit]
    by_cases hi : i < zs.length
    · rw [cN_all _ _ h i hi, decide_eq_true hi]
    · rw [bit_hi hS (by omega), decide_eq_false hi]
  · rintro rfl
    exact cN_full _ _ fun i hi => by rw [all_bit, decide_eq_true hi]
/-- The first j numbers are well. -/
def Innr (n S : Nat) (xs : List Int) (j : Nat) : Prop := okL n (xs.take j) ∧ mOf n (xs.take j) &&& S = 0
def seenM (n S : Nat) (xs : List Int) (j : Nat) : Nat := S ||| mOf n (xs.take j)
theorem seenM_lt {n S : Nat} {xs : List Int} {j : Nat} (h : S < 2 ^ n) : seenM n S xs j < 2 ^ n := Nat.or_lt_two_pow h (mOf_lt _ _)
theorem inn_start (n S : Nat) (xs : List Int) : Innr n S xs 0 ∧ seenM n S xs 0 = S := by
  unfold Innr seenM
  rw [List.take_zero, mOf_nil]
  exact ⟨⟨⟨List.Pairwise.nil, fun x hx => by cases hx⟩, Nat.zero_and _⟩, Nat.or_zero _⟩
theorem inn_end {n S : Nat} {xs : List Int} (h : Innr n S xs xs.length) : okL n xs ∧ mOf n xs &&& S = 0 ∧ seenM n S xs xs.length = S ||| mOf n xs := by
  unfold Innr seenM at *
  rw [List.take_length] at *
  exact ⟨h.1, h.2, rfl⟩
theorem inn_step {n S : Nat} {xs : List Int} {j x : Nat} (h : Innr n S xs j) (hj : j < xs.length) (hx : xs[j] = (x : Int)) (hn : x < n) (hb : (seenM n S xs j).testBit x = false) (hp : ∀ (h0 : 0 < j), xs[j - 1] ≤ (x : Int)) :
    Innr n S xs (j + 1) ∧ seenM n S xs (j + 1) = seenM n S xs j ||| 2 ^ x := by
  have hm : mOf n (xs.take (j + 1)) = mOf n (xs.take j) ||| 2 ^ x := by rw [List.take_succ_eq_append_getElem hj, hx, mOf_snoc n x _ hn]
  unfold seenM at *
  rw [Nat.testBit_or, Bool.or_eq_false_iff] at hb
  have hni : ¬ (x : Int) ∈ xs.take j := fun k => by
    have := hb.2
    rw [mOf_bit, decide_eq_true hn, decide_eq_true k] at this
    cases this
  refine ⟨⟨okL_snoc h.1 hj (by omega) (by omega) (fun h0 => ?_), ?_⟩, by rw [hm, Nat.or_assoc]⟩
  · have h1 := hp h0
    have h2 : xs[j - 1] ≠ (x : Int) := fun e => hni (by
      rw [← e]
      exact List.mem_iff_getElem.2 ⟨j - 1, by rw [List.length_take]; omega, by rw [List.getElem_take]⟩)
    rw [hx]; omega
  · rw [hm]
    apply and_zero.2
    intro i hi
    rw [or_bit, Bool.or_eq_true] at hi
    rcases hi with hi | hi
    · exact and_zero.1 h.2 i hi
    · rw [decide_eq_true_iff] at hi; subst hi; exact hb.1
theorem inn_out {n S : Nat} {xs : List Int} {j : Nat} (hj : j < xs.length) (h : xs[j] < 0 ∨ (n : Int) ≤ xs[j]) : ¬ (okL n xs ∧ mOf n xs &&& S = 0) := fun k => by
  have := okL_at k.1 hj
  omega
theorem inn_seen {n S : Nat} {xs : List Int} {j x : Nat} (hj : j < xs.length) (hx : xs[j] = (x : Int)) (hb : (seenM n S xs j).testBit x = true) : ¬ (okL n xs ∧ mOf n xs &&& S = 0) := fun k => by
  unfold seenM at hb
  rw [Nat.testBit_or, Bool.or_eq_true] at hb
  have hk := okL_at k.1 hj
  rcases hb with hb | hb
  · have : (mOf n xs).testBit x = true := by
      rw [mOf_bit, decide_eq_true (by omega), ← hx, decide_eq_true (List.getElem_mem hj)]; rfl
    rw [and_zero.1 k.2 x this] at hb; cases hb
  · rw [mOf_bit, Bool.and_eq_true, decide_eq_true_iff, decide_eq_true_iff] at hb
    obtain ⟨i, hi, e⟩ := List.mem_iff_getElem.1 hb.2
    rw [List.length_take] at hi
    rw [List.getElem_take] at e
    have := List.pairwise_iff_getElem.1 k.1.1 i j (by omega) hj (by omega)
    omega
theorem inn_back {n S : Nat} {xs : List Int} {j : Nat} (hj : j < xs.length) (h0 : 0 < j) (h : xs[j] < xs[j - 1]) : ¬ (okL n xs ∧ mOf n xs &&& S = 0) := fun k => by
  have := (okL_at k.1 hj).2.2 h0
  omega
/-- A row of n yes and no that fills block g. -/
def Bow (w : World) (g n S : Nat) : Prop := Has w g 4 ((List.range n).map fun i => Value.bool (S.testBit i)).toArray
theorem Bow.read {w : World} {g n S : Nat} (h : Bow w g n S) {i : Nat} (hi : i < n) : w.cell? ⟨g, i, none⟩ = some (.bool (S.testBit i)) := by
  rw [Has.read h i]; simp [hi]
theorem Bow.put {w : World} {g n S : Nat} (h : Bow w g n S) (x : Nat) : Bow (w.setCell ⟨g, x, none⟩ (.bool true)) g n (S ||| 2 ^ x) := by
  have k := Has.put_ h x (.bool true)
  have e : (((List.range n).map fun i => Value.bool (S.testBit i)).toArray.setIfInBounds x (.bool true)) = ((List.range n).map fun j => Value.bool ((S ||| 2 ^ x).testBit j)).toArray := by
    apply Array.ext
    · simp
    · intro j h1 h2
      simp only [Array.getElem_setIfInBounds, List.getElem_toArray, List.getElem_map, List.getElem_range, or_bit]
      by_cases hj : x = j
      · simp [hj]
      · simp [hj]
  rw [e] at k; exact k
theorem bow_zero {w : World} {base g n : Nat} (h : w.ownsRow base 4 1 (.slice (some ⟨g, 0, none⟩) n n) n (madeCells #[Value.bool false] n).toList) : Bow w g n 0 := by
  have k := has_full h
  unfold Bow
  have e : (madeCells #[Value.bool false] n).toList = (List.range n).map fun i => Value.bool (Nat.testBit 0 i) := by
    rw [toList_madeCells_one]
    apply List.ext_getElem <;> simp
  rw [e] at k; exact k
theorem info4 : (Tryd.prog.info? 4).map (fun i => (i.zero, i.size, i.bytes)) = some (some (.bool false), 1, 1) := by kernel_rfl
/-- One list more. -/
theorem rc_step {zs xs : List Int} {ls : List (List Int)} {S : Nat} {f : Int} (h0 : xs ≠ []) (h : okL zs.length xs ∧ mOf zs.length xs &&& S = 0) (hp : pick zs xs = 0) (hf : f ≤ hd0 xs) : RC zs S f (xs :: ls) ↔ RC zs (S ||| mOf zs.length xs) (hd0 xs) ls :=
  ⟨fun k => k.2.2.2.2.2, fun k => ⟨h0, h.1, h.2, hp, hf, k⟩⟩
theorem hd_at {xs : List Int} (h : 0 < xs.length) : xs[0] = hd0 xs := by
  cases xs with
  | nil => simp at h
  | cons x t => rfl
end Go.Proofs.YtepcokgpepcccaaDoor
namespace Go.Proofs.YtepcokgpepcccaaDoor
open Go.ChangeShapes Go.WideShapes Go.ChangeAt Go.RowKit
set_option linter.unusedVariables false
set_option linter.unusedSimpArgs false

set_option maxRecDepth 100000 in
set_option maxHeartbeats 4000000 in
theorem rcheck_any (u v : Value) (zs : List Int) (ls : List (List Int)) (w : World) (hR : Rdz w u zs) (hX : Rdzz w v ls) (hl : zs.length ≤ 10) (hz : allZ zs = true) (hll : ls.length ≤ 100000) (hlx : ∀ x ∈ ls, x.length ≤ 100000) :
    Calls Tryd.prog 28 #[u, v] w fun e w' => ∃ b : Bool, e = .returned (.bool b) ∧ Hid (b = true ↔ Chk zs (allS zs) ls 0) ∧ Below w.heap.size w w' := by
  obtain ⟨i0, hi, ht0, ht1, ht2⟩ := info_parts info4
  have hrc := rc_all hl ls 0 (Int.le_refl _)
  obtain ⟨C, hCC⟩ : ∃ C, Chk zs (allS zs) ls 0 = C := ⟨_, rfl⟩
  rw [hCC] at hrc ⊢
  have HRC := Lib.hid hrc
  have HLX := Lib.hid hlx
  obtain ⟨q, c, rfl, hq⟩ := hR
  obtain ⟨q', c', rfl, hq'⟩ := hX
  have HQ := Lib.hid hq
  have HQ' := Lib.hid hq'
  clear hq hq' hlx hrc hCC
  go_enter Tryd.func28, Tryd.ntmps28
  go_wp2_with (at_make; refine wpList_make_full _ rfl _ _ 74 rfl w.heap.size 4 i0 _ 1 Tryd.underlying74 hi ht0 ht1 _ _ _ _ zs.length rfl rfl rfl rfl (by rw [ht2]; omega) (by unfold maxLen; omega) (Nat.le_refl _) ?_)
  intro w1 hown hgrow
  have hBw := Lib.hid (bow_zero hown)
  have hB1 : Below w.heap.size w w1 := (Below.refl _ w).grown hgrow (Nat.le_refl _) (fun k hk => by cases hk)
  have cz0 := cN_zero zs.length
  have cz0' : (0 : Int) = ((cN zs.length 0 : Nat) : Int) := by omega
  have CZ := Lib.hid cz0'
  clear hown hgrow cz0 cz0'
  go_wp2
  go_loopw [6, 7] (fun v6 v7 wr => ∃ (k S : Nat) (f : Int), v7 = .int .i64 k ∧ k ≤ ls.length ∧ v6 = .int .i64 (cN zs.length S) ∧ Hid (S < 2 ^ zs.length) ∧ Hid (C ↔ RC zs S f (ls.drop k)) ∧ Hid (k = 0 ∧ f = 0 ∨ 0 < k ∧ ∃ h : k - 1 < ls.length, f = hd0 ls[k - 1] ∧ 0 < ls[k - 1].length) ∧ Hid (Bow wr w.heap.size zs.length S) ∧ Below w.heap.size w wr) (fun _ v _ => ls.length - (intOf v).toNat)
  case atStart => exact ⟨0, 0, 0, rfl, Nat.zero_le _, by rw [← CZ.out], Lib.hid (Nat.two_pow_pos _), Lib.hid (by rw [List.drop_zero]; exact HRC.out.symm), Lib.hid (.inl ⟨rfl, rfl⟩), hBw, hB1⟩
  case round =>
    clear hBw hB1
    obtain ⟨k, S, f, rfl, hk, rfl, hS, hI, hF, hW, hB⟩ := hrel
    obtain ⟨WA, rfl⟩ : ∃ W, W = wr := ⟨_, rfl⟩
    have hcl := cN_le zs.length S
    by_cases hlt : k < ls.length
    · have g : decide ((k : Int) < (ls.length : Int)) = true := by simp [hlt]
      have W1 : IntKind.i64.wrap ((k : Int) + 1) = ((k + 1 : Nat) : Int) := by rw [IntWalk.i64_in _ (by omega)]; omega
      obtain ⟨a, ux, rfl, cu, hux⟩ := HQ'.out k hlt
      have hxl := HLX.out _ (List.getElem_mem hlt)
      have hI2 := hI.out
      rw [List.drop_eq_getElem_cons hlt] at hI2
      have q1 : (0 : Int) ≤ (k : Int) := by omega
      have q2 : (k : Int) < (ls.length : Int) := by omega
      obtain ⟨xs, hxs⟩ : ∃ xs, ls[k] = xs := ⟨_, rfl⟩
      rw [hxs] at hux hxl hI2
      obtain ⟨qx, cx, ex, hk'⟩ := hux
      subst ex
      have HK := Lib.hid hk'
      have HI2 := Lib.hid hI2
      have HXS := Lib.hid hxs
      have CU := Lib.hid cu
      have cu1 := cell_later hB cu
      clear hxs hk' hI2 hI cu
      by_cases c0 : xs.length = 0
      · have g0 : ((xs.length : Int) == 0) = true := by simp [c0]
        have no : ¬ C := fun h => (HI2.out.1 h).1 (List.eq_nil_of_length_eq_zero c0)
        have NO := Lib.hid no
        clear no c0
        go_wp2
        go_ret
        exact ⟨false, rfl, Lib.hid ⟨(fun h => by cases h), (fun h => absurd h NO.out)⟩, hB⟩
      · have g0 : ((xs.length : Int) == 0) = false := by simp; simpa using c0
        have hx0 : 0 < xs.length := by omega
        obtain ⟨b, rfl, cx0⟩ := HK.out 0 hx0
        have HX : Hid (∀ j (h : j < xs.length), w.cell? (b.add j) = some (.int .i64 xs[j])) := Lib.hid fun j h => by
          obtain ⟨b', e, h'⟩ := HK.out j h
          cases e; exact h'
        have IS := Lib.hid (inn_start zs.length S xs)
        have BS : Hid (Bow WA w.heap.size zs.length (seenM zs.length S xs 0)) := Lib.hid (by rw [IS.out.2]; exact hW.out)
        have ES : Hid ((cN zs.length S : Int) = ((cN zs.length (seenM zs.length S xs 0) : Nat) : Int)) := Lib.hid (by rw [IS.out.2])
        have NOT : Hid (¬ (okL zs.length xs ∧ mOf zs.length xs &&& S = 0) → ¬ C) := Lib.hid fun h k => h ⟨(HI2.out.1 k).2.1, (HI2.out.1 k).2.2.1⟩
        clear cx0 c0
        go_wp2
        go_loopw [6, 8, 9] (fun v6 v8 v9 wq => ∃ j : Nat, v9 = .int .i64 j ∧ j ≤ xs.length ∧ v6 = .int .i64 (cN zs.length (seenM zs.length S xs j)) ∧ v8 = .int .i64 (pick zs (xs.take j)) ∧ Hid (Innr zs.length S xs j) ∧ Hid (Bow wq w.heap.size zs.length (seenM zs.length S xs j)) ∧ Below w.heap.size w wq) (fun _ _ v _ => xs.length - (intOf v).toNat)
        case atStart => exact ⟨0, rfl, Nat.zero_le _, by rw [ES.out], by simp [pick], Lib.hid IS.out.1, BS, hB⟩
        case round =>
          clear hW hB BS cu1
          obtain ⟨j, rfl, hj, rfl, rfl, hN, hW, hB⟩ := hrel
          obtain ⟨WB, rfl⟩ : ∃ W, W = wr := ⟨_, rfl⟩
          have cu1 := cell_later hB CU.out
          have hc2 := cN_le zs.length (seenM zs.length S xs j)
          have hpi := pick_in hz (xs.take j)
          have hpl := okL_len hN.out.1
          by_cases hjl : j < xs.length
          · have gj : decide ((j : Int) < (xs.length : Int)) = true := by simp [hjl]
            have W2 : IntKind.i64.wrap ((j : Int) + 1) = ((j + 1 : Nat) : Int) := by rw [IntWalk.i64_in _ (by omega)]; omega
            have q3 : (0 : Int) ≤ (j : Int) := by omega
            have q4 : (j : Int) < (xs.length : Int) := by omega
            have cxj := cell_later hB (HX.out j hjl)
            have OUT := Lib.hid (fun h => NOT.out (inn_out (n := zs.length) (S := S) hjl h))
            have SEE := Lib.hid (fun x e h => NOT.out (inn_seen (n := zs.length) (S := S) (x := x) hjl e h))
            have BAK := Lib.hid (fun h0 h => NOT.out (inn_back (n := zs.length) (S := S) hjl h0 h))
            have STP := Lib.hid (fun x e h1 h2 h3 => inn_step (x := x) hN.out hjl e h1 h2 h3)
            have PT := Lib.hid (pick_take zs xs j hjl)
            have hpi2 := pick_in hz (xs.take (j + 1))
            obtain ⟨x, hx⟩ : ∃ x, xs[j] = x := ⟨_, rfl⟩
            rw [hx] at cxj OUT SEE BAK STP PT
            obtain ⟨M, hM⟩ : ∃ M, seenM zs.length S xs j = M := ⟨_, rfl⟩
            rw [hM] at hc2 hW SEE STP ⊢
            obtain ⟨p, hp⟩ : ∃ p, pick zs (xs.take j) = p := ⟨_, rfl⟩
            rw [hp] at hpi PT ⊢
            have HXJ := Lib.hid hx
            have hll2 : (xs.take j).length ≤ 10 := by omega
            clear hx hM hp hN
            by_cases c1 : x < 0
            · have g1 : decide (x < 0) = true := by simp [c1]
              have NO := Lib.hid (OUT.out (.inl c1))
              clear c1 hpi hpi2
              go_wp2
              go_ret
              exact ⟨false, rfl, Lib.hid ⟨(fun h => by cases h), (fun h => absurd h NO.out)⟩, hB⟩
            · have g1 : decide (x < 0) = false := by simp; omega
              by_cases c2 : (zs.length : Int) ≤ x
              · have g2 : decide ((zs.length : Int) ≤ x) = true := by simp [c2]
                have NO := Lib.hid (OUT.out (.inr c2))
                clear c1 c2 hpi hpi2
                go_wp2
                go_ret
                exact ⟨false, rfl, Lib.hid ⟨(fun h => by cases h), (fun h => absurd h NO.out)⟩, hB⟩
              · obtain ⟨X, hX⟩ : ∃ X : Nat, x = (X : Int) := ⟨x.toNat, by omega⟩
                subst hX
                have g2 : decide ((zs.length : Int) ≤ (X : Int)) = false := by simp; omega
                have hXn : X < zs.length := by omega
                have q5 : (0 : Int) ≤ (X : Int) := by omega
                have q6 : (X : Int) < (zs.length : Int) := by omega
                have cs := hW.out.read hXn
                obtain ⟨bz, rfl, cz⟩ := HQ.out X hXn
                cases hb : M.testBit X
                · rw [hb] at cs
                  by_cases c4 : 0 < j
                  · have gj0 : decide ((0 : Int) < (j : Int)) = true := by simp [c4]
                    have gj1 : decide (0 < j) = true := by simp [c4]
                    have cp := cell_later hB (HX.out (j - 1) (by omega))
                    have BK := BAK.out c4
                    have ST0 := fun h => STP.out X rfl hXn hb h
                    obtain ⟨y, hy⟩ : ∃ y, xs[j - 1] = y := ⟨_, rfl⟩
                    rw [hy] at cp BK
                    obtain ⟨j1, hj1⟩ : ∃ j1, j - 1 = j1 := ⟨_, rfl⟩
                    have W3 : IntKind.i64.wrap ((j : Int) - 1) = (j1 : Int) := by rw [IntWalk.i64_in _ (by omega)]; omega
                    have W3' : (j : Int) - 1 = (j1 : Int) := by omega
                    have q7 : (0 : Int) ≤ (j1 : Int) := by omega
                    have q8 : (j1 : Int) < (xs.length : Int) := by omega
                    rw [hj1] at cp
                    by_cases c5 : (X : Int) < y
                    · have g5 : decide ((X : Int) < y) = true := by simp [c5]
                      have NO := Lib.hid (BK c5)
                      clear c1 c2 c5 hpi hpi2 BK ST0 hy hj1 hb
                      go_wp2
                      go_ret
                      exact ⟨false, rfl, Lib.hid ⟨(fun h => by cases h), (fun h => absurd h NO.out)⟩, hB⟩
                    · have g5 : decide ((X : Int) < y) = false := by simp; omega
                      have ST := ST0 fun _ => by rw [hy]; omega
                      clear BK ST0 hy hj1 c5
                      have hpl2 := okL_len ST.1.1
                      have eN : Hid ((cN zs.length (seenM zs.length S xs (j + 1)) : Int) = ((cN zs.length M + 1 : Nat) : Int)) := Lib.hid (by rw [ST.2, cN_set _ _ _ hXn hb])
                      have R2 : Hid (Bow (WB.setCell ⟨w.heap.size, X, none⟩ (.bool true)) w.heap.size zs.length (seenM zs.length S xs (j + 1))) := Lib.hid (by rw [ST.2]; exact hW.out.put X)
                      have B2 : Below w.heap.size w (WB.setCell ⟨w.heap.size, X, none⟩ (.bool true)) := hB.setCell (Nat.le_refl _) _
                      have f1 := Has.open_ hW.out X
                      have cz2 := cell_later B2 cz
                      have ez : zs.getD ((X : Nat) : Int).toNat 0 = zs[X] := by simp [List.getD, hXn]
                      have pt := PT.out
                      rw [ez] at pt
                      obtain ⟨z, hzz⟩ : ∃ z, zs[X] = z := ⟨_, rfl⟩
                      rw [hzz] at cz2 cz pt
                      rw [pt] at hpi2
                      have PT2 := Lib.hid pt
                      have W5 : IntKind.i64.wrap (p + z) = p + z := by clear eN pt ez hzz; rw [IntWalk.i64_in _ (by omega)]
                      obtain ⟨m0, hm0⟩ : ∃ m0, cN zs.length M = m0 := ⟨_, rfl⟩
                      rw [hm0] at eN hc2 ⊢
                      have W4 : IntKind.i64.wrap ((m0 : Int) + 1) = ((m0 + 1 : Nat) : Int) := by clear eN pt ez hzz hm0; rw [IntWalk.i64_in _ (by omega)]; omega
                      have HST := Lib.hid ST.1
                      have HW := Lib.hid hW.out
                      clear ST pt ez hzz hm0 hpi hpi2 hW hb c1 c2
                      go_wp2
                      exact ⟨⟨j + 1, rfl, hjl, by rw [eN.out]; rfl, by rw [PT2.out], HST, R2, B2⟩, by simp [intOf]; omega⟩
                  · have gj0 : decide ((0 : Int) < (j : Int)) = false := by simp; omega
                    have gj1 : decide (0 < j) = false := by simp; omega
                    have ST := STP.out X rfl hXn hb fun h => absurd h c4
                    have hpl2 := okL_len ST.1.1
                    have eN : Hid ((cN zs.length (seenM zs.length S xs (j + 1)) : Int) = ((cN zs.length M + 1 : Nat) : Int)) := Lib.hid (by rw [ST.2, cN_set _ _ _ hXn hb])
                    have R2 : Hid (Bow (WB.setCell ⟨w.heap.size, X, none⟩ (.bool true)) w.heap.size zs.length (seenM zs.length S xs (j + 1))) := Lib.hid (by rw [ST.2]; exact hW.out.put X)
                    have B2 : Below w.heap.size w (WB.setCell ⟨w.heap.size, X, none⟩ (.bool true)) := hB.setCell (Nat.le_refl _) _
                    have f1 := Has.open_ hW.out X
                    have cz2 := cell_later B2 cz
                    have ez : zs.getD ((X : Nat) : Int).toNat 0 = zs[X] := by simp [List.getD, hXn]
                    have pt := PT.out
                    rw [ez] at pt
                    obtain ⟨z, hzz⟩ : ∃ z, zs[X] = z := ⟨_, rfl⟩
                    rw [hzz] at cz2 cz pt
                    rw [pt] at hpi2
                    have PT2 := Lib.hid pt
                    have W5 : IntKind.i64.wrap (p + z) = p + z := by clear eN pt ez hzz; rw [IntWalk.i64_in _ (by omega)]
                    obtain ⟨m0, hm0⟩ : ∃ m0, cN zs.length M = m0 := ⟨_, rfl⟩
                    rw [hm0] at eN hc2 ⊢
                    have W4 : IntKind.i64.wrap ((m0 : Int) + 1) = ((m0 + 1 : Nat) : Int) := by clear eN pt ez hzz hm0; rw [IntWalk.i64_in _ (by omega)]; omega
                    have HST := Lib.hid ST.1
                    have HW := Lib.hid hW.out
                    clear ST pt ez hzz hm0 hpi hpi2 hW hb c1 c2
                    go_wp2
                    exact ⟨⟨j + 1, rfl, hjl, by rw [eN.out]; rfl, by rw [PT2.out], HST, R2, B2⟩, by simp [intOf]; omega⟩
                · rw [hb] at cs
                  have NO := Lib.hid (SEE.out X rfl hb)
                  clear c1 c2 hpi hpi2 hb
                  go_wp2
                  go_ret
                  exact ⟨false, rfl, Lib.hid ⟨(fun h => by cases h), (fun h => absurd h NO.out)⟩, hB⟩
          · have ej : j = xs.length := by omega
            subst ej
            have gj : decide ((xs.length : Int) < (xs.length : Int)) = false := by simp
            obtain ⟨ok, dis, es⟩ := inn_end hN.out
            rw [es] at hW hc2 ⊢
            rw [List.take_length] at hpi hpl ⊢
            have hS2 : S ||| mOf zs.length xs < 2 ^ zs.length := Nat.or_lt_two_pow hS.out (mOf_lt _ _)
            have hne : xs ≠ [] := fun e => by rw [e] at hx0; simp at hx0
            have h0x := (ok.2 _ (hd_mem hne)).1
            have cb := cell_later hB (HX.out 0 hx0)
            rw [hd_at hx0] at cb
            have STP := Lib.hid (fun hp hf => HI2.out.trans (rc_step hne ⟨ok, dis⟩ hp hf))
            have NP := Lib.hid (fun (hp : pick zs xs ≠ 0) (h : C) => hp (HI2.out.1 h).2.2.2.1)
            have NF := Lib.hid (fun (hf : hd0 xs < f) (h : C) => Int.not_lt.2 (HI2.out.1 h).2.2.2.2.1 hf)
            have F2 : Hid (k + 1 = 0 ∧ hd0 xs = 0 ∨ 0 < k + 1 ∧ ∃ h : k + 1 - 1 < ls.length, hd0 xs = hd0 ls[k + 1 - 1] ∧ 0 < ls[k + 1 - 1].length) := Lib.hid (.inr ⟨Nat.succ_pos k, hlt, (by rw [HXS.out] : hd0 xs = hd0 ls[k]), (by rw [HXS.out]; exact hx0 : 0 < ls[k].length)⟩)
            obtain ⟨S', hS'⟩ : ∃ S', S ||| mOf zs.length xs = S' := ⟨_, rfl⟩
            rw [hS'] at hW hc2 hS2 STP ⊢
            obtain ⟨p, hp⟩ : ∃ p, pick zs xs = p := ⟨_, rfl⟩
            rw [hp] at STP NP ⊢
            obtain ⟨h, hh⟩ : ∃ h, hd0 xs = h := ⟨_, rfl⟩
            rw [hh] at STP NF F2 cb h0x
            have cb' : WB.cell? b = some (.int .i64 h) := cb
            have HS2 := Lib.hid hS2
            have qx : (0 : Int) < (xs.length : Int) := by omega
            have qx1 : (0 : Int) ≤ 0 := by omega
            clear es hS2 hS' hp hh ok dis hne hpi hN
            by_cases c1 : p = 0
            · have g1 : (p != 0) = false := by simp [c1]
              rcases hF.out with ⟨k0, f0⟩ | ⟨k0, hk1, ef, hy0⟩
              · have gk : decide ((0 : Int) < (k : Int)) = false := by simp; omega
                have gk1 : decide (0 < k) = false := by simp; omega
                have I3 := Lib.hid (STP.out c1 (by omega))
                clear c1 k0 f0
                go_wp2_with fail
                go_quiet (fail)
                go_wp2
                exact ⟨⟨k + 1, S', h, rfl, hlt, rfl, HS2, I3, F2, Lib.hid hW.out, below_drewN hB nq⟩, by simp [intOf]; omega⟩
              · have gk : decide ((0 : Int) < (k : Int)) = true := by simp [k0]
                have gk1 : decide (0 < k) = true := by simp [k0]
                obtain ⟨_, uy, ea, cy, huy⟩ := HQ'.out (k - 1) hk1
                cases ea
                obtain ⟨qy, ccy, ey, hky⟩ := huy
                subst ey
                obtain ⟨by', rfl, cy0⟩ := hky 0 hy0
                rw [hd_at hy0, ← ef] at cy0
                have cy1 := cell_later hB cy
                have cy2 := cell_later hB cy0
                obtain ⟨L, hL⟩ : ∃ L, ls[k - 1].length = L := ⟨_, rfl⟩
                rw [hL] at cy1 hy0
                obtain ⟨k1, hk1'⟩ : ∃ k1, k - 1 = k1 := ⟨_, rfl⟩
                have W3 : IntKind.i64.wrap ((k : Int) - 1) = (k1 : Int) := by rw [IntWalk.i64_in _ (by omega)]; omega
                have q7 : (0 : Int) ≤ (k1 : Int) := by omega
                have q8 : (k1 : Int) < (ls.length : Int) := by omega
                have qy : (0 : Int) < (L : Int) := by omega
                rw [hk1'] at cy1
                have cy2' : WB.cell? by' = some (.int .i64 f) := cy2
                clear hky cy cy0 hL hk1' ef
                by_cases c5 : h < f
                · have g5 : decide (h < f) = true := by simp [c5]
                  have NO := Lib.hid (NF.out c5)
                  clear c1 c5
                  go_wp2_with fail
                  go_quiet (fail)
                  go_wp2
                  go_ret
                  exact ⟨false, rfl, Lib.hid ⟨(fun h => by cases h), (fun h => absurd h NO.out)⟩, below_drewN hB nq⟩
                · have g5 : decide (h < f) = false := by simp; omega
                  have I3 := Lib.hid (STP.out c1 (by omega))
                  clear c1 c5
                  go_wp2_with fail
                  go_quiet (fail)
                  go_wp2
                  exact ⟨⟨k + 1, S', h, rfl, hlt, rfl, HS2, I3, F2, Lib.hid hW.out, below_drewN hB nq⟩, by simp [intOf]; omega⟩
            · have g1 : (p != 0) = true := by simp [c1]
              have NO := Lib.hid (NP.out c1)
              clear c1
              go_wp2_with fail
              go_quiet (fail)
              go_wp2
              go_ret
              exact ⟨false, rfl, Lib.hid ⟨(fun h => by cases h), (fun h => absurd h NO.out)⟩, below_drewN hB nq⟩
    · have g : decide ((k : Int) < (ls.length : Int)) = false := by simp; omega
      have I2 := hI.out
      rw [List.drop_of_length_le (by omega)] at I2
      have HI2 : Hid (C ↔ S = allS zs) := Lib.hid I2
      have HCN := Lib.hid (cN_is hS.out)
      obtain ⟨m, hm⟩ : ∃ m, cN zs.length S = m := ⟨_, rfl⟩
      rw [hm] at HCN hcl ⊢
      clear I2 hI hm
      go_wp2
      go_ret
      exact ⟨_, rfl, Lib.hid (by rw [HI2.out, ← HCN.out]; simp; omega), hB⟩
end Go.Proofs.YtepcokgpepcccaaDoor
namespace Go.Proofs.YtepcokgpepcccaaDoor
open Go.ChangeShapes Go.WideShapes Go.ChangeAt Go.RowKit
set_option linter.unusedVariables false
set_option linter.unusedSimpArgs false

theorem parts_bad (u : Value) (zs : List Int) (w : World) (hR : Rdz w u zs) (hT : Tab w) (h0 : fau zs ≠ 0) :
    Calls Tryd.prog 24 #[u] w fun e w' => e = .returned (.tuple #[.slice none 0 0, .int .i64 (fau zs)]) ∧ Below w.heap.size w w' :=
  (parts_any u zs w hR hT fun k => absurd k h0).mono fun e w' ⟨hb, k, _, _⟩ => ⟨k h0, hb⟩
theorem bool_of (p : Prop) : ∃ B : Bool, B = true ↔ p := by
  by_cases h : p
  · exact ⟨true, fun _ => h, fun _ => rfl⟩
  · exact ⟨false, (fun k => by cases k), (fun k => absurd k h)⟩
theorem check_is (u v : Value) (zs : List Int) (ls : List (List Int)) (B : Bool) (w : World) (hR : Rdz w u zs) (hX : Rdzz w v ls) (hl : zs.length ≤ 10) (h0 : fau zs = 0) (hll : ls.length ≤ 20) (hlx : ∀ x ∈ ls, x.length ≤ 20) (hB : B = true ↔ Chk zs (allS zs) ls 0) :
    Calls Tryd.prog 25 #[u, v] w fun e w' => e = .returned (.tuple #[.bool B, .int .i64 0]) ∧ w' = w :=
  (check_any u v zs ls w hR hX hl h0 (by omega) (fun x hx => by have := hlx x hx; omega)).mono fun e w' ⟨b, he, hb, hw⟩ => by
    have k := hb.out.trans hB.symm
    have : b = B := by cases b <;> cases B <;> simp_all
    exact ⟨by rw [he, this], hw⟩
theorem rcheck_is (u v : Value) (zs : List Int) (ls : List (List Int)) (B : Bool) (w : World) (hR : Rdz w u zs) (hX : Rdzz w v ls) (hl : zs.length ≤ 10) (h0 : fau zs = 0) (hll : ls.length ≤ 20) (hlx : ∀ x ∈ ls, x.length ≤ 20) (hB : B = true ↔ Chk zs (allS zs) ls 0) :
    Calls Tryd.prog 28 #[u, v] w fun e w' => e = .returned (.bool B) ∧ Below w.heap.size w w' :=
  (rcheck_any u v zs ls w hR hX hl (fau_zero h0).2 (by omega) (fun x hx => by have := hlx x hx; omega)).mono fun e w' ⟨b, he, hb, hw⟩ => by
    have k := hb.out.trans hB.symm
    have : b = B := by cases b <;> cases B <;> simp_all
    exact ⟨by rw [he, this], hw⟩
theorem rparts_form (u : Value) (zs : List Int) (w : World) (hR : Rdz w u zs) (hl : zs.length ≤ 8) (h0 : fau zs = 0) (hs0 : SF zs (allS zs) = 0) :
    Calls Tryd.prog 26 #[u] w fun e w' => ∃ ps q n c, e = .returned (.tuple #[.slice q n c, .int .i64 0]) ∧ Hid (Pts (SF zs) (MF zs) (allS zs) ps) ∧ Hid (Rdzz w' (.slice q n c) (lists ps)) ∧ Below w.heap.size w w' :=
  (rparts_yes u zs w hR hl h0 hs0).mono fun e w' ⟨ps, v, he, hp, hr, hb⟩ => by
    obtain ⟨q, c, rfl, -⟩ := id hr.out
    exact ⟨ps, q, _, c, he, hp, hr, hb⟩
theorem same_nil (w : World) : Calls Tryd.prog 27 #[.slice none 0 0, .slice none 0 0] w fun e w' => e = .returned (.bool true) ∧ Below w.heap.size w w' :=
  same_yes _ _ [] [] w (rdzz_nil w) (rdzz_nil w) rfl (by simp)
set_option maxRecDepth 100000 in
set_option maxHeartbeats 8000000 in
theorem parts_walk (u v : Value) (zs : List Int) (ls : List (List Int)) (w : World) (hR : Rdz w u zs) (hX : Rdzz w v ls) (hT : Tab w) :
    Calls Tryd.prog 5 #[u, v] w fun e w' => e = .returned (.bool true) ∧ Below w.heap.size w w' := by
  obtain ⟨uq, ucc, rfl, hq⟩ := hR
  have hR : Rdz w (.slice uq zs.length ucc) zs := ⟨uq, ucc, rfl, hq⟩
  obtain ⟨xq, xcc, rfl, hxq⟩ := hX
  have hX : Rdzz w (.slice xq ls.length xcc) ls := ⟨xq, xcc, rfl, hxq⟩
  clear hq hxq
  have hL := fun w h => long_any (.slice uq zs.length ucc) zs w h
  go_enter Tryd.func5, Tryd.ntmps5
  cases hlo : longB zs.length
  case true =>
    rw [hlo] at hL
    clear hlo
    go_wp2_with (first
      | (go_at_call 9; (with_reducible refine (awake_any _ hT).mono ?_); rintro e1 w1 ⟨rfl, b1⟩; have R1 := hR.on b1)
      | (go_at_call 10; (with_reducible refine (hL _ R1).mono ?_); rintro e2 w2 ⟨rfl, hw⟩; subst w2))
    go_ret
    exact ⟨rfl, b1⟩
  case false =>
    rw [hlo] at hL
    by_cases hb20 : 20 < ls.length
    · have g2 : decide ((20 : Int) < (ls.length : Int)) = true := by simp; omega
      clear hlo
      go_wp2_with (first
        | (go_at_call 9; (with_reducible refine (awake_any _ hT).mono ?_); rintro e1 w1 ⟨rfl, b1⟩; have R1 := hR.on b1)
        | (go_at_call 10; (with_reducible refine (hL _ R1).mono ?_); rintro e2 w2 ⟨rfl, hw⟩; subst w2))
      go_ret
      exact ⟨rfl, b1⟩
    have g2 : decide ((20 : Int) < (ls.length : Int)) = false := by simp; omega
    by_cases hall : ∀ x ∈ ls, x.length ≤ 20
    case neg =>
      have hLL := fun w h => longl_is (.slice xq ls.length xcc) ls true w h (by omega) ⟨(fun h => by cases h), (fun h => absurd h hall)⟩
      clear hlo hall
      go_wp2_with (first
        | (go_at_call 9; (with_reducible refine (awake_any _ hT).mono ?_); rintro e1 w1 ⟨rfl, b1⟩; have R1 := hR.on b1; have X1 := hX.on b1)
        | (go_at_call 10; (with_reducible refine (hL _ R1).mono ?_); rintro e2 w2 ⟨rfl, hw⟩; subst w2)
        | (go_at_call 22; (with_reducible refine (hLL _ X1).mono ?_); rintro e3 w3 ⟨rfl, hw⟩; subst w3))
      go_ret
      exact ⟨rfl, b1⟩
    have hLL := fun w h => longl_is (.slice xq ls.length xcc) ls false w h (by omega) ⟨fun _ => hall, fun _ => rfl⟩
    have hG := fun w h => given_any (.slice uq zs.length ucc) zs w h
    by_cases h0 : fau zs ≠ 0
    · have HP := fun w h t => parts_bad (.slice uq zs.length ucc) zs w h t h0
      have HC := fun w h => check_bad (.slice uq zs.length ucc) (.slice xq ls.length xcc) zs w h h0
      obtain ⟨f, ef⟩ : ∃ f, fau zs = f := ⟨_, rfl⟩
      rw [ef] at hG h0 HP HC
      have g : (f != 0) = true := by simp [h0]
      have g0 : (f == f) = true := by simp
      clear ef hlo hall
      go_wp2_with (first
        | (go_at_call 9; (with_reducible refine (awake_any _ hT).mono ?_); rintro e1 w1 ⟨rfl, b1⟩; have R1 := hR.on b1; have X1 := hX.on b1; have T1 := hT.on b1)
        | (go_at_call 10; (with_reducible refine (hL _ R1).mono ?_); rintro e2 w2 ⟨rfl, hw⟩; subst w2)
        | (go_at_call 22; (with_reducible refine (hLL _ X1).mono ?_); rintro e3 w3 ⟨rfl, hw⟩; subst w3)
        | (go_at_call 24; (with_reducible refine (HP _ R1 T1).mono ?_); rintro e4 w4 ⟨rfl, b4⟩; have R4 := R1.on b4)
        | (go_at_call 25; (with_reducible refine (HC _ R4).mono ?_); rintro e5 w5 ⟨rfl, hw⟩; subst w5)
        | (go_at_call 13; (with_reducible refine (hG _ R4).mono ?_); rintro e6 w6 ⟨rfl, hw⟩; subst w6))
      go_ret
      exact ⟨rfl, belows b1 b4⟩
    have h0 : fau zs = 0 := Classical.not_not.1 h0
    have hl8 := short_of hlo h0
    have hl10 : zs.length ≤ 10 := by omega
    obtain ⟨B, hB⟩ := bool_of (Chk zs (allS zs) ls 0)
    have gB : (B == B) = true := by simp
    have HC := fun w h x => check_is (.slice uq zs.length ucc) (.slice xq ls.length xcc) zs ls B w h x hl10 h0 (by omega) hall hB
    have HD := fun w h x => rcheck_is (.slice uq zs.length ucc) (.slice xq ls.length xcc) zs ls B w h x hl10 h0 (by omega) hall hB
    rw [h0] at hG
    by_cases hs0 : SF zs (allS zs) ≠ 0
    · have HP := fun w h t => parts_no (.slice uq zs.length ucc) zs w h t h0 hl10 hs0
      have HQ := fun w h => rparts_no (.slice uq zs.length ucc) zs w h hl8 h0 hs0
      clear hlo hall h0 hs0 hB
      go_wp2_with (first
        | (go_at_call 9; (with_reducible refine (awake_any _ hT).mono ?_); rintro e1 w1 ⟨rfl, b1⟩; have R1 := hR.on b1; have X1 := hX.on b1; have T1 := hT.on b1)
        | (go_at_call 10; (with_reducible refine (hL _ R1).mono ?_); rintro e2 w2 ⟨rfl, hw⟩; subst w2)
        | (go_at_call 22; (with_reducible refine (hLL _ X1).mono ?_); rintro e3 w3 ⟨rfl, hw⟩; subst w3)
        | (go_at_call 24; (with_reducible refine (HP _ R1 T1).mono ?_); rintro e4 w4 ⟨rfl, b4⟩; have R4 := R1.on b4; have X4 := X1.on b4)
        | (go_at_call 25; (with_reducible refine (HC _ R4 X4).mono ?_); rintro e5 w5 ⟨rfl, hw⟩; subst w5)
        | (go_at_call 13; (with_reducible refine (hG _ R4).mono ?_); rintro e6 w6 ⟨rfl, hw⟩; subst w6)
        | (go_at_call 26; (with_reducible refine (HQ _ R4).mono ?_); rintro e7 w7 ⟨rfl, b7⟩; have R7 := R4.on b7; have X7 := X4.on b7)
        | (go_at_call 27; (with_reducible refine (same_nil _).mono ?_); rintro e8 w8 ⟨rfl, b8⟩; have R8 := R7.on b8; have X8 := X7.on b8)
        | (go_at_call 28; (with_reducible refine (HD _ R8 X8).mono ?_); rintro e9 w9 ⟨rfl, b9⟩))
      go_ret
      exact ⟨rfl, belows (belows (belows (belows b1 b4) b7) b8) b9⟩
    have hs0 : SF zs (allS zs) = 0 := Classical.not_not.1 hs0
    have HP := fun w h t => parts_form (.slice uq zs.length ucc) zs _ w h t h0 hl10 hs0 rfl
    have HQ := fun w h => rparts_form (.slice uq zs.length ucc) zs w h hl8 h0 hs0
    have hAl : allS zs < 1024 := by
      have h10 : 2 ^ zs.length ≤ 1024 := Nat.pow_le_pow_right (n := 2) (by omega) hl10
      have := Nat.two_pow_pos zs.length
      unfold allS; clear hs0 hlo h0 hB; omega
    have HU := fun ps rs v v' w (a : Hid (Pts (SF zs) (MF zs) (allS zs) ps)) (b : Hid (Pts (SF zs) (MF zs) (allS zs) rs)) h1 h2 => same_yes v v' ps rs w h1 h2 (a.out.uniq hAl b.out) (by have := a.out.len hAl; clear hs0 hlo h0 hB; generalize allS zs = A at *; omega)
    clear hlo hall h0 hs0 hB
    obtain ⟨L, hLL2⟩ : ∃ L, MF zs (allS zs) = L := ⟨_, rfl⟩
    rw [hLL2] at HP
    clear hLL2
    go_wp2_with (first
      | (go_at_call 9; (with_reducible refine (awake_any _ hT).mono ?_); rintro e1 w1 ⟨rfl, b1⟩; have R1 := hR.on b1; have X1 := hX.on b1; have T1 := hT.on b1)
      | (go_at_call 10; (with_reducible refine (hL _ R1).mono ?_); rintro e2 w2 ⟨rfl, hw⟩; subst w2)
      | (go_at_call 22; (with_reducible refine (hLL _ X1).mono ?_); rintro e3 w3 ⟨rfl, hw⟩; subst w3)
      | (go_at_call 24; (with_reducible refine (HP _ R1 T1).mono ?_); rintro e4 w4 ⟨ps, pq, pc, rfl, hp, r4, b4⟩; have R4 := R1.on b4; have X4 := X1.on b4)
      | (go_at_call 25; (with_reducible refine (HC _ R4 X4).mono ?_); rintro e5 w5 ⟨rfl, hw⟩; subst w5)
      | (go_at_call 13; (with_reducible refine (hG _ R4).mono ?_); rintro e6 w6 ⟨rfl, hw⟩; subst w6)
      | (go_at_call 26; (with_reducible refine (HQ _ R4).mono ?_); rintro e7 w7 ⟨rs, rq, rn, rc, rfl, hr, r7, b7⟩; have R7 := R4.on b7; have X7 := X4.on b7; have r4' := r4.out.on b7)
      | (go_at_call 27; (with_reducible refine (HU _ _ _ _ _ hp hr r4' r7.out).mono ?_); rintro e8 w8 ⟨rfl, b8⟩; have R8 := R7.on b8; have X8 := X7.on b8)
      | (go_at_call 28; (with_reducible refine (HD _ R8 X8).mono ?_); rintro e9 w9 ⟨rfl, b9⟩))
    go_ret
    exact ⟨rfl, belows (belows (belows (belows b1 b4) b7) b8) b9⟩
theorem parts_walk2 (u : Value) (zs : List Int) (v : Value) (ls : List (List Int)) (w : World) (hR : Rdz w u zs) (hX : Rdzz w v ls) (hT : Tab w) :
    Calls Tryd.prog 5 #[u, v] w fun e w' => e = .returned (.bool true) ∧ Below w.heap.size w w' := parts_walk u v zs ls w hR hX hT
end Go.Proofs.YtepcokgpepcccaaDoor
