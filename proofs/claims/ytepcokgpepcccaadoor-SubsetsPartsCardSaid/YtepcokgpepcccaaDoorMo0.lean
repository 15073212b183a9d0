/- No part of the program's partition can be divided (pure). -/
import Derived.Test.YtepcokgpepcccaaDoorCk2
namespace Go.Proofs.YtepcokgpepcccaaDoor
set_option linter.unusedVariables false
set_option linter.unusedSimpArgs false
/-- The numbers at some places. -/
def sel (zs xs : List Int) : List Int := xs.map fun x => zs.getD x.toNat 0
theorem pick_map (zs : List Int) (X : List Int) (hX : ∀ x ∈ X, 0 ≤ x) : ∀ ys : List Int, (∀ y ∈ ys, 0 ≤ y ∧ y < (X.length : Int)) → pick (sel zs X) ys = pick zs (ys.map fun y => X.getD y.toNat 0)
  | [], _ => rfl
  | y :: ys, h => by
    obtain ⟨h1, h2⟩ := h y (List.mem_cons_self ..)
    have hy : y.toNat < X.length := by omega
    rw [pick, List.map_cons, pick, pick_map zs X hX ys fun y hy => h y (List.mem_cons_of_mem _ hy)]
    congr 1
    simp only [sel, List.getD_eq_getElem?_getD, List.getElem?_map, List.getElem?_eq_getElem hy, Option.map_some, Option.getD_some]
theorem okL_sel {n : Nat} {X ys : List Int} (hX : okL n X) (hy : okL X.length ys) : okL n (ys.map fun y => X.getD y.toNat 0) := by
  constructor
  · rw [Asc, List.pairwise_map]
    refine List.Pairwise.imp_of_mem (fun {a b} ha hb hab => ?_) hy.1
    obtain ⟨a1, a2⟩ := hy.2 a ha
    obtain ⟨b1, b2⟩ := hy.2 b hb
    have hat : a.toNat < X.length := by omega
    have hbt : b.toNat < X.length := by omega
    have := List.pairwise_iff_getElem.1 hX.1 a.toNat b.toNat hat hbt (by omega)
    simpa [List.getD_eq_getElem?_getD, hat, hbt] using this
  · intro x hx
    obtain ⟨y, hy', rfl⟩ := List.mem_map.1 hx
    obtain ⟨a1, a2⟩ := hy.2 y hy'
    have hat : y.toNat < X.length := by omega
    have e : X.getD y.toNat 0 = X[y.toNat] := by simp [List.getD_eq_getElem?_getD, hat]
    rw [e]
    exact hX.2 _ (List.getElem_mem hat)
theorem getD_mem {X : List Int} {i : Nat} (h : i < X.length) : X.getD i 0 ∈ X := by
  have e : X.getD i 0 = X[i] := by simp [List.getD_eq_getElem?_getD, h]
  rw [e]; exact List.getElem_mem h
/-- A part of a first partition has no part of its own. -/
theorem part_whole {zs : List Int} {r p : Nat} (hl : zs.length ≤ 10) (hr : r < 2 ^ zs.length) (hc : cand (SF zs) (MF zs) r p) {t : Nat} (ht : Sub t p) (t0 : t ≠ 0) (hz : SF zs t = 0) : t = p := by
  apply Classical.byContradiction
  intro hne
  have hF := SF_adds zs
  have hM := MF_counts zs hl
  obtain ⟨a, b, c, d⟩ := hc
  have hpl := a.le
  have hpk := (hM (r - p) (by omega)).1
  have h2 : SF zs (p - t) = 0 := by have := hF.2 p t ht; omega
  -- t, what is left of p, and the parts of the rest
  have k1 : Pack (SF zs) (r - t) (MF zs (r - p) + 1) := by
    refine .succ (t := p - t) ?_ ?_ h2 ?_
    · exact minus_sub ht a
    · have := ht.le; omega
    · have e : r - t - (p - t) = r - p := by have := ht.le; omega
      rw [e]; exact hpk
  have k2 : Pack (SF zs) r (MF zs (r - p) + 1 + 1) := .succ (ht.trans a) t0 hz k1
  have := (hM r hr).2 _ k2
  omega
theorem whole_zero {zs : List Int} {r p : Nat} (hl : zs.length ≤ 10) (hr : r < 2 ^ zs.length) (hc : cand (SF zs) (MF zs) r p) (p0 : p ≠ 0) (P : List Int) (hP : P = sel zs (toZ (ixs zs.length p))) : fst (byZero P) (2 ^ P.length) = some (2 ^ P.length - 1) := by
  have hX : okL zs.length (toZ (ixs zs.length p)) := okL_of _ _
  have hpl : p < 2 ^ zs.length := by have := hc.1.le; omega
  have hm : mOf zs.length (toZ (ixs zs.length p)) = p := mOf_of _ _ hpl
  obtain ⟨X, hXX⟩ : ∃ X, toZ (ixs zs.length p) = X := ⟨_, rfl⟩
  rw [hXX] at hX hm hP
  have hPl : P.length = X.length := by rw [hP]; simp [sel]
  have hX0 : ∀ x ∈ X, 0 ≤ x := fun x hx => (hX.2 x hx).1
  -- sums of sets of places
  have key : ∀ s, s < 2 ^ P.length → s ≠ 0 → SF P s = 0 → s = 2 ^ P.length - 1 := by
    intro s hs s0 hz
    have hY : okL X.length (toZ (ixs X.length s)) := okL_of _ _
    have e1 : SF P s = pick P (toZ (ixs P.length s)) := (pick_ixs P s P.length).symm
    rw [hPl] at e1 hs ⊢
    have e2 := pick_map zs X hX0 (toZ (ixs X.length s)) (fun y hy => hY.2 y hy)
    rw [← hP, ← e1, hz] at e2
    have hZ := okL_sel hX hY
    obtain ⟨Z, hZZ⟩ : ∃ Z, ((toZ (ixs X.length s)).map fun y => X.getD y.toNat 0) = Z := ⟨_, rfl⟩
    rw [hZZ] at e2 hZ
    have hsub : Sub (mOf zs.length Z) p := fun i hi => by
      rw [mOf_bit, Bool.and_eq_true, decide_eq_true_iff, decide_eq_true_iff] at hi
      rw [← hm, mOf_bit, Bool.and_eq_true, decide_eq_true_iff, decide_eq_true_iff]
      refine ⟨hi.1, ?_⟩
      rw [← hZZ] at hi
      obtain ⟨y, hy, e⟩ := List.mem_map.1 hi.2
      rw [← e]
      obtain ⟨h1, h2⟩ := hY.2 y hy
      exact getD_mem (by omega)
    have hZl : Z.length = (ixs X.length s).length := by rw [← hZZ, List.length_map, toZ_len]
    have ht := part_whole hl hr hc hsub (fun e => by
      have hzl : Z = [] := by rw [okL_ixs hZ, e]; unfold toZ ixs; simp
      rw [hzl] at hZl
      have := ixs_zero X.length s hs
      rw [← hZl, decide_eq_false (by simp)] at this
      simp [s0] at this) (by rw [← okL_pick hZ]; exact e2.symm)
    have hZX : Z = X := by rw [okL_ixs hZ, ht, ← hXX]
    have hfull : (ixs X.length s).length = X.length := by rw [← hZl, hZX]
    apply Nat.eq_of_testBit_eq
    intro i
    rw [Nat.testBit_two_pow_sub_one]
    by_cases hi : i < X.length
    · rw [decide_eq_true hi]
      unfold ixs at hfull
      have hall := List.length_filter_eq_length_iff.1 (by rw [hfull, List.length_range])
      exact hall i (List.mem_range.2 hi)
    · rw [decide_eq_false hi, bit_hi hs (by omega)]
  have hXne : X.length ≠ 0 := fun e => p0 (by rw [← hm, List.length_eq_zero_iff.1 e, mOf_nil])
  have hall : SF P (2 ^ P.length - 1) = 0 := by
    have e : SF P (2 ^ P.length - 1) = tot P P.length := (tot_all P).symm
    have e1 : tot P P.length = pick P (toZ (ixs P.length (2 ^ P.length - 1))) := by rw [pick_ixs]; exact tot_all P
    rw [e, e1, hPl]
    have hY : okL X.length (toZ (ixs X.length (2 ^ X.length - 1))) := okL_of _ _
    have e2 := pick_map zs X hX0 (toZ (ixs X.length (2 ^ X.length - 1))) (fun y hy => hY.2 y hy)
    rw [← hP] at e2
    rw [e2]
    have e3 : ((toZ (ixs X.length (2 ^ X.length - 1))).map fun y => X.getD y.toNat 0) = X := by
      have h1 : ixs X.length (2 ^ X.length - 1) = List.range X.length := by
        unfold ixs
        rw [List.filter_eq_self.2 fun i hi => by rw [Nat.testBit_two_pow_sub_one]; exact decide_eq_true (List.mem_range.1 hi)]
      rw [h1]
      apply List.ext_getElem
      · simp [toZ]
      · intro i h1 h2
        simp [toZ, List.getD_eq_getElem?_getD, h2]
    rw [e3, okL_pick hX, hm]
    exact hc.2.2.1
  have hp1 := Nat.two_pow_pos P.length
  have hp2 : 2 ≤ 2 ^ P.length := by
    rw [hPl]
    obtain ⟨k, hk⟩ : ∃ k, X.length = k + 1 := ⟨X.length - 1, by omega⟩
    have := Nat.two_pow_pos k
    rw [hk, Nat.pow_succ]; omega
  cases hf : fst (byZero P) (2 ^ P.length) with
  | none =>
    have := (fst_none _ _).1 hf (2 ^ P.length - 1) (by omega)
    rw [byZero, sums_getD P _ (by omega)] at this
    have hall' : sm P (2 ^ P.length - 1) P.length = 0 := hall
    rw [hall'] at this
    simp at this
    omega
  | some b =>
    have hb := fst_lt _ _ _ hf
    have hh := fst_has _ _ _ hf
    rw [byZero, sums_getD P b hb, Bool.and_eq_true, bne_iff_ne, beq_iff_eq] at hh
    rw [key b hb hh.1 hh.2]
end Go.Proofs.YtepcokgpepcccaaDoor
