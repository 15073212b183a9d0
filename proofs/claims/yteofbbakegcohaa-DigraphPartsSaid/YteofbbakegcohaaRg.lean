/- The reference's Longest. -/
import Derived.Test.YteofbbakegcohaaRw
namespace Go.Proofs.Yteofbbakegcohaa
open Go.ChangeShapes Go.WideShapes Go.ChangeAt Go.RowKit
set_option linter.unusedVariables false
set_option linter.unusedSimpArgs false


theorem later {l : List (Nat × Nat)} {n : Nat} {E : List Nat} (hl : ∀ x ∈ l, x.1 < n ∧ x.2 < n) (h : ordr (adj l) n n [] = some E) {j : Nat} (hj : j < E.length) {u : Nat} (hu : u ∈ adj l E[j]) : u ∈ E.drop (j + 1) := by
  obtain ⟨nd, hlen, lt, all⟩ := ordr_nodup h
  obtain ⟨T, e, -, hT⟩ := ordr_split h
  rw [List.nil_append] at e
  subst e
  have hun : u < n := (hl _ ((mem_adj l _ u).1 hu)).2
  have hm := all u hun
  rw [← List.take_append_drop (j + 1) E, List.mem_append] at hm
  rcases hm with hm | hm
  · exfalso
    obtain ⟨i, hi, ei⟩ := List.getElem_of_mem hm
    rw [List.length_take] at hi
    rw [List.getElem_take] at ei
    have hi2 : i < E.length := by omega
    have es : E = E.take i ++ E[i] :: E.drop (i + 1) := by rw [← List.drop_eq_getElem_cons hi2, List.take_append_drop]
    have h2 := (hT _ _ _ es).2
    rw [List.nil_append] at h2
    have h3 := ((fre_iff (adj l) n _ _).1 h2).2 E[j] (lt _ (List.getElem_mem hj)) (fun hk => by
      obtain ⟨t, ht, et⟩ := List.getElem_of_mem hk
      rw [List.length_take] at ht
      rw [List.getElem_take] at et
      exact List.pairwise_iff_getElem.1 nd t j (by omega) hj (by omega) et)
    rw [ei] at h3
    exact h3 hu
  · exact hm
theorem mor_cong (l : List (Nat × Nat)) (S S' : Nat → Int) (v : Nat) (h : ∀ e ∈ l, e.1 = v → S e.2 = S' e.2) : ∀ k, mor l S v k = mor l S' v k
  | 0 => rfl
  | k + 1 => by
    rw [mor, mor, mor_cong l S S' v h k]
    cases hk : l[k]? with
    | none => rfl
    | some e =>
      simp only
      by_cases hv : e.1 = v
      · rw [h e (List.mem_of_getElem? hk) hv]
      · simp [hv]
/-- The sums that are known of the nodes behind place j of the order. -/
def bsf (S : Nat → Int) (E : List Nat) (j x : Nat) : Int := if x ∈ E.drop j then S x else 0
theorem bsf_put {S : Nat → Int} {E : List Nat} {j : Nat} (hj : j < E.length) (x : Nat) : upd (bsf S E (j + 1)) E[j] (S E[j]) x = bsf S E j x := by
  have hm : ∀ y, y ∈ E.drop j ↔ y = E[j] ∨ y ∈ E.drop (j + 1) := fun y => by
    rw [List.drop_eq_getElem_cons hj]; exact List.mem_cons
  unfold upd bsf
  by_cases h : x = E[j]
  · rw [if_pos h, if_pos ((hm x).2 (.inl h)), h]
  · rw [if_neg h]
    by_cases h2 : x ∈ E.drop (j + 1)
    · rw [if_pos h2, if_pos ((hm x).2 (.inr h2))]
    · rw [if_neg h2, if_neg (fun k => by
        rcases (hm x).1 k with k | k
        · exact h k
        · exact h2 k)]
theorem mor_le (l : List (Nat × Nat)) (S : Nat → Int) (v : Nat) (m : Int) (h0 : 0 ≤ m) (h : ∀ u, S u ≤ m) : ∀ k, mor l S v k ≤ m
  | 0 => h0
  | k + 1 => by
    have ih := mor_le l S v m h0 h k
    rw [mor]
    cases l[k]? with
    | none => exact ih
    | some e =>
      simp only
      split
      · exact h e.2
      · exact ih
theorem mor_pos (l : List (Nat × Nat)) (S : Nat → Int) (v : Nat) : ∀ k, 0 ≤ mor l S v k
  | 0 => Int.le_refl _
  | k + 1 => by
    have ih := mor_pos l S v k
    rw [mor]
    cases l[k]? with
    | none => exact ih
    | some e =>
      simp only
      split <;> omega
set_option maxRecDepth 100000 in
set_option maxHeartbeats 8000000 in
theorem rlongest_any (p : Option Addr) (n : Nat) (l : List (Nat × Nat)) (cap : Nat) (q : Option Addr) (c : Nat) (W : Nat → Int) (w : World) (E : List Nat) (hG : Gr w p n l) (hE : ordr (adj l) n n [] = some E) (hws : ∀ v, v < n → ∃ a, q = some a ∧ w.cell? (a.add v) = some (.int .i64 (W v))) (hwb : ∀ v, 0 ≤ W v ∧ W v ≤ 1073741824) :
    Calls Try.prog 22 #[.int .i64 n, .slice p l.length cap, .slice q n c] w fun e w' => ∃ v, e = .returned (.tuple #[.int .i64 (if n = 0 then 0 else lgS (adj l) W n (amx (lgS (adj l) W n) n)), v]) ∧ Own w.heap.size w' v (if n = 0 then [] else chn (lgN (adj l) W n) (n + 1) (amx (lgS (adj l) W n) n)) ∧ Below w.heap.size w w' := by
  have hn := hG.2.2.1
  have hm := hG.2.1
  have hl := hG.2.2.2
  have hA : ∀ v, v < n → ∀ u ∈ adj l v, u < n := fun v hv u hu => (hl _ ((mem_adj l v u).1 hu)).2
  obtain ⟨rk, hr⟩ : ∃ rk, Rnk (adj l) n rk := ⟨_, ordr_rank hA hE⟩
  obtain ⟨nd, hEl, hElt, hEall⟩ := ordr_nodup hE
  have hlat := fun (j : Nat) (hj : j < E.length) (u : Nat) (hu : u ∈ adj l E[j]) => later hl hE hj hu
  have hmo := fun (v : Nat) (hv : v < n) => lgS_mor W hA hr hv
  have hSb : ∀ v, 0 ≤ lgS (adj l) W n v ∧ lgS (adj l) W n v ≤ 1073741824 * 61 := fun v => by
    have := lg_bd (adj l) W hwb n v
    unfold lgS; omega
  obtain ⟨S, hS⟩ : ∃ S, S = lgS (adj l) W n := ⟨_, rfl⟩
  have hRO := fun W' (h : Gr W' p n l) => rorder_some cap h hE
  have HL := Lib.hid (And.intro hA (And.intro hr hS))
  rw [← hS] at hmo hSb ⊢
  obtain ⟨RS, hRS⟩ : ∃ r, r = (if n = 0 then 0 else S (amx S n)) := ⟨_, rfl⟩
  obtain ⟨RL, hRL⟩ : ∃ r, r = (if n = 0 then [] else chn (lgN (adj l) W n) (n + 1) (amx S n)) := ⟨_, rfl⟩
  rw [← hRS, ← hRL]
  have HRES := Lib.hid (And.intro hRS hRL)
  clear hRS hRL
  have HMO := Lib.hid hmo
  have HLA := Lib.hid hlat
  have HEA := Lib.hid (And.intro hElt hEall)
  have HEL := Lib.hid hEl
  have HWS := Lib.hid hws
  obtain ⟨i0, hi, hz0, hz1, hz2⟩ := info_parts info3
  clear hmo hlat hElt hEall hr hA hE hS nd hl hws
  have hEle : E.length ≤ 60 := by rw [hEl]; exact hn
  clear hEl
  go_enter Try.func22, Try.ntmps22
  go_wp2_with (first
    | (go_at_call 16; (with_reducible refine (hRO _ hG).mono ?_); rintro e w1 ⟨v1, rfl, o1, b1⟩; obtain ⟨oq, oc, e1, kO⟩ := o1.rd)
    | (at_make; refine wpList_make_full _ rfl _ _ 23 rfl w1.heap.size 3 i0 _ 1 Try.underlying23 hi hz0 hz1 _ _ _ _ n rfl rfl rfl rfl (by rw [hz2]; omega) (by unfold maxLen; omega) (Nat.le_refl _) ?_))
  intro w2 hown hgrow
  subst e1
  have b2 := below_grown (Below.refl _ w1) hgrow (Nat.le_refl _)
  have KO := Lib.hid kO
  have hR := Lib.hid ((row_zero hown).cong (f' := bsf S E n) fun i hi => by
    unfold bsf
    rw [← HEL.out, List.drop_length]; simp)
  have hw1 := b1.size
  clear hown hgrow o1 kO
  have hg0 : w1.heap.size < w2.heap.size := hR.out.size_
  have bw2 := belows b1 b2
  clear b1
  have G2 := hG.on bw2
  have W0 : IntKind.i64.wrap ((n : Int) - 1) = (n : Int) - 1 := IntWalk.i64_in _ (by omega)
  go_wp2
  go_loopw [11] (fun v wr => ∃ j : Nat, v = .int .i64 ((j : Int) - 1) ∧ j ≤ n ∧ Hid (Row wr w1.heap.size n (bsf S E j)) ∧ Below w1.heap.size w1 wr ∧ Below w.heap.size w wr) (fun v _ => ((intOf v) + 1).toNat)
  case atStart => exact ⟨n, rfl, Nat.le_refl _, hR, b2, bw2⟩
  case round =>
    clear hR b2 bw2 G2 W0
    obtain ⟨j, rfl, hj, hR, hB1, hB⟩ := hrel
    by_cases hlt : 1 ≤ j
    · obtain ⟨j, rfl⟩ : ∃ i, j = i + 1 := ⟨j - 1, by omega⟩
      have e0 : (((j + 1 : Nat) : Int) - 1) = (j : Int) := by omega
      rw [e0]
      have g1 : decide ((0 : Int) ≤ (j : Int)) = true := by simp
      have W1 : IntKind.i64.wrap ((j : Int) - 1) = (j : Int) - 1 := IntWalk.i64_in _ (by omega)
      have hjE : j < E.length := by rw [HEL.out]; omega
      obtain ⟨g, rfl, cj⟩ := KO.out j hjE
      have cj := cell_later hB1 cj
      have hvn := HEA.out.1 _ (List.getElem_mem hjE)
      have HBP := Lib.hid (bsf_put (S := S) hjE)
      have HLT := Lib.hid (HLA.out j hjE)
      have hmv := HMO.out _ hvn
      obtain ⟨v, hvv⟩ : ∃ v, v = E[j] := ⟨_, rfl⟩
      rw [← hvv] at cj hvn HBP HLT hmv
      clear hvv e0
      have HMV := Lib.hid hmv
      have q1 : (0 : Int) ≤ (j : Int) := by omega
      have q2 : (j : Int) < (E.length : Int) := by omega
      have hfS : Hid (∀ e ∈ l, e.1 = v → bsf S E (j + 1) e.2 = S e.2) := Lib.hid fun e he hev => by
        unfold bsf
        rw [if_pos (HLT.out e.2 ((mem_adj l v e.2).2 (by rw [← hev]; exact he)))]
      clear hmv
      go_wp2
      go_loop [13, 14] (fun v13 v14 => ∃ k : Nat, v14 = .int .i64 k ∧ v13 = .int .i64 (mor l S v k) ∧ k ≤ l.length) (fun _ x => l.length - (intOf x).toNat)
      case atStart => exact ⟨0, rfl, rfl, Nat.zero_le _⟩
      case round =>
        obtain ⟨k, rfl, rfl, hk⟩ := hrel
        have hmp := mor_pos l S v k
        have hml := mor_le l S v (1073741824 * 61) (by omega) (fun u => (hSb u).2) k
        by_cases hlk : k < l.length
        · have g2 : decide ((k : Int) < (l.length : Int)) = true := by simp [hlk]
          have W2 : IntKind.i64.wrap ((k : Int) + 1) = ((k + 1 : Nat) : Int) := by rw [IntWalk.i64_in _ (by omega)]; omega
          have q3 : (0 : Int) ≤ (k : Int) := by omega
          have q4 : (k : Int) < (l.length : Int) := by omega
          obtain ⟨a, rfl, d0, d1, l1, l2⟩ := (hG.on hB).at hlk
          have HNX := Lib.hid (mor_next hlk S v)
          have HFS := Lib.hid (hfS.out _ (List.getElem_mem hlk))
          obtain ⟨x, hxx⟩ : ∃ x, x = l[k].1 := ⟨_, rfl⟩
          obtain ⟨y, hyy⟩ : ∃ y, y = l[k].2 := ⟨_, rfl⟩
          rw [← hxx] at d0 l1 HNX HFS
          rw [← hyy] at d1 l2 HNX HFS
          clear hxx hyy
          have p3 : (0 : Int) ≤ (y : Int) := by omega
          have p4 : (y : Int) < (n : Int) := by omega
          obtain ⟨M, hM⟩ : ∃ M, M = mor l S v k := ⟨_, rfl⟩
          rw [← hM] at hmp hml HNX ⊢
          clear hM
          by_cases hx : x = v
          · have t1 : ((x : Int) == (v : Int)) = true := by simp; omega
            have cy := hR.out.read l2
            rw [HFS.out hx] at cy
            obtain ⟨sy, hsy⟩ : ∃ s, s = S y := ⟨_, rfl⟩
            rw [← hsy] at cy HNX
            clear hsy
            by_cases hc : M < sy
            · have HN2 : Hid (mor l S v (k + 1) = sy) := Lib.hid (by rw [HNX.out, if_pos ⟨hx, hc⟩])
              have t2 : decide (M < sy) = true := by simp [hc]
              clear hx hc
              go_wp2
              go_round
              case rel => exact ⟨k + 1, by go_num, by rw [HN2.out], hlk⟩
              case measure => simp [intOf]; omega
            · have HN2 : Hid (mor l S v (k + 1) = M) := Lib.hid (by rw [HNX.out, if_neg (fun h => hc h.2)])
              have t2 : decide (M < sy) = false := by simp; omega
              clear hx hc
              go_wp2
              go_round
              case rel => exact ⟨k + 1, by go_num, by rw [HN2.out], hlk⟩
              case measure => simp [intOf]; omega
          · have HN2 : Hid (mor l S v (k + 1) = M) := Lib.hid (by rw [HNX.out, if_neg (fun h => hx h.1)])
            have t1 : ((x : Int) == (v : Int)) = false := by simp; omega
            clear hx
            go_wp2
            go_round
            case rel => exact ⟨k + 1, by go_num, by rw [HN2.out], hlk⟩
            case measure => simp [intOf]; omega
        · have g2 : decide ((k : Int) < (l.length : Int)) = false := by simp; omega
          have e : k = l.length := by omega
          obtain ⟨a, rfl, cw⟩ := HWS.out v hvn
          have cw := cell_later hB cw
          obtain ⟨wv, hwv⟩ : ∃ x, x = W v := ⟨_, rfl⟩
          have hb := hwb v
          rw [← hwv] at cw hb
          have HS2 : Hid (S v = wv + mor l S v k) := Lib.hid (by rw [hwv, e]; exact HMV.out)
          obtain ⟨M, hM⟩ : ∃ M, M = mor l S v k := ⟨_, rfl⟩
          rw [← hM] at hmp hml HS2 ⊢
          clear hM hwv e
          have W3 : IntKind.i64.wrap (wv + M) = wv + M := IntWalk.i64_in _ (by omega)
          have q5 : (0 : Int) ≤ (v : Int) := by omega
          have q6 : (v : Int) < (n : Int) := by omega
          obtain ⟨z, hz⟩ : ∃ z, z = bsf S E (j + 1) v := ⟨_, rfl⟩
          have cv := hR.out.read hvn
          rw [← hz] at cv
          have fv := Has.open_ hR.out v
          have HR2 := Lib.hid ((hR.out.put v (wv + M)).cong (f' := bsf S E j) fun i _ => by rw [← HS2.out]; exact HBP.out i)
          clear hz
          go_wp2
          exact ⟨⟨j, rfl, by omega, HR2, hB1.setCell (Nat.le_refl _) _, hB.setCell hw1 _⟩, by simp [intOf]⟩
    · obtain rfl : j = 0 := by omega
      have g1 : decide ((0 : Int) ≤ ((0 : Nat) : Int) - 1) = false := by decide
      have g2 : decide ((1 : Int) ≤ ((0 : Nat) : Int)) = false := by decide
      have hR2 := Lib.hid (hR.out.cong (f' := S) fun i hi => by
        unfold bsf
        rw [List.drop_zero, if_pos (HEA.out.2 i hi)])
      clear hR
      by_cases hn0 : n = 0
      · have t2 : ((n : Int) == 0) = true := by simp; omega
        have HR0 : Hid (RS = 0 ∧ RL = []) := Lib.hid ⟨by rw [HRES.out.1, if_pos hn0], by rw [HRES.out.2, if_pos hn0]⟩
        clear hn0
        go_wp2
        exact bodyPost_ret (v := .tuple #[.int .i64 0, .slice none 0 0]) (by simp [results, Try.results22, go_sem]) rfl ⟨.slice none 0 0, by rw [HR0.out.1], by rw [HR0.out.2]; exact World.ownsRow_nil _ _ _ _, hB⟩
      · have t2 : ((n : Int) == 0) = false := by simp; omega
        have HR0 : Hid (RS = S (amx S n) ∧ RL = chn (lgN (adj l) W n) (n + 1) (amx S n)) := Lib.hid ⟨by rw [HRES.out.1, if_neg hn0], by rw [HRES.out.2, if_neg hn0]⟩
        have hn0 : 0 < n := by omega
        have hz : amx S 1 = 0 := by simp [amx]
        have H0 : Hid (0 = amx S 1) := Lib.hid hz.symm
        clear hz
        go_wp2
        go_loopw [15, 16] (fun v15 v16 wr => ∃ (k m : Nat), v16 = .int .i64 k ∧ v15 = .int .i64 m ∧ 1 ≤ k ∧ k ≤ n ∧ Hid (m = amx S k) ∧ Hid (Row wr w1.heap.size n S) ∧ Below w1.heap.size w1 wr ∧ Below w.heap.size w wr) (fun _ x _ => n - (intOf x).toNat)
        case atStart => exact ⟨1, 0, rfl, rfl, Nat.le_refl _, by omega, H0, hR2, hB1, hB⟩
        case round =>
          clear H0 hR2 hB1 hB g1 g2
          obtain ⟨k, m, rfl, rfl, hk1, hk, HM, hR2, hB1, hB⟩ := hrel
          have hmn : m < n := by rw [HM.out]; exact Nat.lt_of_lt_of_le (amx_lt S k (by omega)) hk
          have cm := hR2.out.read hmn
          have p1 : (0 : Int) ≤ (m : Int) := by omega
          have p2 : (m : Int) < (n : Int) := by omega
          by_cases hlt : k < n
          · have g1 : decide ((k : Int) < (n : Int)) = true := by simp [hlt]
            have W1 : IntKind.i64.wrap ((k : Int) + 1) = ((k + 1 : Nat) : Int) := by rw [IntWalk.i64_in _ (by omega)]; omega
            have q1 : (0 : Int) ≤ (k : Int) := by omega
            have q2 : (k : Int) < (n : Int) := by omega
            have ck := hR2.out.read hlt
            obtain ⟨sk, hsk⟩ : ∃ s, s = S k := ⟨_, rfl⟩
            obtain ⟨sm, hsm⟩ : ∃ s, s = S m := ⟨_, rfl⟩
            rw [← hsk] at ck
            rw [← hsm] at cm
            by_cases hc : sm < sk
            · have HM2 : Hid (k = amx S (k + 1)) := Lib.hid (by unfold amx; rw [← HM.out, if_pos (by rw [← hsk, ← hsm]; exact hc)])
              have t3 : decide (sm < sk) = true := by simp [hc]
              clear hsk hsm hc
              go_wp2_with fail
              go_quiet (fail)
              go_wp2
              exact ⟨⟨k + 1, k, by go_num, rfl, by omega, hlt, HM2, Lib.hid (Row.on hR2.out (below_drewN (Below.refl _ _) _)), below_drewN hB1 _, below_drewN hB _⟩, by simp [intOf]; omega⟩
            · have HM2 : Hid (m = amx S (k + 1)) := Lib.hid (by unfold amx; rw [← HM.out, if_neg (by rw [← hsk, ← hsm]; exact hc)])
              have t3 : decide (sm < sk) = false := by simp; omega
              clear hsk hsm hc
              go_wp2_with fail
              go_quiet (fail)
              go_wp2
              exact ⟨⟨k + 1, m, by go_num, rfl, by omega, hlt, HM2, Lib.hid (Row.on hR2.out (below_drewN (Below.refl _ _) _)), below_drewN hB1 _, below_drewN hB _⟩, by simp [intOf]; omega⟩
          · have g1 : decide ((k : Int) < (n : Int)) = false := by simp; omega
            have e : k = n := by omega
            have hm2 : m = amx S n := by rw [HM.out, e]
            clear e
            obtain ⟨hA, hr, hS⟩ := HL.out
            obtain ⟨a, rfl, cw⟩ := HWS.out m hmn
            have cw := cell_later hB cw
            have hb := hwb m
            have hsb := hSb m
            obtain ⟨wm, hwm⟩ : ∃ x, x = W m := ⟨_, rfl⟩
            obtain ⟨sm, hsm⟩ : ∃ s, s = S m := ⟨_, rfl⟩
            rw [← hwm] at cw hb
            rw [← hsm] at cm hsb
            have W3 : IntKind.i64.wrap (sm - wm) = sm - wm := IntWalk.i64_in _ (by omega)
            have HLL : Hid (RL = [m] ++ rem (lgN (adj l) W n) n (lgN (adj l) W n m)) := Lib.hid (by
              rw [HR0.out.2, ← hm2]
              exact rem_next (lgN (adj l) W n) n m)
            have HRS : Hid (RS = sm) := Lib.hid (by rw [HR0.out.1, ← hm2, hsm])
            have HLF : Hid (sm - wm = S m - W m) := Lib.hid (by rw [hsm, hwm])
            clear hwm hsm hm2
            have HBQ := Lib.hid (And.intro hB1 hB)
            have cw2 := cell_later (al1 wr (.cells #[.int .i64 (m : Int)] 3)) cw
            have O5 : Own wr.heap.size (wr.alloc (.cells #[.int .i64 (m : Int)] 3)) (.slice (some ⟨wr.heap.size, 0, none⟩) 1 1) [m] := by
              have h := World.ownsRow_lit (base := wr.heap.size) (e := 3) (size := 1) wr #[.int .i64 (m : Int)] 1 (Nat.le_refl _) (by unfold maxLen; omega) rfl
              simpa [Own, ints] using h
            have R5 := Lib.hid (Row.on hR2.out (al1 wr (.cells #[.int .i64 (m : Int)] 3)))
            have B51 := al hB1 (.cells #[.int .i64 (m : Int)] 3)
            have B50 := al hB (.cells #[.int .i64 (m : Int)] 3)
            obtain ⟨B, hBB⟩ : ∃ B, B = wr.heap.size := ⟨_, rfl⟩
            have S5 : B ≤ (wr.alloc (.cells #[.int .i64 (m : Int)] 3)).heap.size := by rw [hBB]; simp
            rw [← hBB] at O5
            have hgB : w1.heap.size < B := by rw [hBB]; exact hR2.out.size_
            have HBB := Lib.hid hBB
            have HK0 : Hid (∀ u, lgN (adj l) W n m = some u → rk u < n) := Lib.hid fun u hu => by
              have hm := (lgN_mem W hA hr hmn hu).1
              have := hr.1 m hmn u hm
              have := hr.2 m
              omega
            have hwB : w.heap.size ≤ B := by rw [hBB]; exact hB.size
            clear hR2 hB1 hB hBB cw
            go_wp2
            rw [← HBB.out]
            have sLit : Hid (sm - wm = S m - W m) := HLF
            generalize wr.alloc (.cells #[.int .i64 (m : Int)] 3) = wa at *
            have Z0 : Hid (n ≤ n ∧ ([m] : List Nat).length + n ≤ n + 1) := Lib.hid (by simp; omega)
            clear cw2 W3 cm
            go_loopg [15, 18, 19] n (fun kk v15 v18 v19 wr => ∃ (y : Nat) (xs : List Nat) (left : Int), v15 = .int .i64 y ∧ v19 = .int .i64 left ∧ y < n ∧ Hid (left = S y - W y) ∧ Hid (RL = xs ++ rem (lgN (adj l) W n) kk (lgN (adj l) W n y)) ∧ Hid (∀ u, lgN (adj l) W n y = some u → rk u < kk) ∧ Hid (kk ≤ n ∧ xs.length + kk ≤ n + 1) ∧ Own B wr v18 xs ∧ Hid (Row wr w1.heap.size n S) ∧ Below w1.heap.size w1 wr ∧ Below w.heap.size w wr ∧ B ≤ wr.heap.size)
            case atStart => exact ⟨m, [m], _, rfl, rfl, hmn, sLit, HLL, HK0, Z0, O5, R5, B51, B50, S5⟩
            case round =>
              clear sLit HLL HK0 Z0 O5 R5 B51 B50 S5 HLF hb hsb g1 hlt hk1 hk HM p1 p2
              obtain ⟨y, xs, left, rfl, rfl, hyn, HLF, HLL, HKK, HZ, hO, hR, hB1, hB, hBs⟩ := hrel
              cases hN : lgN (adj l) W n y with
              | none =>
                have hl0 : left = 0 := by
                  rw [HLF.out, hS, lgN_none W hA hr hyn hN]; omega
                subst hl0
                have HF : Hid (RL = xs) := Lib.hid (by have := HLL.out; rw [hN] at this; simpa [rem] using this)
                have HS5 := Lib.hid hS
                clear hN hS HLL HKK HLF
                go_wp2
                refine bodyPost_ret (v := .tuple #[.int .i64 sm, _]) (by simp [results, Try.results22, go_sem]; rfl) rfl ⟨_, by rw [HRS.out], by rw [HF.out]; exact Own.mono hO hwB, hB⟩
              | some u =>
                obtain ⟨hum, hsu, hup⟩ := lgN_mem W hA hr hyn hN
                have hun := hA y hyn u hum
                have hrk := HKK.out u hN
                rw [← hS] at hsu hup
                have hlu : left = S u := by rw [HLF.out, hsu]; omega
                have hlp : 0 < left := by rw [hlu]; exact hup
                have hlb : left ≤ 1073741824 * 61 := by rw [hlu]; exact (hSb u).2
                have HLE := Lib.hid (fun z (hz : z ∈ adj l y) (he : S z = S u) => lgN_least W hA hr hyn hN hz (by rw [← hS]; exact he))
                obtain ⟨g', hg'⟩ : ∃ g', gk = g' + 1 := ⟨gk - 1, by omega⟩
                have HLL2 : Hid (RL = (xs ++ [u]) ++ rem (lgN (adj l) W n) g' (lgN (adj l) W n u)) := Lib.hid (by
                  have := HLL.out
                  rw [hN, hg', rem_next] at this
                  rw [this]; simp)
                have HKK2 : Hid (∀ z, lgN (adj l) W n u = some z → rk z < g') := Lib.hid fun z hz => by
                  have hm := (lgN_mem W hA hr hun hz).1
                  have := hr.1 u hun z hm
                  omega
                have HZ2 : Hid (g' ≤ n ∧ (xs ++ [u]).length + g' ≤ n + 1) := Lib.hid (by have := HZ.out; rw [List.length_append]; simp; omega)
                have hxl : xs.length ≤ 61 := by have := HZ.out; omega
                have HGG : Hid (g' < gk) := Lib.hid (by omega)
                have HUM : Hid (u ∈ adj l y ∧ S u = left) := Lib.hid ⟨hum, hlu.symm⟩
                have HHH := Lib.hid (And.intro hA (And.intro hr hS))
                have hC := rnext_any p n y l cap wr (hG.on hB)
                have W0 : IntKind.i64.wrap ((n : Int) - 1) = (n : Int) - 1 := IntWalk.i64_in _ (by omega)
                have t5 : decide ((0 : Int) < left) = true := by simp [hlp]
                obtain ⟨a2, ea, cwu⟩ := HWS.out u hun
                cases ea
                have hbu := hwb u
                have hsub := hSb u
                have HLF2 : Hid (left - W u = S u - W u) := Lib.hid (by rw [hlu])
                obtain ⟨wu, hwu⟩ : ∃ x, x = W u := ⟨_, rfl⟩
                rw [← hwu] at cwu hbu HLF2
                have W4 : IntKind.i64.wrap (left - wu) = left - wu := IntWalk.i64_in _ (by omega)
                have hq1 : (0 : Int) ≤ (u : Int) := by omega
                have hq2 : (u : Int) < (n : Int) := by omega
                have HWU : Hid (wu = W u) := Lib.hid hwu
                clear hN hS hA hr hum hsu hup hrk hlu hg' HLL HKK HZ HLF hwu hsub
                go_wp2_with (go_at_call 52; (with_reducible refine hC.mono ?_); rintro e w6 ⟨g2, rfl, hg2, hR6, b6⟩)
                have HR6 := Lib.hid hR6
                have R6 := Lib.hid (Row.on hR.out b6)
                have HB6 := Lib.hid (And.intro (belows hB1 b6) (And.intro (belows hB b6) (Nat.le_trans hBs b6.size)))
                have O6 := Lib.hid (own_on hO b6)
                clear hR6 hR hB1 hB hBs hO hC b6
                go_loop [15, 21] (fun v15 v21 => ∃ (j z : Nat), v21 = .int .i64 ((j : Int) - 1) ∧ v15 = .int .i64 z ∧ j ≤ n ∧ z < n ∧ Hid ((z = y ∧ ∀ i, j ≤ i → i < n → ¬ (i ∈ adj l y ∧ S i = left)) ∨ ((z ∈ adj l y ∧ S z = left) ∧ j ≤ z ∧ ∀ i, j ≤ i → i < z → ¬ (i ∈ adj l y ∧ S i = left)))) (fun _ x => ((intOf x) + 1).toNat)
                case atStart => exact ⟨n, y, rfl, rfl, Nat.le_refl _, hyn, Lib.hid (.inl ⟨rfl, fun i h1 h2 => by omega⟩)⟩
                case round =>
                  clear W0
                  obtain ⟨j, z, rfl, rfl, hj, hzn, HP⟩ := hrel
                  by_cases hlt : 1 ≤ j
                  · obtain ⟨j, rfl⟩ : ∃ i, j = i + 1 := ⟨j - 1, by omega⟩
                    have e0 : (((j + 1 : Nat) : Int) - 1) = (j : Int) := by omega
                    rw [e0]
                    clear e0
                    have g1 : decide ((0 : Int) ≤ (j : Int)) = true := by simp
                    have W1 : IntKind.i64.wrap ((j : Int) - 1) = (j : Int) - 1 := IntWalk.i64_in _ (by omega)
                    have hjn : j < n := by omega
                    have q1 : (0 : Int) ≤ (j : Int) := by omega
                    have q2 : (j : Int) < (n : Int) := by omega
                    have cj := R6.out.read hjn
                    have cb := HR6.out.read hjn
                    obtain ⟨sj, hsj⟩ : ∃ s, s = S j := ⟨_, rfl⟩
                    rw [← hsj] at cj
                    have HSJ := Lib.hid hsj
                    clear hsj
                    have no : ¬ (j ∈ adj l y ∧ S j = left) → Hid ((z = y ∧ ∀ i, j ≤ i → i < n → ¬ (i ∈ adj l y ∧ S i = left)) ∨ ((z ∈ adj l y ∧ S z = left) ∧ j ≤ z ∧ ∀ i, j ≤ i → i < z → ¬ (i ∈ adj l y ∧ S i = left))) := fun hnj => Lib.hid (by
                      rcases HP.out with ⟨h1, h2⟩ | ⟨h1, h2, h3⟩
                      · exact .inl ⟨h1, fun i hi1 hi2 => by
                          rcases Nat.lt_or_ge j i with k | k
                          · exact h2 i (by omega) hi2
                          · have : i = j := by omega
                            subst this; exact hnj⟩
                      · exact .inr ⟨h1, by omega, fun i hi1 hi2 => by
                          rcases Nat.lt_or_ge j i with k | k
                          · exact h3 i (by omega) hi2
                          · have : i = j := by omega
                            subst this; exact hnj⟩)
                    have HNO := Lib.hid no
                    clear no
                    cases hc : (adj l y).contains j
                    · rw [hc] at cb
                      have HP2 := HNO.out (fun h => by
                        have := List.contains_iff_mem.2 h.1
                        rw [hc] at this; cases this)
                      clear hc
                      go_wp2
                      go_round
                      case rel => exact ⟨j, z, rfl, rfl, by omega, hzn, HP2⟩
                      case measure => simp [intOf]
                    · rw [hc] at cb
                      by_cases he : sj = left
                      · have t6 : (sj == left) = true := by simp [he]
                        have HP2 : Hid ((j = y ∧ ∀ i, j ≤ i → i < n → ¬ (i ∈ adj l y ∧ S i = left)) ∨ ((j ∈ adj l y ∧ S j = left) ∧ j ≤ j ∧ ∀ i, j ≤ i → i < j → ¬ (i ∈ adj l y ∧ S i = left))) := Lib.hid (.inr ⟨⟨List.contains_iff_mem.1 hc, by rw [← HSJ.out]; exact he⟩, Nat.le_refl _, fun i h1 h2 => by omega⟩)
                        clear hc he
                        go_wp2
                        go_round
                        case rel => exact ⟨j, j, rfl, rfl, by omega, hjn, HP2⟩
                        case measure => simp [intOf]
                      · have t6 : (sj == left) = false := by simpa using he
                        have HP2 := HNO.out (fun h => he (by rw [HSJ.out]; exact h.2))
                        clear hc he
                        go_wp2
                        go_round
                        case rel => exact ⟨j, z, rfl, rfl, by omega, hzn, HP2⟩
                        case measure => simp [intOf]
                  · obtain rfl : j = 0 := by omega
                    have g1 : decide ((0 : Int) ≤ ((0 : Nat) : Int) - 1) = false := by decide
                    have g2 : decide ((1 : Int) ≤ ((0 : Nat) : Int)) = false := by decide
                    have hzu : z = u := by
                      rcases HP.out with ⟨-, h2⟩ | ⟨h1, -, h3⟩
                      · exact absurd HUM.out (h2 u (Nat.zero_le _) hun)
                      · have k1 := HLE.out z h1.1 (by rw [h1.2, HUM.out.2])
                        have k2 : z ≤ u := by
                          rcases Nat.lt_or_ge u z with k | k
                          · exact absurd HUM.out (h3 u (Nat.zero_le _) k)
                          · exact k
                        omega
                    subst hzu
                    obtain ⟨hB61, hB60, hS6⟩ := HB6.out
                    have hO6 := O6.out
                    clear HP hlt hj
                    go_wp2_with (at_builtin; refine wpList_append_own_at _ rfl _ _ 23 rfl B 3 i0 _ 1 8 Try.underlying23 hi hz0 hz1 hz2 rfl (by decide) _ xs.length (ints xs) rfl (own_on hO6 (al1 _ _)) ⟨_, 0, none⟩ 1 1 [.int .i64 (z : Int)] rfl rfl (cell_one_new _ _ _) (by simp [Value.oneCell']) (by unfold maxLen; omega) (by omega) (Nat.le_trans hS6 (al1 _ _).size) ?_)
                    intro v' w7 o1 o2 o3 o4
                    have ob := al1 w6 (.cells #[.int .i64 (z : Int)] 3)
                    have far : ∀ q, u18.ownBlock = some q → B ≤ q := fun q e => (World.ownsRow.lt hO6 _ e).1
                    have R7 := Lib.hid (Has.grown_ (Row.on R6.out ob) o2 (fun e => by have := far _ e.symm; omega))
                    have O7 : Own B w7 v' (xs ++ [z]) := by
                      unfold Own
                      rw [ints_app, List.length_append]
                      exact o1
                    have B71 : Below w1.heap.size w1 w7 := (hB61.trans (ob.mono hB61.size)).grown o2 (by have := ob.size; have := hB61.size; omega) (fun j hj => by have := far j hj; omega)
                    have B70 : Below w.heap.size w w7 := (hB60.trans (ob.mono hB60.size)).grown o2 (by have := ob.size; have := hB60.size; omega) (fun j hj => by have := far j hj; omega)
                    have S7 : B ≤ w7.heap.size := Nat.le_trans hS6 (Nat.le_trans ob.size o2.size)
                    have cw7 := cell_later B70 cwu
                    have HLF3 : Hid (left - wu = S z - W z) := Lib.hid (by have := HLF2.out; have := HWU.out; omega)
                    clear o1 o2 o3 o4 ob far
                    go_wp2
                    go_roundg g'
                    case measure => exact HGG.out
                    case rel => exact ⟨z, xs ++ [z], left - wu, rfl, rfl, hun, HLF3, HLL2, HKK2, HZ2, O7, R7, B71, B70, S7⟩
end Go.Proofs.Yteofbbakegcohaa
