/- The reference's Check. -/
import Derived.Test.YteofbbakegcohaaRn
namespace Go.Proofs.Yteofbbakegcohaa
open Go.ChangeShapes Go.WideShapes Go.ChangeAt Go.RowKit
set_option linter.unusedVariables false
set_option linter.unusedSimpArgs false


theorem nodup_le : ∀ (n : Nat) (xs : List Nat), xs.Nodup → (∀ x ∈ xs, x < n) → xs.length ≤ n
  | 0, xs, _, h => by
    cases xs with
    | nil => simp
    | cons a t => exact absurd (h a (by simp)) (by omega)
  | n + 1, xs, hn, h => by
    have k := nodup_le n (xs.erase n) (hn.erase n) fun x hx => by
      have := (hn.mem_erase_iff).1 hx
      have := h x this.2
      omega
    rw [List.length_erase] at k
    split at k <;> omega
theorem nodup_all {n : Nat} {xs : List Nat} (hn : xs.Nodup) (h : ∀ x ∈ xs, x < n) (hl : xs.length = n) {y : Nat} (hy : y < n) : y ∈ xs := by
  by_cases hm : y ∈ xs
  · exact hm
  · have := nodup_le n (y :: xs) (List.nodup_cons.2 ⟨hm, hn⟩) (fun x hx => by
      rcases List.mem_cons.1 hx with rfl | hx
      · exact hy
      · exact h x hx)
    simp at this; omega
theorem toZ_inj {x y : Nat} : ((x : Nat) : Int) = (y : Int) ↔ x = y := by omega
theorem nodup_toZ (xs : List Nat) : (toZ xs).Nodup ↔ xs.Nodup := by
  unfold toZ
  induction xs with
  | nil => simp
  | cons a t ih =>
    rw [List.map_cons, List.nodup_cons, List.nodup_cons, ih]
    refine and_congr (not_congr ?_) Iff.rfl
    rw [List.mem_map]
    constructor
    · rintro ⟨b, hb, e⟩
      have : b = a := by omega
      rw [← this]; exact hb
    · intro h; exact ⟨a, h, rfl⟩
/-- A list without an error has every node just once. -/
theorem code_zero {n : Nat} {os : List Int} (h : codeN n os = 0) : os.length = n ∧ os.Nodup ∧ (∀ x ∈ os, 0 ≤ x ∧ x < n) ∧ ∀ y : Nat, y < n → (y : Int) ∈ os := by
  unfold codeN at h
  by_cases h1 : (os.length : Int) ≠ n
  · rw [if_pos h1] at h; omega
  rw [if_neg h1] at h
  by_cases h2 : os.any (outN n) = true
  · rw [if_pos h2] at h; omega
  rw [if_neg h2] at h
  by_cases h3 : os.Nodup
  · have hr : ∀ x ∈ os, 0 ≤ x ∧ x < n := fun x hx => by
      have h2 : os.any (outN n) = false := by simpa using h2
      have := List.any_eq_false.1 h2 x hx
      simp [outN, wi] at this
      exact this
    refine ⟨by omega, h3, hr, fun y hy => ?_⟩
    have e : os = toZ (os.map Int.toNat) := by
      unfold toZ
      rw [List.map_map]
      conv => lhs; rw [← List.map_id os]
      refine List.map_congr_left fun x hx => ?_
      have := hr x hx
      simp; omega
    have hn : (os.map Int.toNat).Nodup := by
      rw [← nodup_toZ, ← e]; exact h3
    have := nodup_all hn (fun x hx => by
      obtain ⟨z, hz, rfl⟩ := List.mem_map.1 hx
      have := hr z hz
      omega) (by rw [List.length_map]; omega) hy
    obtain ⟨z, hz, rfl⟩ := List.mem_map.1 this
    have := hr z hz
    rw [Int.toNat_of_nonneg this.1]; exact hz
  · rw [if_neg h3] at h; omega
/-- Places so far, 0 where there is none. -/
def zp (os : List Int) (x : Nat) : Int := if 0 ≤ ixo os (x : Int) then ixo os (x : Int) else 0
set_option maxRecDepth 100000 in
set_option maxHeartbeats 2000000 in
theorem rcheck_any (p : Option Addr) (n : Nat) (l : List (Nat × Nat)) (cap : Nat) (w : World) (o : Value) (os : List Int) (hG : Gr w p n l) (hO : Rdz w o os) (h0 : codeN n os = 0) :
    Calls Try.prog 19 #[.int .i64 n, .slice p l.length cap, o] w fun e w' => e = .returned (.bool (chB (cast2 l) os)) ∧ Below w.heap.size w w' := by
  have hn := hG.2.2.1
  have hm := hG.2.1
  obtain ⟨hl, hnd, hr, hall⟩ := code_zero h0
  obtain ⟨q, c, rfl, k1⟩ := hO
  have K1 := Lib.hid k1
  have HL := Lib.hid hl
  have HR := Lib.hid hr
  have HA := Lib.hid hall
  have HD := Lib.hid hnd
  clear k1 h0 hr hall hnd
  obtain ⟨i0, hi, hz0, hz1, hz2⟩ := info_parts info3
  have hle : os.length ≤ n := by omega
  clear hl
  go_enter Try.func19, Try.ntmps19
  go_wp2_with (at_make; refine wpList_make_full _ rfl _ _ 23 rfl w.heap.size 3 i0 _ 1 Try.underlying23 hi hz0 hz1 _ _ _ _ n rfl rfl rfl rfl (by rw [hz2]; omega) (by unfold maxLen; omega) (Nat.le_refl _) ?_)
  intro w1 hown hgrow
  have hR := Lib.hid ((row_zero hown).cong (f' := zp (os.take 0)) fun i _ => by unfold zp; rw [ixo_not (by simp)]; rfl)
  have hB := below_grown (Below.refl _ w) hgrow (Nat.le_refl _)
  clear hown hgrow
  go_wp2
  go_loopw [8] (fun v wr => ∃ k : Nat, v = .int .i64 k ∧ k ≤ n ∧ Hid (Row wr w.heap.size n (zp (os.take k))) ∧ Below w.heap.size w wr) (fun v _ => n - (intOf v).toNat)
  case atStart => exact ⟨0, rfl, Nat.zero_le _, hR, hB⟩
  case round =>
    clear hR hB
    obtain ⟨k, rfl, hk, hR, hB⟩ := hrel
    by_cases hlt : k < n
    · have g1 : decide ((k : Int) < (n : Int)) = true := by simp [hlt]
      have W1 : IntKind.i64.wrap ((k : Int) + 1) = ((k + 1 : Nat) : Int) := by rw [IntWalk.i64_in _ (by omega)]; omega
      have hko : k < os.length := by rw [HL.out]; exact hlt
      have q1 : (0 : Int) ≤ (k : Int) := by omega
      have q2 : (k : Int) < (os.length : Int) := by omega
      obtain ⟨a, rfl, cj⟩ := K1.out k hko
      have cj := cell_later hB cj
      obtain ⟨hy0, hy1⟩ := HR.out _ (List.getElem_mem hko)
      obtain ⟨y, hyy⟩ : ∃ y : Nat, (y : Int) = os[k] := ⟨os[k].toNat, by omega⟩
      have HI := Lib.hid (fun h x => ixo_take (os := os) hko h x)
      have HNM : Hid (os[k] ∉ os.take k) := Lib.hid fun h => not_nodup hko h HD.out
      rw [← hyy] at cj hy0 hy1 HI HNM
      clear hyy
      have hyn : y < n := by omega
      obtain ⟨zy, hzy⟩ : ∃ z, z = zp (os.take k) y := ⟨_, rfl⟩
      have cy := hR.out.read hyn
      rw [← hzy] at cy
      clear hzy
      have fy := Has.open_ hR.out y
      have HR3 : Hid (Row (wr.setCell ⟨w.heap.size, y, none⟩ (.int .i64 (k : Int))) w.heap.size n (zp (os.take (k + 1)))) := Lib.hid ((hR.out.put y (k : Int)).cong fun i _ => by
        unfold upd zp
        rw [HI.out HNM.out]
        by_cases e : i = y
        · subst e; simp
        · have e2 : ¬ (i : Int) = (y : Int) := by omega
          simp [e, e2])
      go_wp2
      exact ⟨⟨k + 1, rfl, hlt, HR3, hB.setCell (Nat.le_refl _) _⟩, by simp [intOf]; omega⟩
    · have g1 : decide ((k : Int) < (n : Int)) = false := by simp; omega
      have hR2 : Hid (Row wr w.heap.size n (fun x => ixo os (x : Int))) := Lib.hid (hR.out.cong fun i hin => by
        rw [List.take_of_length_le (by omega)]
        unfold zp
        rw [if_pos (ixo_mem (HA.out i hin))])
      clear hR
      go_wp2
      go_loopw [9] (fun v wr => ∃ k : Nat, v = .int .i64 k ∧ k ≤ l.length ∧ Hid (∀ x ∈ l.take k, ixo os (x.1 : Int) < ixo os (x.2 : Int)) ∧ Hid (Row wr w.heap.size n (fun x => ixo os (x : Int))) ∧ Below w.heap.size w wr) (fun v _ => l.length - (intOf v).toNat)
      case atStart => exact ⟨0, rfl, Nat.zero_le _, Lib.hid (by simp), hR2, hB⟩
      case round =>
        clear hR2 hB g1 hlt hk
        obtain ⟨k, rfl, hk, hG1, hR, hB⟩ := hrel
        by_cases hlt : k < l.length
        · have g1 : decide ((k : Int) < (l.length : Int)) = true := by simp [hlt]
          have W1 : IntKind.i64.wrap ((k : Int) + 1) = ((k + 1 : Nat) : Int) := by rw [IntWalk.i64_in _ (by omega)]; omega
          have q1 : (0 : Int) ≤ (k : Int) := by omega
          have q2 : (k : Int) < (l.length : Int) := by omega
          obtain ⟨a, rfl, d0, d1, l1, l2⟩ := (hG.on hB).at hlt
          have HM : Hid (¬ ixo os (l[k].1 : Int) < ixo os (l[k].2 : Int) → chB (cast2 l) os = false) := Lib.hid fun h => by
            unfold chB cast2
            rw [List.all_map]
            exact List.all_eq_false.2 ⟨_, List.getElem_mem hlt, by simpa using h⟩
          have HT : Hid (ixo os (l[k].1 : Int) < ixo os (l[k].2 : Int) → ∀ x ∈ l.take (k + 1), ixo os (x.1 : Int) < ixo os (x.2 : Int)) := Lib.hid fun h x hx => by
            rw [List.take_succ_eq_append_getElem hlt, List.mem_append] at hx
            rcases hx with hx | hx
            · exact hG1.out x hx
            · rw [List.mem_singleton.1 hx]; exact h
          obtain ⟨x, hxx⟩ : ∃ x, x = l[k].1 := ⟨_, rfl⟩
          obtain ⟨y, hyy⟩ : ∃ y, y = l[k].2 := ⟨_, rfl⟩
          rw [← hxx] at d0 l1 HM HT
          rw [← hyy] at d1 l2 HM HT
          clear hxx hyy
          have cx := hR.out.read l1
          have cy := hR.out.read l2
          obtain ⟨zx, hzx⟩ : ∃ z, z = ixo os (x : Int) := ⟨_, rfl⟩
          obtain ⟨zy, hzy⟩ : ∃ z, z = ixo os (y : Int) := ⟨_, rfl⟩
          rw [← hzx] at cx HM HT
          rw [← hzy] at cy HM HT
          clear hzx hzy
          have p1 : (0 : Int) ≤ (x : Int) := by omega
          have p2 : (x : Int) < (n : Int) := by omega
          have p3 : (0 : Int) ≤ (y : Int) := by omega
          have p4 : (y : Int) < (n : Int) := by omega
          by_cases hc : zx < zy
          · have HG2 := Lib.hid (HT.out hc)
            have t1 : decide (zy ≤ zx) = false := by simp; omega
            go_wp2_with fail
            go_quiet (fail)
            go_wp2
            exact ⟨⟨k + 1, rfl, hlt, HG2, hR, below_drewN hB _⟩, by simp [intOf]; omega⟩
          · have HE := Lib.hid (HM.out hc)
            have t1 : decide (zy ≤ zx) = true := by simp; omega
            go_wp2_with fail
            go_quiet (fail)
            go_wp2
            go_ret
            exact ⟨by rw [HE.out]; rfl, below_drewN hB _⟩
        · have g1 : decide ((k : Int) < (l.length : Int)) = false := by simp; omega
          have HE : Hid (chB (cast2 l) os = true) := Lib.hid (by
            unfold chB cast2
            rw [List.all_map]
            refine List.all_eq_true.2 fun x hx => ?_
            have := hG1.out x (by rw [List.take_of_length_le (by omega)]; exact hx)
            simpa using this)
          go_wp2
          go_ret
          exact ⟨by rw [HE.out]; rfl, hB⟩
end Go.Proofs.Yteofbbakegcohaa
