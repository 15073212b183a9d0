/- The reference's Part. -/
import Derived.Test.YtplepbaafamjfaaV17
import Derived.Test.YtplepbaafamjfaaRn
import Derived.Test.YtplepbaafamjfaaRm
namespace Go.Proofs.Ytplepbaafamjfaa
open Go.ChangeShapes Go.WideShapes Go.ChangeAt Go.RowKit
set_option linter.unusedVariables false
set_option linter.unusedSimpArgs false

theorem sM_n {n num den : Int} {m : Bool} (h : den < 0) (e : sM n num den = m) : (decide (n < 0) == decide (num < 0)) = m := by
  rw [← e]; unfold sM; rw [show decide (den < 0) = true by simp [h]]
  cases decide (n < 0) <;> cases decide (num < 0) <;> rfl
theorem sM_p {n num den : Int} {m : Bool} (h : ¬ den < 0) (e : sM n num den = m) : (!decide (n < 0) == decide (num < 0)) = m := by
  rw [← e]; unfold sM; rw [show decide (den < 0) = false by simp; omega]
  cases decide (n < 0) <;> cases decide (num < 0) <;> rfl
/-- How a magnitude lies to the limit, by its words. -/
theorem w_cases {Q : Int} (h : UU Q) : (0 < uH Q ∧ 1152921504606846976 < Q) ∨ (uH Q ≤ 0 ∧ 1152921504606846976 < uL Q ∧ 1152921504606846976 < Q) ∨ (uH Q ≤ 0 ∧ uL Q ≤ 1152921504606846976 ∧ uL Q = Q ∧ Q ≤ 1152921504606846976) := by
  have b := uH_b h
  have c := uL_b Q
  have e := uHL Q
  omega
theorem part_big {n num den : Int} {up : Bool} (h : 1152921504606846976 < ptQ n num den up) : partR n num den up = (0, false) := by unfold partR; rw [if_pos h]
theorem part_fit {n num den : Int} {up : Bool} (h : ¬ 1152921504606846976 < ptQ n num den up) : partR n num den up = (if sM n num den then -(ptQ n num den up) else ptQ n num den up, true) := by unfold partR; rw [if_neg h]

set_option maxHeartbeats 2000000 in
theorem part_any (n num den : Int) (up : Bool) (w : World) (n1 : -1152921504606846976 ≤ n) (n2 : n ≤ 1152921504606846976) (m1 : -1152921504606846976 ≤ num) (m2 : num ≤ 1152921504606846976) (d1 : -1152921504606846976 ≤ den) (d2 : den ≤ 1152921504606846976) (d0 : den ≠ 0) :
    Calls Try.prog 36 #[.int .i64 n, .int .i64 num, .int .i64 den, .bool up] w fun e w' => e = .returned (.tuple #[.int .i64 (partR n num den up).1, .bool (partR n num den up).2]) ∧ Below w.heap.size w w' := by
  have s1 := fun W => refSize_p n _ W n1 n2 rfl
  have s2 := fun W => refSize_p num _ W m1 m2 rfl
  have s3 := fun W => refSize_p den _ W d1 d2 rfl
  obtain ⟨q0, q1, r0⟩ := ptQ_b (n := n) (num := num) (den := den) (up := up) n1 n2 m1 m2 d0
  have u0 : 0 < ab den ∧ ab den ≤ 1152921504606846976 := by unfold ab; omega
  have hm := fun W => mulU_any (ab n) (ab num) W (by unfold ab; omega) (by unfold ab; omega)
  have hA := pU_b (x := ab n) (y := ab num) (by unfold ab; omega) (by unfold ab; omega)
  have hd := fun W => divU_any (pU (ab n) (ab num)) (ab den) W hA (by omega)
  have eQ : divq (pU (ab n) (ab num)) (ab den) = sQ n num den := rfl
  have eR : divr (pU (ab n) (ab num)) (ab den) = sR n num den := rfl
  have rb : sR n num den < ab den := Int.emod_lt_of_pos _ u0.1
  have us := u_small (x := ab den) (by omega)
  have rs := u_small (x := sR n num den) (by omega)
  rw [eQ, eR] at hd
  simp only [us.1, us.2, rs.1, rs.2] at hd
  have hUQ : UU (sQ n num den) := by unfold UU; omega
  have hUS : UU (sU (sQ n num den) 1) := by unfold UU sU; omega
  have one := u_small (x := 1) (by omega)
  have hp := fun W => plusU_any (sQ n num den) 1 W hUQ (by unfold UU; omega) hUS
  simp only [one.1, one.2] at hp
  have bq := uH_b hUQ
  have cq := uL_b (sQ n num den)
  have bs := uH_b hUS
  have cs := uL_b (sU (sQ n num den) 1)
  by_cases hd0 : den < 0
  · cases hm0 : sM n num den
    · by_cases hr : sR n num den = 0
      · have ez : ptQ n num den up = sQ n num den := by unfold ptQ; rw [if_neg (by simp [hr])]
        rcases w_cases hUQ with ⟨c, c'⟩ | ⟨c, c', c''⟩ | ⟨c, c', e, f⟩
        · rw [part_big (by omega)]; exact part_nfrh n num den _ _ _ _ _ _ _ _ up w hd0 (sM_n hd0 hm0) hr c bq.1 cq.1 cq.2 s1 s2 s3 hm hd
        · rw [part_big (by omega)]; exact part_nfrl n num den _ _ _ _ _ _ _ _ up w hd0 (sM_n hd0 hm0) hr c c' bq.1 cq.1 cq.2 s1 s2 s3 hm hd
        · rw [part_fit (by omega), hm0, ez, ← e]; exact part_nfrf n num den _ _ _ _ _ _ _ _ up w hd0 (sM_n hd0 hm0) hr c c' bq.1 cq.1 cq.2 s1 s2 s3 hm hd
      · cases up
        · have ez : ptQ n num den false = sQ n num den := by unfold ptQ; rw [if_neg (by simp [hm0])]
          rcases w_cases hUQ with ⟨c, c'⟩ | ⟨c, c', c''⟩ | ⟨c, c', e, f⟩
          · rw [part_big (by omega)]; exact part_nfeh n num den _ _ _ _ _ _ _ _ w hd0 (sM_n hd0 hm0) hr c bq.1 cq.1 cq.2 s1 s2 s3 hm hd
          · rw [part_big (by omega)]; exact part_nfel n num den _ _ _ _ _ _ _ _ w hd0 (sM_n hd0 hm0) hr c c' bq.1 cq.1 cq.2 s1 s2 s3 hm hd
          · rw [part_fit (by omega), hm0, ez, ← e]; exact part_nfef n num den _ _ _ _ _ _ _ _ w hd0 (sM_n hd0 hm0) hr c c' bq.1 cq.1 cq.2 s1 s2 s3 hm hd
        · have ez : ptQ n num den true = sU (sQ n num den) 1 := by unfold ptQ sU; rw [if_pos ⟨hr, by simp [hm0]⟩]
          rcases w_cases hUS with ⟨c, c'⟩ | ⟨c, c', c''⟩ | ⟨c, c', e, f⟩
          · rw [part_big (by omega)]; exact part_nfsh n num den _ _ _ _ _ _ _ _ _ _ w hd0 (sM_n hd0 hm0) hr c bs.1 cs.1 cs.2 s1 s2 s3 hm hd hp
          · rw [part_big (by omega)]; exact part_nfsl n num den _ _ _ _ _ _ _ _ _ _ w hd0 (sM_n hd0 hm0) hr c c' bs.1 cs.1 cs.2 s1 s2 s3 hm hd hp
          · rw [part_fit (by omega), hm0, ez, ← e]; exact part_nfsf n num den _ _ _ _ _ _ _ _ _ _ w hd0 (sM_n hd0 hm0) hr c c' bs.1 cs.1 cs.2 s1 s2 s3 hm hd hp
    · by_cases hr : sR n num den = 0
      · have ez : ptQ n num den up = sQ n num den := by unfold ptQ; rw [if_neg (by simp [hr])]
        rcases w_cases hUQ with ⟨c, c'⟩ | ⟨c, c', c''⟩ | ⟨c, c', e, f⟩
        · rw [part_big (by omega)]; exact part_ntrh n num den _ _ _ _ _ _ _ _ up w hd0 (sM_n hd0 hm0) hr c bq.1 cq.1 cq.2 s1 s2 s3 hm hd
        · rw [part_big (by omega)]; exact part_ntrl n num den _ _ _ _ _ _ _ _ up w hd0 (sM_n hd0 hm0) hr c c' bq.1 cq.1 cq.2 s1 s2 s3 hm hd
        · rw [part_fit (by omega), hm0, ez, ← e]; exact part_ntrf n num den _ _ _ _ _ _ _ _ up w hd0 (sM_n hd0 hm0) hr c c' bq.1 cq.1 cq.2 s1 s2 s3 hm hd
      · cases up
        · have ez : ptQ n num den false = sU (sQ n num den) 1 := by unfold ptQ sU; rw [if_pos ⟨hr, by simp [hm0]⟩]
          rcases w_cases hUS with ⟨c, c'⟩ | ⟨c, c', c''⟩ | ⟨c, c', e, f⟩
          · rw [part_big (by omega)]; exact part_ntsh n num den _ _ _ _ _ _ _ _ _ _ w hd0 (sM_n hd0 hm0) hr c bs.1 cs.1 cs.2 s1 s2 s3 hm hd hp
          · rw [part_big (by omega)]; exact part_ntsl n num den _ _ _ _ _ _ _ _ _ _ w hd0 (sM_n hd0 hm0) hr c c' bs.1 cs.1 cs.2 s1 s2 s3 hm hd hp
          · rw [part_fit (by omega), hm0, ez, ← e]; exact part_ntsf n num den _ _ _ _ _ _ _ _ _ _ w hd0 (sM_n hd0 hm0) hr c c' bs.1 cs.1 cs.2 s1 s2 s3 hm hd hp
        · have ez : ptQ n num den true = sQ n num den := by unfold ptQ; rw [if_neg (by simp [hm0])]
          rcases w_cases hUQ with ⟨c, c'⟩ | ⟨c, c', c''⟩ | ⟨c, c', e, f⟩
          · rw [part_big (by omega)]; exact part_nteh n num den _ _ _ _ _ _ _ _ w hd0 (sM_n hd0 hm0) hr c bq.1 cq.1 cq.2 s1 s2 s3 hm hd
          · rw [part_big (by omega)]; exact part_ntel n num den _ _ _ _ _ _ _ _ w hd0 (sM_n hd0 hm0) hr c c' bq.1 cq.1 cq.2 s1 s2 s3 hm hd
          · rw [part_fit (by omega), hm0, ez, ← e]; exact part_ntef n num den _ _ _ _ _ _ _ _ w hd0 (sM_n hd0 hm0) hr c c' bq.1 cq.1 cq.2 s1 s2 s3 hm hd
  · cases hm0 : sM n num den
    · by_cases hr : sR n num den = 0
      · have ez : ptQ n num den up = sQ n num den := by unfold ptQ; rw [if_neg (by simp [hr])]
        rcases w_cases hUQ with ⟨c, c'⟩ | ⟨c, c', c''⟩ | ⟨c, c', e, f⟩
        · rw [part_big (by omega)]; exact part_pfrh n num den _ _ _ _ _ _ _ _ up w hd0 (sM_p hd0 hm0) hr c bq.1 cq.1 cq.2 s1 s2 s3 hm hd
        · rw [part_big (by omega)]; exact part_pfrl n num den _ _ _ _ _ _ _ _ up w hd0 (sM_p hd0 hm0) hr c c' bq.1 cq.1 cq.2 s1 s2 s3 hm hd
        · rw [part_fit (by omega), hm0, ez, ← e]; exact part_pfrf n num den _ _ _ _ _ _ _ _ up w hd0 (sM_p hd0 hm0) hr c c' bq.1 cq.1 cq.2 s1 s2 s3 hm hd
      · cases up
        · have ez : ptQ n num den false = sQ n num den := by unfold ptQ; rw [if_neg (by simp [hm0])]
          rcases w_cases hUQ with ⟨c, c'⟩ | ⟨c, c', c''⟩ | ⟨c, c', e, f⟩
          · rw [part_big (by omega)]; exact part_pfeh n num den _ _ _ _ _ _ _ _ w hd0 (sM_p hd0 hm0) hr c bq.1 cq.1 cq.2 s1 s2 s3 hm hd
          · rw [part_big (by omega)]; exact part_pfel n num den _ _ _ _ _ _ _ _ w hd0 (sM_p hd0 hm0) hr c c' bq.1 cq.1 cq.2 s1 s2 s3 hm hd
          · rw [part_fit (by omega), hm0, ez, ← e]; exact part_pfef n num den _ _ _ _ _ _ _ _ w hd0 (sM_p hd0 hm0) hr c c' bq.1 cq.1 cq.2 s1 s2 s3 hm hd
        · have ez : ptQ n num den true = sU (sQ n num den) 1 := by unfold ptQ sU; rw [if_pos ⟨hr, by simp [hm0]⟩]
          rcases w_cases hUS with ⟨c, c'⟩ | ⟨c, c', c''⟩ | ⟨c, c', e, f⟩
          · rw [part_big (by omega)]; exact part_pfsh n num den _ _ _ _ _ _ _ _ _ _ w hd0 (sM_p hd0 hm0) hr c bs.1 cs.1 cs.2 s1 s2 s3 hm hd hp
          · rw [part_big (by omega)]; exact part_pfsl n num den _ _ _ _ _ _ _ _ _ _ w hd0 (sM_p hd0 hm0) hr c c' bs.1 cs.1 cs.2 s1 s2 s3 hm hd hp
          · rw [part_fit (by omega), hm0, ez, ← e]; exact part_pfsf n num den _ _ _ _ _ _ _ _ _ _ w hd0 (sM_p hd0 hm0) hr c c' bs.1 cs.1 cs.2 s1 s2 s3 hm hd hp
    · by_cases hr : sR n num den = 0
      · have ez : ptQ n num den up = sQ n num den := by unfold ptQ; rw [if_neg (by simp [hr])]
        rcases w_cases hUQ with ⟨c, c'⟩ | ⟨c, c', c''⟩ | ⟨c, c', e, f⟩
        · rw [part_big (by omega)]; exact part_ptrh n num den _ _ _ _ _ _ _ _ up w hd0 (sM_p hd0 hm0) hr c bq.1 cq.1 cq.2 s1 s2 s3 hm hd
        · rw [part_big (by omega)]; exact part_ptrl n num den _ _ _ _ _ _ _ _ up w hd0 (sM_p hd0 hm0) hr c c' bq.1 cq.1 cq.2 s1 s2 s3 hm hd
        · rw [part_fit (by omega), hm0, ez, ← e]; exact part_ptrf n num den _ _ _ _ _ _ _ _ up w hd0 (sM_p hd0 hm0) hr c c' bq.1 cq.1 cq.2 s1 s2 s3 hm hd
      · cases up
        · have ez : ptQ n num den false = sU (sQ n num den) 1 := by unfold ptQ sU; rw [if_pos ⟨hr, by simp [hm0]⟩]
          rcases w_cases hUS with ⟨c, c'⟩ | ⟨c, c', c''⟩ | ⟨c, c', e, f⟩
          · rw [part_big (by omega)]; exact part_ptsh n num den _ _ _ _ _ _ _ _ _ _ w hd0 (sM_p hd0 hm0) hr c bs.1 cs.1 cs.2 s1 s2 s3 hm hd hp
          · rw [part_big (by omega)]; exact part_ptsl n num den _ _ _ _ _ _ _ _ _ _ w hd0 (sM_p hd0 hm0) hr c c' bs.1 cs.1 cs.2 s1 s2 s3 hm hd hp
          · rw [part_fit (by omega), hm0, ez, ← e]; exact part_ptsf n num den _ _ _ _ _ _ _ _ _ _ w hd0 (sM_p hd0 hm0) hr c c' bs.1 cs.1 cs.2 s1 s2 s3 hm hd hp
        · have ez : ptQ n num den true = sQ n num den := by unfold ptQ; rw [if_neg (by simp [hm0])]
          rcases w_cases hUQ with ⟨c, c'⟩ | ⟨c, c', c''⟩ | ⟨c, c', e, f⟩
          · rw [part_big (by omega)]; exact part_pteh n num den _ _ _ _ _ _ _ _ w hd0 (sM_p hd0 hm0) hr c bq.1 cq.1 cq.2 s1 s2 s3 hm hd
          · rw [part_big (by omega)]; exact part_ptel n num den _ _ _ _ _ _ _ _ w hd0 (sM_p hd0 hm0) hr c c' bq.1 cq.1 cq.2 s1 s2 s3 hm hd
          · rw [part_fit (by omega), hm0, ez, ← e]; exact part_ptef n num den _ _ _ _ _ _ _ _ w hd0 (sM_p hd0 hm0) hr c c' bq.1 cq.1 cq.2 s1 s2 s3 hm hd
end Go.Proofs.Ytplepbaafamjfaa
