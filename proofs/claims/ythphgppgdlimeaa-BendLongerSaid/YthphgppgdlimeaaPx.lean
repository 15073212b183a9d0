/- Small facts on points and rows. -/
import Derived.Test.YthphgppgdlimeaaPa
import Derived.Test.YthphgppgdlimeaaRv
namespace Go.Proofs.Ythphgppgdlimeaa
open Go.ChangeShapes Go.WideShapes Go.ChangeAt Go.RowKit
set_option linter.unusedVariables false
set_option linter.unusedSimpArgs false

theorem rdz_fn {w : World} {p : Option Addr} {n cap : Nat} {l : List Int} (h : Rdz w (.slice p n cap) l) (hl : l.length = n) (hn : 0 < n) : ∃ a : Addr, p = some a ∧ ∀ j (hj : j < l.length), w.cell? (a.add j) = some (.int .i64 l[j]) := by
  obtain ⟨q, c, e, k⟩ := h
  simp only [Value.slice.injEq] at e
  obtain ⟨rfl, -, rfl⟩ := e
  obtain ⟨a, rfl, -⟩ := k 0 (by omega)
  refine ⟨a, rfl, fun j hj => ?_⟩
  obtain ⟨a', e, h⟩ := k j hj
  cases e; exact h
theorem Own.fn {B : Nat} {w : World} {v : Value} {l : List Pt} (h : Own pc 77 3 B w v l) (hl : 0 < l.length) : ∃ g cap, v = .slice (some ⟨g, 0, none⟩) l.length cap ∧ ∀ k (hk : k < l.length), w.cell? ⟨g, k * 3, none⟩ = some (.int .i64 l[k].x) ∧ w.cell? ⟨g, k * 3 + 1, none⟩ = some (.int .i64 l[k].y) ∧ w.cell? ⟨g, k * 3 + 2, none⟩ = some (.int .i64 l[k].z) := by
  obtain ⟨q, c, rfl, k⟩ := Own.rd pl h
  obtain ⟨g, rfl, -⟩ := k 0 hl
  refine ⟨g, c, rfl, fun i hi => ?_⟩
  obtain ⟨g', e, hc⟩ := k i hi
  cases e
  have h0 := hc 0 (by omega)
  have h1 := hc 1 (by omega)
  have h2 := hc 2 (by omega)
  simp [pc] at h0 h1 h2
  exact ⟨h0, h1, h2⟩
theorem way_in {c : Int} (h : isC c = true) {k : Nat} (hk : k < nl c) : way c k = 88 ∨ way c k = 120 ∨ way c k = 89 ∨ way c k = 121 ∨ way c k = 90 := by
  rcases code_in h with rfl | rfl | rfl | rfl | rfl | rfl | rfl | rfl <;>
  · have hk' : k < 6 := Nat.lt_of_lt_of_le hk (nl_le h)
    revert hk
    rcases (by omega : k = 0 ∨ k = 1 ∨ k = 2 ∨ k = 3 ∨ k = 4 ∨ k = 5) with rfl | rfl | rfl | rfl | rfl | rfl <;> decide
theorem legs_sum {b : Bar} (h : barB b = true) : (legs b).sum ≤ 524288 := by
  obtain ⟨hC, hl, hf, -⟩ := barB_and h
  obtain ⟨mk, sz, ct, cd, p, ds, cap⟩ := b
  dsimp only at hC hl hf
  have hs := (fitB_sum _ _ (by omega) hf).2
  have hm := fitB_mem _ _ hf (by omega)
  rcases code_in hC with rfl | rfl | rfl | rfl | rfl | rfl | rfl | rfl
  · have hl' : ds.length = 1 := hl.trans (by kernel_rfl)
    match ds, hl' with
    | [d0], _ =>
      have e : legs ⟨mk, sz, ct, 0, p, [d0], cap⟩ = [d0] := by kernel_rfl
      rw [e]
      simp only [List.mem_cons, List.not_mem_nil, or_false, forall_eq_or_imp, forall_eq] at hm
      simp only [List.sum_cons, List.sum_nil] at hs ⊢
      omega
  · have hl' : ds.length = 2 := hl.trans (by kernel_rfl)
    match ds, hl' with
    | [d0, d1], _ =>
      have e : legs ⟨mk, sz, ct, 11, p, [d0, d1], cap⟩ = [d0, d1] := by kernel_rfl
      rw [e]
      simp only [List.mem_cons, List.not_mem_nil, or_false, forall_eq_or_imp, forall_eq] at hm
      simp only [List.sum_cons, List.sum_nil] at hs ⊢
      omega
  · have hl' : ds.length = 3 := hl.trans (by kernel_rfl)
    match ds, hl' with
    | [d0, d1, d2], _ =>
      have e : legs ⟨mk, sz, ct, 21, p, [d0, d1, d2], cap⟩ = [d0, d1, d2] := by kernel_rfl
      rw [e]
      simp only [List.mem_cons, List.not_mem_nil, or_false, forall_eq_or_imp, forall_eq] at hm
      simp only [List.sum_cons, List.sum_nil] at hs ⊢
      omega
  · have hl' : ds.length = 3 := hl.trans (by kernel_rfl)
    match ds, hl' with
    | [d0, d1, d2], _ =>
      have e : legs ⟨mk, sz, ct, 26, p, [d0, d1, d2], cap⟩ = [d0, d1, d2] := by kernel_rfl
      rw [e]
      simp only [List.mem_cons, List.not_mem_nil, or_false, forall_eq_or_imp, forall_eq] at hm
      simp only [List.sum_cons, List.sum_nil] at hs ⊢
      omega
  · have hl' : ds.length = 3 := hl.trans (by kernel_rfl)
    match ds, hl' with
    | [d0, d1, d2], _ =>
      have e : legs ⟨mk, sz, ct, 31, p, [d0, d1, d2], cap⟩ = [d0, d1, d2] := by kernel_rfl
      rw [e]
      simp only [List.mem_cons, List.not_mem_nil, or_false, forall_eq_or_imp, forall_eq] at hm
      simp only [List.sum_cons, List.sum_nil] at hs ⊢
      omega
  · have hl' : ds.length = 5 := hl.trans (by kernel_rfl)
    match ds, hl' with
    | [d0, d1, d2, d3, d4], _ =>
      have e : legs ⟨mk, sz, ct, 41, p, [d0, d1, d2, d3, d4], cap⟩ = [d0, d1, d2, d3, d4] := by kernel_rfl
      rw [e]
      simp only [List.mem_cons, List.not_mem_nil, or_false, forall_eq_or_imp, forall_eq] at hm
      simp only [List.sum_cons, List.sum_nil] at hs ⊢
      omega
  · have hl' : ds.length = 3 := hl.trans (by kernel_rfl)
    match ds, hl' with
    | [d0, d1, d2], _ =>
      have e : legs ⟨mk, sz, ct, 51, p, [d0, d1, d2], cap⟩ = [d2, d0, d1, d0, d1, d2] := by kernel_rfl
      rw [e]
      simp only [List.mem_cons, List.not_mem_nil, or_false, forall_eq_or_imp, forall_eq] at hm
      simp only [List.sum_cons, List.sum_nil] at hs ⊢
      omega
  · have hl' : ds.length = 3 := hl.trans (by kernel_rfl)
    match ds, hl' with
    | [d0, d1, d2], _ =>
      have e : legs ⟨mk, sz, ct, 98, p, [d0, d1, d2], cap⟩ = [d0, d1, d2, d1, d0] := by kernel_rfl
      rw [e]
      simp only [List.mem_cons, List.not_mem_nil, or_false, forall_eq_or_imp, forall_eq] at hm
      simp only [List.sum_cons, List.sum_nil] at hs ⊢
      omega
theorem pt_sum {b : Bar} (h : barB b = true) : ∀ k, k ≤ nl b.code → (pt b k).bd ((legs b).take k).sum ∧ 0 ≤ ((legs b).take k).sum
  | 0, _ => by simp [pt, Pt.bd]
  | k + 1, hk => by
    have h1 := pt_sum h k (by omega)
    have h2 := leg_bd h (j := k) (by omega)
    have h3 := mv_bd (c := way b.code k) h1.1 (n := legF b k) (by omega)
    have e : ((legs b).take (k + 1)).sum = ((legs b).take k).sum + legF b k := by
      rw [List.take_succ_eq_append_getElem (by rw [legs_len]; omega), List.sum_append]; simp [legs]
    rw [e]
    exact ⟨h3, by omega⟩
theorem take_le {b : Bar} (h : barB b = true) : ∀ k, k ≤ nl b.code → ((legs b).take (nl b.code - k)).sum ≤ (legs b).sum
  | 0, _ => by rw [Nat.sub_zero, List.take_of_length_le (by rw [legs_len]; omega)]; exact Int.le_refl _
  | k + 1, hk => by
    have h1 := take_le h k (by omega)
    have hj : nl b.code - (k + 1) < nl b.code := by omega
    have h2 := leg_bd h hj
    have e : ((legs b).take (nl b.code - k)).sum = ((legs b).take (nl b.code - (k + 1))).sum + legF b (nl b.code - (k + 1)) := by
      rw [show nl b.code - k = (nl b.code - (k + 1)) + 1 by omega, List.take_succ_eq_append_getElem (by rw [legs_len]; omega), List.sum_append]; simp [legs]
    omega
theorem pt_near {b : Bar} (h : barB b = true) {k : Nat} (hk : k ≤ nl b.code) : (pt b k).bd 524288 := by
  have h1 := (pt_sum h k hk).1
  have h2 := take_le h (nl b.code - k) (by omega)
  rw [show nl b.code - (nl b.code - k) = k by omega] at h2
  have h3 := legs_sum h
  unfold Pt.bd at h1 ⊢
  omega
end Go.Proofs.Ythphgppgdlimeaa
