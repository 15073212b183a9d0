/- A leg that becomes longer: bars, sums, findings. -/
import Derived.Test.YthphgppgdlimeaaLn
import Derived.Test.YthphgppgdlimeaaCz
import Derived.Deep.CutBlock
namespace Go.Proofs.Ythphgppgdlimeaa
open Go.ChangeShapes Go.WideShapes Go.ChangeAt Go.RowKit
set_option linter.unusedVariables false
set_option linter.unusedSimpArgs false

theorem own_put {B g n cap : Nat} {e : TypeId} {w : World} {xs : List Value} (h : w.ownsRow B e 1 (.slice (some ⟨g, 0, none⟩) n cap) n xs) (j : Nat) (u : Value) : (w.setCell ⟨g, j, none⟩ u).ownsRow B e 1 (.slice (some ⟨g, 0, none⟩) n cap) n (xs.set j u) := by
  obtain ⟨hl, ⟨h0, -⟩ | ⟨g', cap', cur, e', hB, hg, hn, hm, hs, ht⟩⟩ := h
  · cases h0
  · simp only [Value.slice.injEq, Option.some.injEq, Addr.mk.injEq] at e'
    obtain ⟨⟨rfl, -⟩, -, rfl⟩ := e'
    refine ⟨by simpa using hl, .inr ⟨_, _, cur.setIfInBounds j u, rfl, hB, Has.put_ hg j u, hn, hm, by simpa using hs, ?_⟩⟩
    rw [Array.toList_setIfInBounds, List.take_set, ht]
theorem OwnI.on {B : Nat} {w w' : World} {v : Value} {l : List Int} (h : OwnI B w v l) (hb : Below w.heap.size w w') : OwnI B w' v l := own_on h hb
theorem OwnI.at {B g : Nat} {w w' : World} {v : Value} {l : List Int} (h : OwnI B w v l) (hb : At g w w') (hg : g < B) : OwnI B w' v l :=
  own_at h hb (fun e => by have := (World.ownsRow.lt h g e).1; omega)
theorem OwnI.fn {B : Nat} {w : World} {v : Value} {l : List Int} {n : Nat} (h : OwnI B w v l) (hl : l.length = n) (h0 : 0 < n) : ∃ g cap, v = .slice (some ⟨g, 0, none⟩) n cap ∧ B ≤ g ∧ g < w.heap.size := by
  obtain ⟨hl2, ⟨rfl, h0'⟩ | ⟨g, cap, cur, rfl, hB, hg, hn, hm, hs, ht⟩⟩ := h
  · omega
  · exact ⟨g, cap, by rw [hl], hB, (Array.getElem?_eq_some_iff.1 hg).1⟩
theorem OwnI.cell {B g n cap : Nat} {w : World} {l : List Int} (h : OwnI B w (.slice (some ⟨g, 0, none⟩) n cap) l) {i : Nat} (hi : i < l.length) : w.cell? ⟨g, i, none⟩ = some (.int .i64 l[i]) ∧ w.frozen? ⟨g, i, none⟩ = false := by
  obtain ⟨q, c, e, k⟩ := h.rdz
  simp only [Value.slice.injEq] at e
  obtain ⟨rfl, -, rfl⟩ := e
  obtain ⟨a, e, hc⟩ := k i hi
  cases e
  rw [Addr.add_lit, Nat.zero_add] at hc
  refine ⟨hc, ?_⟩
  obtain ⟨hl2, ⟨h0, -⟩ | ⟨g', cap', cur, e', hB, hg, hn, hm, hs, ht⟩⟩ := h
  · cases h0
  · simp only [Value.slice.injEq, Option.some.injEq, Addr.mk.injEq] at e'
    obtain ⟨⟨rfl, -⟩, -, rfl⟩ := e'
    simp [World.frozen?, hg]
def lgB (b : Bar) (g cap i : Nat) (u : Int) : Bar := ⟨b.mark, b.size, b.count, b.code, some ⟨g, 0, none⟩, b.ds.set i (b.ds.getD i 0 + u), cap⟩
theorem legF_lg (b : Bar) (g cap : Nat) {i : Nat} (u : Int) (hi : i < b.ds.length) (j : Nat) : legF (lgB b g cap i u) j = legF b j + (if (ixb b.code).getD j 0 = i then u else 0) := by
  have e1 : legF (lgB b g cap i u) j = (b.ds.set i (b.ds.getD i 0 + u)).getD ((ixb b.code).getD j 0) 0 := rfl
  have e2 : legF b j = b.ds.getD ((ixb b.code).getD j 0) 0 := rfl
  rw [e1, e2]
  generalize (ixb b.code).getD j 0 = x
  simp only [List.getD_eq_getElem?_getD]
  by_cases h : x = i
  · subst h
    rw [List.getElem?_set_self hi, if_pos rfl]; simp
  · rw [List.getElem?_set_ne (fun e => h e.symm), if_neg h]; simp
theorem ix_sur {c : Int} (h : isC c = true) : ∀ i, i < ndim c → ∃ j, j < nl c ∧ (ixb c).getD j 0 = i := by
  rcases code_in h with rfl | rfl | rfl | rfl | rfl | rfl | rfl | rfl <;> decide
theorem sum_up (f f' : Nat → Int) : ∀ l : List Nat, (∀ j ∈ l, f j ≤ f' j) → (l.map f).sum ≤ (l.map f').sum
  | [], _ => by simp
  | x :: l, h => by
    have h1 := h x (List.mem_cons_self ..)
    have h2 := sum_up f f' l fun j hj => h j (List.mem_cons_of_mem _ hj)
    simp only [List.map_cons, List.sum_cons]; omega
theorem sum_more (f f' : Nat → Int) (u : Int) : ∀ l : List Nat, (∀ j ∈ l, f j ≤ f' j) → (∃ j ∈ l, f j + u ≤ f' j) → (l.map f).sum + u ≤ (l.map f').sum
  | [], _, h => by obtain ⟨j, hj, -⟩ := h; cases hj
  | x :: l, h, ⟨j, hj, e⟩ => by
    have h1 := h x (List.mem_cons_self ..)
    have h2 := sum_up f f' l fun j hj => h j (List.mem_cons_of_mem _ hj)
    simp only [List.map_cons, List.sum_cons]
    rcases List.mem_cons.1 hj with rfl | hj
    · omega
    · have := sum_more f f' u l (fun j hj => h j (List.mem_cons_of_mem _ hj)) ⟨j, hj, e⟩
      omega
theorem legs_lg {b : Bar} (h : barB b = true) (g cap : Nat) {i : Nat} {u : Int} (hu : 0 ≤ u) (hi : i < b.ds.length) : (legs b).sum + u ≤ (legs (lgB b g cap i u)).sum := by
  obtain ⟨hC, hl, -⟩ := barB_and h
  have e : legs (lgB b g cap i u) = (List.range (nl b.code)).map (legF (lgB b g cap i u)) := rfl
  rw [e]
  refine sum_more (legF b) _ u _ (fun j _ => ?_) ?_
  · rw [legF_lg b g cap u hi]
    split <;> omega
  · obtain ⟨j, hj, e⟩ := ix_sur hC i (by omega)
    exact ⟨j, List.mem_range.2 hj, by rw [legF_lg b g cap u hi, if_pos e]; exact Int.le_refl _⟩
theorem dev_lg (b : Bar) (g cap i : Nat) (u : Int) : devL (lgB b g cap i u) = devL b + 1000 * ((legs (lgB b g cap i u)).sum - (legs b).sum) ∧ devH (lgB b g cap i u) = devH b + 1000 * ((legs (lgB b g cap i u)).sum - (legs b).sum) := by
  have e1 : devL (lgB b g cap i u) = 1000 * (legs (lgB b g cap i u)).sum - ((nl b.code : Int) - 1) * alwH (bn b.size) := rfl
  have e2 : devH (lgB b g cap i u) = 1000 * (legs (lgB b g cap i u)).sum - ((nl b.code : Int) - 1) * alwL (bn b.size) := rfl
  have e3 : devL b = 1000 * (legs b).sum - ((nl b.code : Int) - 1) * alwH (bn b.size) := rfl
  have e4 : devH b = 1000 * (legs b).sum - ((nl b.code : Int) - 1) * alwL (bn b.size) := rfl
  rw [e1, e2, e3, e4]
  omega
theorem kd_mono {r s : Int} {n : Nat} {f f' : Nat → Int} {j : Nat} (h : f j ≤ f' j) : (kd r s n f' j).length ≤ (kd r s n f j).length := by
  unfold kd
  by_cases c : j = 0 ∨ j + 1 = n
  · rw [if_pos c, if_pos c]
    by_cases c2 : f' j < r + 5 * s
    · rw [if_pos c2, if_pos (by omega)]; exact Nat.le_refl _
    · rw [if_neg c2]; simp
  · rw [if_neg c, if_neg c]
    by_cases c2 : f' j < 2 * r
    · rw [if_pos c2, if_pos (by omega)]; exact Nat.le_refl _
    · rw [if_neg c2]; simp
theorem kds_mono {r s : Int} {n : Nat} {f f' : Nat → Int} (h : ∀ j, f j ≤ f' j) : ∀ k, (kds r s n f' k).length ≤ (kds r s n f k).length
  | 0 => by simp [kds]
  | k + 1 => by
    rw [kds_succ, kds_succ, List.length_append, List.length_append]
    have := kds_mono (r := r) (s := s) (n := n) h k
    have := kd_mono (r := r) (s := s) (n := n) (h k)
    omega
theorem chk_lg (b : Bar) (g cap : Nat) {i : Nat} {u : Int} (hu : 0 ≤ u) (hi : i < b.ds.length) : (chk (lgB b g cap i u)).length ≤ (chk b).length := by
  have e : chk (lgB b g cap i u) = if nl b.code = 1 then [] else kds (bn b.size) b.size (nl b.code) (legF (lgB b g cap i u)) (nl b.code) := rfl
  rw [e]
  unfold chk
  split
  · exact Nat.le_refl _
  · exact kds_mono (fun j => by rw [legF_lg b g cap u hi]; split <;> omega) _
theorem Check_len (b : Bar) (w : World) (hk : b.Ok w) (hv : barB b = true) : Calls Try.prog 26 #[b.val] w fun e w' => ∃ p c, e = .returned (.tuple #[.slice p (chk b).length c, .int .i64 0]) ∧ Below w.heap.size w w' :=
  (Check_ok b w hk hv).mono fun e w' ⟨v, e1, hO, hb⟩ => by
    obtain ⟨p, c, rfl, -⟩ := Own.rd (fl b.mark) hO
    exact ⟨p, c, e1, hb⟩
theorem row_set {B g n cap : Nat} {w : World} {l : List Int} (h : OwnI B w (.slice (some ⟨g, 0, none⟩) n cap) l) (hn : l.length = n) (i : Nat) (z : Int) : OwnI B (w.setCell ⟨g, i, none⟩ (.int .i64 z)) (.slice (some ⟨g, 0, none⟩) n cap) (l.set i z) := by
  have h' : w.ownsRow B 3 1 (.slice (some ⟨g, 0, none⟩) n cap) n (l.map (Value.int .i64)) := by
    have h0 := h
    unfold OwnI at h0
    rw [hn] at h0; exact h0
  have h2 := own_put h' i (.int .i64 z)
  unfold OwnI
  rw [List.length_set, hn, List.map_set]
  exact h2
end Go.Proofs.Ythphgppgdlimeaa
