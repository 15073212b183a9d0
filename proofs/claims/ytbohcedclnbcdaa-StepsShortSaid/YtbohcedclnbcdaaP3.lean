/- Pure: a step more that changes nothing; short steps one after the other; one more at one place. -/
import Derived.Test.YtbohcedclnbcdaaL3
import Derived.Test.YtbohcedclnbcdaaP1
namespace Go.Proofs.Ytbohcedclnbcdaa
set_option linter.unusedVariables false
set_option linter.unusedSimpArgs false

theorem okS_sht {l : List Stp} (h : OkS l) : OkS (sht l) :=
  ⟨Nat.le_trans shF_sub.length_le h.len, fun s hs => h.pl s (shF_sub.subset hs), fun s hs => h.ar s (shF_sub.subset hs), shF_asc h.asc⟩
/-- The first step that begins at x or behind it. -/
def ix (x : Int) : List Stp → Nat
  | [] => 0
  | s :: l => if x ≤ s.1 then 0 else ix x l + 1
theorem ix_le (x : Int) (l : List Stp) : ix x l ≤ l.length := by
  induction l with
  | nil => exact Nat.le_refl _
  | cons s l ih => unfold ix; split <;> simp; omega
theorem ix_take (x : Int) (l : List Stp) : ∀ s ∈ l.take (ix x l), s.1 < x := by
  induction l with
  | nil => simp
  | cons s l ih =>
    unfold ix
    split
    · simp
    · rename_i h
      intro t ht
      rw [List.take_succ_cons] at ht
      rcases List.mem_cons.1 ht with rfl | ht
      · omega
      · exact ih t ht
theorem ix_at (x : Int) (l : List Stp) (h : ix x l < l.length) : x ≤ l[ix x l].1 := by
  induction l with
  | nil => simp at h
  | cons s l ih =>
    by_cases hx : x ≤ s.1
    · have e : ix x (s :: l) = 0 := by rw [ix, if_pos hx]
      simp only [e]; exact hx
    · have e : ix x (s :: l) = ix x l + 1 := by rw [ix, if_neg hx]
      simp only [e, List.getElem_cons_succ]
      exact ih (by rw [e] at h; simpa using h)
theorem ix_lt (x : Int) (l : List Stp) (k : Nat) (hk : k < ix x l) (hl : k < l.length) : l[k].1 < x :=
  ix_take x l _ (List.mem_take_iff_getElem.2 ⟨k, by omega, rfl⟩)
theorem ix_drop {x : Int} {l : List Stp} (ha : Asc l) : ∀ s ∈ l.drop (ix x l), x ≤ s.1 := by
  intro s hs
  obtain ⟨k, hk, rfl⟩ := List.getElem_of_mem hs
  rw [List.length_drop] at hk
  rw [List.getElem_drop]
  have h0 := ix_at x l (by omega)
  rcases Nat.eq_zero_or_pos k with rfl | h
  · exact h0
  · have := List.pairwise_iff_getElem.1 ha (ix x l) (ix x l + k) (by omega) (by omega) (by omega)
    omega
/-- With a step more at x, of the value that is there. -/
def mor (x : Int) (l : List Stp) : List Stp := l.take (ix x l) ++ (x, va l x) :: l.drop (ix x l)
theorem vaF_app (v y : Int) (a b : List Stp) : vaF v (a ++ b) y = vaF (vaF v a y) b y := by
  induction a generalizing v with
  | nil => rfl
  | cons s a ih => exact ih _
theorem mor_gt {x : Int} {l : List Stp} (ha : Asc l) (h : ∀ k : ix x l < l.length, x < l[ix x l].1) : ∀ s ∈ l.drop (ix x l), x < s.1 := by
  intro s hs
  obtain ⟨k, hk, rfl⟩ := List.getElem_of_mem hs
  rw [List.length_drop] at hk
  rw [List.getElem_drop]
  have h0 := h (by omega)
  rcases Nat.eq_zero_or_pos k with rfl | h
  · exact h0
  · have := List.pairwise_iff_getElem.1 ha (ix x l) (ix x l + k) (by omega) (by omega) (by omega)
    omega
theorem mor_asc {x : Int} {l : List Stp} (ha : Asc l) (h : ∀ k : ix x l < l.length, x < l[ix x l].1) : Asc (mor x l) := by
  have hg := mor_gt ha h
  have hl := ix_take x l
  have hp : Asc (l.take (ix x l) ++ l.drop (ix x l)) := by rw [List.take_append_drop]; exact ha
  obtain ⟨h1, h2, h3⟩ := List.pairwise_append.1 hp
  refine List.pairwise_append.2 ⟨h1, List.pairwise_cons.2 ⟨fun s hs => hg s hs, h2⟩, fun s hs t ht => ?_⟩
  rcases List.mem_cons.1 ht with rfl | ht
  · exact hl s hs
  · exact h3 s hs t ht
theorem mor_va {x : Int} {l : List Stp} (ha : Asc l) (h : ∀ k : ix x l < l.length, x < l[ix x l].1) (y : Int) : va (mor x l) y = va l y := by
  have hg := mor_gt ha h
  have hl := ix_take x l
  have e0 : ∀ z, va l z = vaF (vaF 0 (l.take (ix x l)) z) (l.drop (ix x l)) z := fun z => by
    rw [← vaF_app, List.take_append_drop]; rfl
  have e1 : va l x = vaF 0 (l.take (ix x l)) x := by rw [e0, vaF_lt hg]
  have e2 : va (mor x l) y = vaF (if x ≤ y then va l x else vaF 0 (l.take (ix x l)) y) (l.drop (ix x l)) y := by
    unfold mor
    show vaF 0 _ y = _
    rw [vaF_app, vaF]
  rw [e2, e0 y]
  split
  · rename_i hy
    rw [e1, vaF_same hy fun s hs => by have := hl s hs; omega]
  · rfl
theorem mor_ok {x : Int} {l : List Stp} (ok : OkS l) (hl : l.length ≤ 199) (hx : plc x = true) (h : ∀ k : ix x l < l.length, x < l[ix x l].1) : OkS (mor x l) := by
  refine ⟨?_, fun s hs => ?_, fun s hs => ?_, mor_asc ok.asc h⟩
  · have := ix_le x l
    unfold mor; simp; omega
  · rcases List.mem_append.1 hs with hs | hs
    · exact ok.pl s (List.mem_of_mem_take hs)
    · rcases List.mem_cons.1 hs with rfl | hs
      · exact hx
      · exact ok.pl s (List.mem_of_mem_drop hs)
  · rcases List.mem_append.1 hs with hs | hs
    · exact ok.ar s (List.mem_of_mem_take hs)
    · rcases List.mem_cons.1 hs with rfl | hs
      · exact va_ara ok.ar x
      · exact ok.ar s (List.mem_of_mem_drop hs)
theorem mor_sht {x : Int} {l : List Stp} (ok : OkS l) (h : ∀ k : ix x l < l.length, x < l[ix x l].1) : sht (mor x l) = sht l :=
  sht_uniq (mor_asc ok.asc h) ok.asc (mor_va ok.asc h)
theorem sh_at {v : Int} {l : List Stp} (h : Sh v l) (i : Nat) (hi : i < l.length) : (i = 0 → l[i].2 ≠ v) ∧ (∀ k : 0 < i, l[i].2 ≠ (l[i - 1]'(by omega)).2) := by
  induction l generalizing v i with
  | nil => simp at hi
  | cons s l ih =>
    cases i with
    | zero => exact ⟨fun _ => h.1, fun k => absurd k (by omega)⟩
    | succ i =>
      refine ⟨fun e => absurd e (by omega), fun _ => ?_⟩
      have k := ih h.2 i (by simpa using hi)
      rcases Nat.eq_zero_or_pos i with rfl | hp
      · exact k.1 rfl
      · have := k.2 hp
        simp only [List.getElem_cons_succ]
        have e : (s :: l)[i + 1 - 1]'(by simp at hi ⊢; omega) = l[i - 1]'(by simp at hi; omega) := by
          cases i with
          | zero => omega
          | succ j => rfl
        rw [e]; exact this
theorem sht_at (l : List Stp) (i : Nat) (hi : i < (sht l).length) : (i = 0 → (sht l)[i].2 ≠ 0) ∧ (∀ k : 0 < i, (sht l)[i].2 ≠ ((sht l)[i - 1]'(by omega)).2) := sh_at (shF_sh 0 l) i hi
/-- One more at one place. -/
def one_ (x : Int) : List Stp := [(x, 1), (x + 1, 0)]
theorem one_more {x : Int} {l : List Stp} (ok : OkS l) (oo : OkS (one_ x)) (h : (cmb o45 l (one_ x)).2 = 0) : sht l ≠ (cmb o45 l (one_ x)).1 := by
  intro e
  have h1 := (cmb_ok (o := o45) rfl ok oo h).2.2 x
  rw [← e, sht_va ok.asc] at h1
  have h2 : va (one_ x) x = 1 := by
    unfold one_ va
    rw [vaF, vaF, vaF, if_pos (Int.le_refl x), if_neg (by show ¬ (x + 1 ≤ x); omega)]
  rw [h2] at h1
  unfold o45 at h1
  omega
theorem cmb_codes (l m : List Stp) : (cmb o45 l m).2 = 0 ∨ (cmb o45 l m).2 = 4 ∨ (cmb o45 l m).2 = 5 := by
  unfold cmb
  simp only
  split
  · split
    · exact .inl rfl
    · exact .inr (.inl rfl)
  · exact .inr (.inr rfl)
end Go.Proofs.Ytbohcedclnbcdaa
