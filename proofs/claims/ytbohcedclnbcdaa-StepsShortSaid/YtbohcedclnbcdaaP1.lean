/- Pure: short steps tell functions; where one function is below another one. -/
import Derived.Test.YtbohcedclnbcdaaL3
namespace Go.Proofs.Ytbohcedclnbcdaa
set_option linter.unusedVariables false
set_option linter.unusedSimpArgs false

theorem int_lt_or_ge (a b : Int) : a < b ∨ b ≤ a := by omega
theorem vaF_same {l : List Stp} {v x y : Int} (hxy : x ≤ y) (h : ∀ s ∈ l, ¬ (x < s.1 ∧ s.1 ≤ y)) : vaF v l x = vaF v l y := by
  induction l generalizing v with
  | nil => rfl
  | cons s l ih =>
    have h0 := h s (by simp)
    rw [vaF, vaF, ih (fun t ht => h t (by simp [ht]))]
    by_cases k : s.1 ≤ x
    · rw [if_pos k, if_pos (by omega)]
    · rw [if_neg k, if_neg (by omega)]
theorem tg_all (n : Nat) (p q : Int) (a b : List Stp) (hn : a.length + b.length ≤ n) : (∀ s ∈ a, ∃ e ∈ tg n p q a b, e.1 = s.1) ∧ (∀ s ∈ b, ∃ e ∈ tg n p q a b, e.1 = s.1) := by
  induction n generalizing p q a b with
  | zero =>
    have e1 := List.eq_nil_of_length_eq_zero (show a.length = 0 by omega)
    have e2 := List.eq_nil_of_length_eq_zero (show b.length = 0 by omega)
    subst e1; subst e2
    exact ⟨fun s hs => (by cases hs), fun s hs => (by cases hs)⟩
  | succ n ih =>
    cases h : nx a b with
    | none =>
      obtain ⟨rfl, rfl⟩ := nx_none h
      exact ⟨fun s hs => (by cases hs), fun s hs => (by cases hs)⟩
    | some x =>
      rw [tg_some h]
      have hl := nx_len (p := p) (q := q) h
      have k := ih (ad x p a).1 (ad x q b).1 (ad x p a).2 (ad x q b).2 (by omega)
      have key : ∀ (l : List Stp) (r : Int), ∀ s ∈ l, s.1 = x ∨ s ∈ (ad x r l).2 := fun l r s hs => by
        cases l with
        | nil => cases hs
        | cons t l =>
          by_cases e : t.1 = x
          · rw [ad_yes e]
            rcases List.mem_cons.1 hs with rfl | hs
            · exact .inl e
            · exact .inr hs
          · rw [ad_no e]; exact .inr hs
      refine ⟨fun s hs => ?_, fun s hs => ?_⟩
      · rcases key a p s hs with e | e
        · exact ⟨_, List.mem_cons_self .., e.symm⟩
        · obtain ⟨d, hd, he⟩ := k.1 s e; exact ⟨d, List.mem_cons_of_mem _ hd, he⟩
      · rcases key b q s hs with e | e
        · exact ⟨_, List.mem_cons_self .., e.symm⟩
        · obtain ⟨d, hd, he⟩ := k.2 s e; exact ⟨d, List.mem_cons_of_mem _ hd, he⟩
theorem last_in (t : List (Int × Int × Int)) (fr y : Int) : (∀ e ∈ t, ¬ (fr < e.1 ∧ e.1 ≤ y)) ∨ ∃ e ∈ t, fr < e.1 ∧ e.1 ≤ y ∧ ∀ d ∈ t, ¬ (e.1 < d.1 ∧ d.1 ≤ y) := by
  induction t with
  | nil => exact .inl fun e he => (by cases he)
  | cons e0 t ih =>
    by_cases h0 : fr < e0.1 ∧ e0.1 ≤ y
    · rcases ih with h | ⟨e, he, h1, h2, h3⟩
      · refine .inr ⟨e0, by simp, h0.1, h0.2, fun d hd => ?_⟩
        rcases List.mem_cons.1 hd with rfl | hd
        · omega
        · have := h d hd; omega
      · by_cases k : e.1 < e0.1
        · refine .inr ⟨e0, by simp, h0.1, h0.2, fun d hd => ?_⟩
          rcases List.mem_cons.1 hd with rfl | hd
          · omega
          · have := h3 d hd; omega
        · refine .inr ⟨e, by simp [he], h1, h2, fun d hd => ?_⟩
          rcases List.mem_cons.1 hd with rfl | hd
          · omega
          · exact h3 d hd
    · rcases ih with h | ⟨e, he, h1, h2, h3⟩
      · refine .inl fun e he => ?_
        rcases List.mem_cons.1 he with rfl | he
        · exact h0
        · exact h e he
      · refine .inr ⟨e, by simp [he], h1, h2, fun d hd => ?_⟩
        rcases List.mem_cons.1 hd with rfl | hd
        · omega
        · exact h3 d hd
/-- Where the first function is less, it is so at the start or at a place ahead. -/
theorem less_place {la lb : List Stp} (ha : Asc la) (hb : Asc lb) {fr y : Int} (hy : fr ≤ y) (h : va la y < va lb y) :
    va la fr < va lb fr ∨ ∃ e ∈ tog la lb, fr < e.1 ∧ e.1 ≤ y ∧ e.2.1 < e.2.2 := by
  have hall := tg_all (la.length + lb.length) 0 0 la lb (Nat.le_refl _)
  rcases last_in (tog la lb) fr y with k | ⟨e, he, k1, k2, k3⟩
  · left
    have e1 : va la fr = va la y := vaF_same hy fun s hs => by
      obtain ⟨d, hd, hde⟩ := hall.1 s hs
      rw [← hde]; exact k d hd
    have e2 : va lb fr = va lb y := vaF_same hy fun s hs => by
      obtain ⟨d, hd, hde⟩ := hall.2 s hs
      rw [← hde]; exact k d hd
    rw [e1, e2]; exact h
  · right
    have hv := tog_val ha hb e he
    have e1 : va la e.1 = va la y := vaF_same k2 fun s hs => by
      obtain ⟨d, hd, hde⟩ := hall.1 s hs
      rw [← hde]; exact k3 d hd
    have e2 : va lb e.1 = va lb y := vaF_same k2 fun s hs => by
      obtain ⟨d, hd, hde⟩ := hall.2 s hs
      rw [← hde]; exact k3 d hd
    exact ⟨e, he, k1, k2, by rw [hv.1, hv.2, e1, e2]; exact h⟩
theorem isB_iff (fr tz : Int) (e : Int × Int × Int) : isB fr tz e = true ↔ fr < e.1 ∧ e.1 ≤ tz ∧ e.2.1 < e.2.2 := by unfold isB; simp [and_assoc]
theorem bel_none {la lb : List Stp} (ha : Asc la) (hb : Asc lb) {fr tz : Int} (h : bel la lb fr tz = none) {y : Int} (h1 : fr ≤ y) (h2 : y ≤ tz) : va lb y ≤ va la y := by
  unfold bel at h
  by_cases h0 : va la fr < va lb fr
  · rw [if_pos h0] at h; cases h
  · rw [if_neg h0] at h
    have hn : (tog la lb).find? (isB fr tz) = none := by
      cases e : (tog la lb).find? (isB fr tz) with
      | none => rfl
      | some d => rw [e] at h; cases h
    rcases int_lt_or_ge (va la y) (va lb y) with k | k
    · rcases less_place ha hb h1 k with k | ⟨e, he, k1, k2, k3⟩
      · exact absurd k h0
      · have := List.find?_eq_none.1 hn e he
        exact absurd ((isB_iff fr tz e).2 ⟨k1, by omega, k3⟩) this
    · exact k
theorem bel_some {la lb : List Stp} (ha : Asc la) (hb : Asc lb) {fr tz x : Int} (hft : fr ≤ tz) (h : bel la lb fr tz = some x) :
    fr ≤ x ∧ x ≤ tz ∧ va la x < va lb x ∧ ∀ y, fr ≤ y → y < x → va lb y ≤ va la y := by
  unfold bel at h
  by_cases h0 : va la fr < va lb fr
  · rw [if_pos h0] at h; cases h
    exact ⟨Int.le_refl _, hft, h0, fun y h1 h2 => by omega⟩
  · rw [if_neg h0] at h
    cases he : (tog la lb).find? (isB fr tz) with
    | none => rw [he] at h; cases h
    | some e =>
      rw [he] at h
      have hx : e.1 = x := by simpa using h
      subst hx
      have hp := (isB_iff fr tz e).1 (List.find?_some he)
      have hm := List.mem_of_find?_eq_some he
      have hv := tog_val ha hb e hm
      refine ⟨by omega, hp.2.1, by rw [← hv.1, ← hv.2]; exact hp.2.2, fun y h1 h2 => ?_⟩
      rcases int_lt_or_ge (va la y) (va lb y) with k | k
      · rcases less_place ha hb h1 k with k | ⟨d, hd, k1, k2, k3⟩
        · exact absurd k h0
        · have hdp := (isB_iff fr tz d).2 ⟨k1, by omega, k3⟩
          obtain ⟨-, as1, bs1, hl, has⟩ := List.find?_eq_some_iff_append.1 he
          have hasc : (tog la lb).Pairwise (fun d e => d.1 < e.1) := tg_asc ha hb
          rw [hl] at hd hasc
          rcases List.mem_append.1 hd with hd | hd
          · have := has d hd; rw [hdp] at this; simp at this
          · rcases List.mem_cons.1 hd with rfl | hd
            · omega
            · have := (List.pairwise_cons.1 (List.pairwise_append.1 hasc).2.1).1 d hd
              omega
      · exact k
/-- Steps are short behind a value. -/
def Sh (v : Int) : List Stp → Prop
  | [] => True
  | s :: l => s.2 ≠ v ∧ Sh s.2 l
theorem shF_sh (v : Int) (l : List Stp) : Sh v (shF v l) := by
  induction l generalizing v with
  | nil => trivial
  | cons s l ih =>
    unfold shF
    split
    · exact ih v
    · rename_i h; exact ⟨h, ih s.2⟩
theorem sh_uniq {l m : List Stp} {v : Int} (hl : Sh v l) (hm : Sh v m) (al : Asc l) (am : Asc m) (h : ∀ y, vaF v l y = vaF v m y) : l = m := by
  have head : ∀ (s : Stp) (r : List Stp) (u : Int), Asc (s :: r) → vaF u (s :: r) s.1 = s.2 := fun s r u ha => by
    rw [vaF, if_pos (Int.le_refl _)]
    exact vaF_lt fun t ht => (List.pairwise_cons.1 ha).1 t ht
  have low : ∀ (s : Stp) (r : List Stp) (u y : Int), Asc (s :: r) → y < s.1 → vaF u (s :: r) y = u := fun s r u y ha hy => vaF_lt fun t ht => by
    rcases List.mem_cons.1 ht with rfl | ht
    · exact hy
    · have := (List.pairwise_cons.1 ha).1 t ht; omega
  induction l generalizing m v with
  | nil =>
    cases m with
    | nil => rfl
    | cons t m =>
      have := h t.1
      rw [head t m v am] at this
      exact absurd this.symm hm.1
  | cons s l ih =>
    cases m with
    | nil =>
      have := h s.1
      rw [head s l v al] at this
      exact absurd this hl.1
    | cons t m =>
      rcases Int.lt_trichotomy s.1 t.1 with k | k | k
      · have := h s.1
        rw [head s l v al, low t m v s.1 am k] at this
        exact absurd this hl.1
      · have h1 := h s.1
        rw [head s l v al] at h1
        rw [k, head t m v am] at h1
        have e : s = t := Prod.ext k h1
        subst e
        have hl' := List.pairwise_cons.1 al
        have hm' := List.pairwise_cons.1 am
        rw [ih hl.2 hm.2 hl'.2 hm'.2 fun y => ?_]
        by_cases hy : s.1 ≤ y
        · have := h y
          rw [vaF, vaF, if_pos hy] at this; exact this
        · rw [vaF_lt fun t ht => by have := hl'.1 t ht; omega, vaF_lt fun t ht => by have := hm'.1 t ht; omega]
      · have := h t.1
        rw [head t m v am, low s l v t.1 al k] at this
        exact absurd this.symm hm.1
theorem sht_uniq {l m : List Stp} (al : Asc l) (am : Asc m) (h : ∀ y, va l y = va m y) : sht l = sht m :=
  sh_uniq (shF_sh 0 l) (shF_sh 0 m) (shF_asc al) (shF_asc am) fun y => by
    show va (sht l) y = va (sht m) y
    rw [sht_va al, sht_va am]; exact h y
/-- Where nothing is below, the least values are those of the second function. -/
theorem least_second {la lb : List Stp} (oa : OkS la) (ob : OkS lb) (h : bel la lb (-1048576) 1048576 = none) : cmb o46 la lb = (sht lb, 0) := by
  have hasc : Asc (opl o46 (tog la lb)) := opl_asc (tg_asc oa.asc ob.asc)
  have hle : ∀ y, va lb y ≤ va la y := fun y => by
    have pa := fun s hs => (plc_iff _).1 (oa.pl s hs)
    have pb := fun s hs => (plc_iff _).1 (ob.pl s hs)
    rcases int_lt_or_ge y (-1048576) with k | k
    · have e1 : va la y = 0 := vaF_lt fun s hs => by have := pa s hs; omega
      have e2 : va lb y = 0 := vaF_lt fun s hs => by have := pb s hs; omega
      omega
    · rcases int_lt_or_ge 1048576 y with k2 | k2
      · have e1 : va la 1048576 = va la y := vaF_same (by omega) fun s hs => by have := pa s hs; omega
        have e2 : va lb 1048576 = va lb y := vaF_same (by omega) fun s hs => by have := pb s hs; omega
        rw [← e1, ← e2]
        exact bel_none oa.asc ob.asc h (by omega) (by omega)
      · exact bel_none oa.asc ob.asc h k (by omega)
  have hu : sht (opl o46 (tog la lb)) = sht lb := sht_uniq hasc ob.asc fun y => by
    rw [tog_op (by decide) oa.asc ob.asc]
    have := hle y
    show min (va la y) (va lb y) = va lb y
    omega
  have hall : (opl o46 (tog la lb)).all (fun s => ara s.2) = true := List.all_eq_true.2 fun s hs => by
    obtain ⟨e, he, rfl⟩ := List.mem_map.1 hs
    have hv := tog_val oa.asc ob.asc e he
    have h1 := (ara_iff _).1 (va_ara oa.ar e.1)
    have h2 := (ara_iff _).1 (va_ara ob.ar e.1)
    rw [← hv.1] at h1
    rw [← hv.2] at h2
    exact (ara_iff _).2 (by show 0 ≤ min _ _ ∧ min _ _ ≤ _; omega)
  unfold cmb
  simp only [hall, if_true]
  have hlen : (sht lb).length ≤ 200 := Nat.le_trans shF_sub.length_le ob.len
  rw [hu, if_pos hlen]
end Go.Proofs.Ytbohcedclnbcdaa
