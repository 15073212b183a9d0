/- Adds: the pure side. -/
import Derived.Test.YthdafpbmmfelpaaGreatDoorSc
import Derived.Test.YthdafpbmmfelpaaGreatDoorW3
namespace Go.Proofs.YthdafpbmmfelpaaGreatDoor
open Go.ChangeShapes Go.WideShapes Go.ChangeAt Go.RowKit
set_option linter.unusedVariables false
set_option linter.unusedSimpArgs false

def core (b : Bar) : Bar := { b with mark := ⟨#[]⟩, count := 0, p := none, cap := 0 }
def oneB (b : Bar) : Bar := { b with count := 1 }
theorem inC_core {x y : Bar} (h : core x = core y) (d n : Int) : inC d n x = inC d n y := by
  have e : ∀ z : Bar, inC d n z = inC d n (core z) := fun z => rfl
  rw [e x, e y, h]
theorem sm_core {x y : Bar} (h : smB x y = true) : core x = core y := by
  unfold smB at h
  simp only [Bool.and_eq_true, beq_iff_eq, decide_eq_true_eq] at h
  unfold core
  rw [h.1, h.2.1, h.2.2]
theorem sum_set (f : Bar → Int) : ∀ {m : List Bar} {i : Nat} (h : i < m.length) (y : Bar), ((m.set i y).map f).sum = (m.map f).sum + (f y - f m[i])
  | x :: r, 0, h, y => by simp; omega
  | x :: r, i + 1, h, y => by
    have := sum_set f (m := r) (i := i) (by simpa using h) y
    rw [List.set_cons_succ, List.map_cons, List.sum_cons, this, List.map_cons, List.sum_cons, List.getElem_cons_succ]; omega
theorem kct_sum (l : List Bar) (d x : Int) : kct l d x = (l.map fun b => if inC d x b then b.count else 0).sum := by
  induction l with
  | nil => rfl
  | cons b r ih => rw [kct_cons, ih]; simp
def P1 (b : Bar) : Prop := barB (oneB b) = true ∧ 1 ≤ b.count
theorem p1_of {b : Bar} (h : barB b = true) : P1 b := by
  refine ⟨?_, (barB_and h).2.2.2.2.2.1⟩
  unfold barB at h ⊢
  simp only [Bool.and_eq_true, decide_eq_true_eq] at h ⊢
  exact ⟨⟨h.1.1, Int.le_refl _⟩, by show (1 : Int) ≤ 1000; omega⟩
theorem p1_bar {b : Bar} (h : P1 b) (h2 : bigB b = false) : barB b = true := by
  obtain ⟨h1, h3⟩ := h
  unfold bigB at h2
  unfold barB at h1 ⊢
  simp only [Bool.and_eq_true, decide_eq_true_eq, decide_eq_false_iff_not] at h1 h2 ⊢
  exact ⟨⟨h1.1.1, h3⟩, by omega⟩
theorem fnd_no {c : ByteArray} {a : List Bar} (h : ¬ fnd c a < a.length) : c ∉ a.map (·.mark) := by
  intro hm
  obtain ⟨x, hx, e⟩ := List.mem_map.1 hm
  obtain ⟨k, hk, rfl⟩ := List.mem_iff_getElem.1 hx
  have := fnd_lt (m := c) (l := a) (k := k) (by omega) hk
  rw [eqN_iff.2 e] at this
  cases this
theorem mrg_sum {a : List Bar} : ∀ {r m z : List Bar}, a.length ≤ m.length → (∀ i (h : i < a.length) (h2 : i < m.length), core m[i] = core a[i] ∧ m[i].mark = a[i].mark) →
    (m.map (·.mark)).Nodup → (r.map (·.mark)).Nodup → (∀ c ∈ r, c.mark ∈ m.map (·.mark) → c.mark ∈ a.map (·.mark)) → (∀ x ∈ m, P1 x) → (∀ x ∈ r, P1 x) → mrg a m r = some z →
    (z.map (·.mark)).Nodup ∧ (∀ x ∈ z, P1 x) ∧ totL z = totL m + totL r ∧ ∀ d x, kct z d x = kct m d x + kct r d x
  | [], m, z, hl, hs, hm, hr, hc, h1, h2, h => by
    unfold mrg at h
    cases h
    exact ⟨hm, h1, by simp [totL], fun d x => by simp [kct]⟩
  | c :: r, m, z, hl, hs, hm, hr, hc, h1, h2, h => by
    rw [List.map_cons, List.nodup_cons] at hr
    by_cases hf : fnd c.mark a < a.length
    · have him : fnd c.mark a < m.length := by omega
      cases hsm : smB a[fnd c.mark a] c
      · rw [mrg_no hf hsm] at h; cases h
      · rw [mrg_old hf him hsm] at h
        have hk := hs _ hf him
        have hmark : m[fnd c.mark a].mark = c.mark := by rw [hk.2]; exact eqN_iff.1 (fnd_at hf)
        have hcore : core m[fnd c.mark a] = core c := by rw [hk.1]; exact sm_core hsm
        have hp := h1 _ (List.getElem_mem him)
        have hpc := h2 c (by simp)
        have hmap : (m.set (fnd c.mark a) (bump m[fnd c.mark a] c)).map (·.mark) = m.map (·.mark) := by
          rw [List.map_set]
          refine List.ext_getElem (by simp) fun j j1 j2 => ?_
          rw [List.getElem_set]
          split
          · rename_i e; subst e; simp [bump]
          · rfl
        obtain ⟨r1, r2, r3, r4⟩ := mrg_sum (a := a) (r := r) (m := m.set (fnd c.mark a) (bump m[fnd c.mark a] c)) (z := z) (by simpa using hl) (fun i hi hi2 => by
            rw [List.getElem_set]
            split
            · rename_i e; subst e; exact hk
            · exact hs i hi (by simpa using hi2)) (by rw [hmap]; exact hm) hr.2 (fun y hy => by rw [hmap]; exact hc y (by simp [hy])) (fun x hx => by
            rcases List.mem_or_eq_of_mem_set hx with h3 | rfl
            · exact h1 x h3
            · exact ⟨hp.1, by have := hp.2; have := hpc.2; show 1 ≤ _ + _; omega⟩) (fun x hx => h2 x (by simp [hx])) h
        refine ⟨r1, r2, ?_, fun d x => ?_⟩
        · rw [r3]
          unfold totL
          rw [sum_set _ him]
          simp [bump]; omega
        · rw [r4 d x, kct_sum (m.set _ _), sum_set _ him, ← kct_sum, kct_cons]
          have e1 : inC d x (bump m[fnd c.mark a] c) = inC d x m[fnd c.mark a] := rfl
          rw [e1, inC_core hcore d x]
          cases inC d x c
          · simp
          · simp [bump]; omega
    · rw [mrg_new hf] at h
      have hna := fnd_no hf
      have hnm : c.mark ∉ m.map (·.mark) := fun hh => hna (hc c (by simp) hh)
      obtain ⟨r1, r2, r3, r4⟩ := mrg_sum (a := a) (r := r) (m := m ++ [c]) (z := z) (by simp; omega) (fun i hi hi2 => by
          rw [List.getElem_append_left (by omega)]; exact hs i hi (by omega)) (by
          rw [List.map_append, List.nodup_append]
          exact ⟨hm, by simp, fun x hx y hy e => by simp at hy; subst hy; subst e; exact hnm hx⟩) hr.2 (fun y hy hh => by
          rw [List.map_append, List.mem_append] at hh
          rcases hh with hh | hh
          · exact hc y (by simp [hy]) hh
          · simp at hh
            exact absurd (List.mem_map.2 ⟨y, hy, hh⟩) hr.1) (fun x hx => by
          rcases List.mem_append.1 hx with h3 | h3
          · exact h1 x h3
          · rw [List.mem_singleton.1 h3]; exact h2 c (by simp)) (fun x hx => h2 x (by simp [hx])) h
      refine ⟨r1, r2, ?_, fun d x => ?_⟩
      · rw [r3]; unfold totL; simp; omega
      · rw [r4 d x, kct_snoc, kct_cons]; omega
theorem mark_nodup {l : List Bar} (h : validL l = true) : (l.map (·.mark)).Nodup := List.pairwise_map.2 (valid_iff.1 h).2.2
theorem tot_nrm (l : List Bar) : totL l = totL (l.map nrm) := by
  unfold totL
  rw [List.map_map]; rfl
/-- What the merged list is, when there is one. -/
theorem res_ok {a b : List Bar} (ha : validL a = true) (hb : validL b = true) (h0 : mgE a b = 0) {l : List Bar} (hl : l.map nrm = resN a b) :
    validL l = true ∧ totL l = totL a + totL b ∧ ∀ d x, kct l d x = kct a d x + kct b d x := by
  cases hz : mrg a a b with
  | none => rw [mgE_none hz] at h0; cases h0
  | some z =>
    have e : l.map nrm = z.map nrm := by rw [hl, resN, if_pos h0, hz]
    rw [mgE_some hz] at h0
    have hbig : z.any bigB = false := by
      cases hq : z.any bigB
      · rfl
      · rw [hq] at h0; cases h0
    rw [hbig] at h0
    have hlen : z.length ≤ 60 := by
      rcases Nat.lt_or_ge 60 z.length with h | h
      · rw [if_neg (by decide), if_pos h] at h0; cases h0
      · exact h
    obtain ⟨r1, r2, r3, r4⟩ := mrg_sum (a := a) (r := b) (m := a) (z := z) (Nat.le_refl _) (fun i _ _ => ⟨rfl, rfl⟩) (mark_nodup ha) (mark_nodup hb) (fun c _ h => h) (fun x hx => p1_of ((valid_all ha).2 x hx)) (fun x hx => p1_of ((valid_all hb).2 x hx)) hz
    have hzv : validL z = true := valid_iff.2 ⟨hlen, fun x hx => p1_bar (r2 x hx) (by
      have := List.any_eq_false.1 hbig x hx
      simpa using this), List.pairwise_map.1 r1⟩
    refine ⟨valid_nrm e hzv, ?_, fun d x => ?_⟩
    · rw [tot_nrm, e, ← tot_nrm, r3]
    · rw [kct_nrm, e, ← kct_nrm, r4]
theorem mgE_nil {a : List Bar} (ha : validL a = true) : mgE a [] = 0 ∧ resN a [] = a.map nrm := by
  have hm : mrg a a [] = some a := by unfold mrg; rfl
  obtain ⟨h1, h2⟩ := valid_all ha
  have hb : a.any bigB = false := List.any_eq_false.2 fun x hx => by
    have := (barB_and (h2 x hx)).2.2.2.2.2
    unfold bigB
    simp; omega
  have h0 : mgE a [] = 0 := by rw [mgE_some hm, hb, if_neg (by decide), if_neg (by omega)]
  exact ⟨h0, by rw [resN, if_pos h0, hm]⟩
end Go.Proofs.YthdafpbmmfelpaaGreatDoor
