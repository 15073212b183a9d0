/- ScheduleMerges. -/
import Derived.Test.YthdafpbmmfelpaaGreatDoorAx
import Derived.Test.YthdafpbmmfelpaaGreatDoorFw
import Derived.Test.YthdafpbmmfelpaaGreatDoorRe
namespace Go.Proofs.YthdafpbmmfelpaaGreatDoor
open Go.ChangeShapes Go.WideShapes Go.ChangeAt Go.RowKit
set_option linter.unusedVariables false
set_option linter.unusedSimpArgs false

theorem mrg_all {a : List Bar} (P : Bar → Prop) (hP : ∀ x c, P x → P (bump x c)) : ∀ {r m z : List Bar}, (∀ x ∈ m, P x) → (∀ x ∈ r, P x) → a.length ≤ m.length → mrg a m r = some z → ∀ x ∈ z, P x
  | [], m, z, hm, hr, hl, h => by
    unfold mrg at h
    cases h
    exact hm
  | c :: r, m, z, hm, hr, hl, h => by
    by_cases hf : fnd c.mark a < a.length
    · have him : fnd c.mark a < m.length := by omega
      cases hs : smB a[fnd c.mark a] c
      · rw [mrg_no hf hs] at h; cases h
      · rw [mrg_old hf him hs] at h
        refine mrg_all P hP (fun x hx => ?_) (fun x hx => hr x (by simp [hx])) (by rw [List.length_set]; exact hl) h
        rcases List.mem_or_eq_of_mem_set hx with h1 | rfl
        · exact hm x h1
        · exact hP _ _ (hm _ (List.getElem_mem him))
    · rw [mrg_new hf] at h
      refine mrg_all P hP (fun x hx => ?_) (fun x hx => hr x (by simp [hx])) (by simp; omega) h
      rcases List.mem_append.1 hx with h1 | h1
      · exact hm x h1
      · rw [List.mem_singleton.1 h1]; exact hr c (by simp)
/-- What Merge gives, without places. -/
def resN (a b : List Bar) : List Bar := if mgE a b = 0 then (match mrg a a b with | some m => m.map nrm | none => []) else []
theorem mg_shape {a b : List Bar} {v : Value} {W : World} (h1 : mgE a b ≠ 0 → v = .slice none 0 0) (h2 : ∀ m, mrg a a b = some m → mgE a b = 0 → ∃ p' l c', v = .slice p' l.length c' ∧ Slb W p' l c' ∧ l.map nrm = m.map nrm) :
    ∃ p' l c', v = .slice p' l.length c' ∧ Slb W p' l c' ∧ l.map nrm = resN a b := by
  by_cases h0 : mgE a b = 0
  · cases hm : mrg a a b with
    | none => rw [mgE_none hm] at h0; cases h0
    | some m =>
      obtain ⟨p', l, c', e1, e2, e3⟩ := h2 m hm h0
      exact ⟨p', l, c', e1, e2, by rw [e3, resN, if_pos h0, hm]⟩
  · exact ⟨none, [], 0, h1 h0, Slb.nil W, by rw [resN, if_neg h0]; rfl⟩
theorem resN_ds {a b : List Bar} (ha : ∀ x ∈ a, barB x = true) (hb : ∀ x ∈ b, barB x = true) {l : List Bar} (h : l.map nrm = resN a b) : ∀ x ∈ l, x.ds.length ≤ 1000 := by
  intro x hx
  have h1 : nrm x ∈ l.map nrm := List.mem_map_of_mem hx
  rw [h] at h1
  unfold resN at h1
  split at h1
  · cases hm : mrg a a b with
    | none => rw [hm] at h1; cases h1
    | some m =>
      rw [hm] at h1
      obtain ⟨y, hy, e⟩ := List.mem_map.1 h1
      have h5 : ∀ z : Bar, barB z = true → z.ds.length ≤ 1000 := fun z hz => by
        obtain ⟨-, h, -⟩ := barB_and hz
        rw [h]
        have := ndim_le z.code
        omega
      have := mrg_all (fun z => z.ds.length ≤ 1000) (fun z c hz => hz) (fun z hz => h5 z (ha z hz)) (fun z hz => h5 z (hb z hz)) (Nat.le_refl _) hm y hy
      have e2 : y.ds = x.ds := by
        unfold nrm at e
        injection e
      rw [← e2]; exact this
  · cases h1
set_option maxHeartbeats 8000000 in
set_option maxRecDepth 100000 in
theorem merges_walk (p : Option Addr) (a : List Bar) (cp : Nat) (q : Option Addr) (b : List Bar) (cq : Nat) (w : World) (hA : Slb w p a cp) (hB : Slb w q b cq) (hT : Tab w) :
    Calls Tryz.prog 6 #[.slice p a.length cp, .slice q b.length cq] w fun e w' => e = .returned (.bool true) ∧ Below w.heap.size w w' := by
  have few1 := few_two p q a b cp cq
  have h14a := fun W (h : Below w.heap.size w W) => rValid_list p a cp W (hA.on h)
  have h14b := fun W (h : Below w.heap.size w W) => rValid_list q b cq W (hB.on h)
  cases hs : (smallL a && smallL b)
  · rw [hs] at few1
    go_enter Tryz.func6, Tryz.ntmps6
    go_wp2_with (first
      | (go_at_call 10; (with_reducible refine (awake_any _ hT).mono ?_); rintro X w1 ⟨rfl, hb1⟩; have h11 := few1 w1 (hA.on hb1) (hB.on hb1))
      | (go_at_call 11; (with_reducible refine h11.mono ?_); rintro X w2 ⟨rfl, rfl⟩; have B2 := al hb1 (.cells #[.slice p a.length cp, .slice q b.length cq] 22)))
    go_ret
    exact ⟨rfl, B2⟩
  rw [hs] at few1
  cases hva : validL a
  · have h27 := fun W (h : Below w.heap.size w W) => Merge_arg p q a b cp cq W (hA.on h) (hB.on h) (.inl hva)
    rw [hva] at h14a
    clear hva hs
    go_enter Tryz.func6, Tryz.ntmps6
    go_wp2_with (first
      | (go_at_call 10; (with_reducible refine (awake_any _ hT).mono ?_); rintro X w1 ⟨rfl, hb1⟩; have h11 := few1 w1 (hA.on hb1) (hB.on hb1))
      | (go_at_call 11; (with_reducible refine h11.mono ?_); rintro X w2 ⟨rfl, rfl⟩; have B2 := al hb1 (.cells #[.slice p a.length cp, .slice q b.length cq] 22))
      | (go_at_call 27; (with_reducible refine (h27 _ B2).mono ?_); rintro X w3 ⟨rfl, hb⟩; have B3 := belows B2 hb; clear hb)
      | (go_at_call 14; (with_reducible refine (h14a _ B3).mono ?_); rintro X w4 ⟨rfl, hb⟩; have B4 := belows B3 hb; clear hb))
    go_ret
    exact ⟨rfl, B4⟩
  cases hvb : validL b
  · have h27 := fun W (h : Below w.heap.size w W) => Merge_arg p q a b cp cq W (hA.on h) (hB.on h) (.inr hvb)
    rw [hva] at h14a
    rw [hvb] at h14b
    clear hva hvb hs
    go_enter Tryz.func6, Tryz.ntmps6
    go_wp2_with (first
      | (go_at_call 10; (with_reducible refine (awake_any _ hT).mono ?_); rintro X w1 ⟨rfl, hb1⟩; have h11 := few1 w1 (hA.on hb1) (hB.on hb1))
      | (go_at_call 11; (with_reducible refine h11.mono ?_); rintro X w2 ⟨rfl, rfl⟩; have B2 := al hb1 (.cells #[.slice p a.length cp, .slice q b.length cq] 22))
      | (go_at_call 27; (with_reducible refine (h27 _ B2).mono ?_); rintro X w3 ⟨rfl, hb⟩; have B3 := belows B2 hb; clear hb)
      | (go_at_call 14; (with_reducible refine (h14a _ B3).mono ?_); rintro X w4 ⟨rfl, hb⟩; have B4 := belows B3 hb; clear hb)
      | (go_at_call 14; (with_reducible refine (h14b _ B4).mono ?_); rintro X w5 ⟨rfl, hb⟩; have B5 := belows B4 hb; clear hb))
    go_ret
    exact ⟨rfl, B5⟩
  have h27 := fun W (h : Below w.heap.size w W) => Merge_ok p q a b cp cq W (hA.on h) (hB.on h) hva hvb
  have h28 := fun W (h : Below w.heap.size w W) => rMerge_any p q a b cp cq W (hA.on h) (hB.on h) hva hvb
  have HDs := Lib.hid (fun l h => resN_ds (valid_all hva).2 (valid_all hvb).2 (l := l) h)
  rw [hva] at h14a
  rw [hvb] at h14b
  clear hva hvb hs
  go_enter Tryz.func6, Tryz.ntmps6
  go_wp2_with (first
    | (go_at_call 10; (with_reducible refine (awake_any _ hT).mono ?_); rintro X w1 ⟨rfl, hb1⟩; have h11 := few1 w1 (hA.on hb1) (hB.on hb1))
    | (go_at_call 11; (with_reducible refine h11.mono ?_); rintro X w2 ⟨rfl, rfl⟩; have B2 := al hb1 (.cells #[.slice p a.length cp, .slice q b.length cq] 22))
    | (go_at_call 27; (with_reducible refine (h27 _ B2).mono ?_); rintro X w3 ⟨v3, rfl, k1, k2, hb⟩; have B3 := belows B2 hb; obtain ⟨pM, lM, cM, rfl, hM, hN⟩ := mg_shape k1 k2; clear hb k1 k2)
    | (go_at_call 14; (with_reducible refine (h14a _ B3).mono ?_); rintro X w4 ⟨rfl, hb⟩; have B4 := belows B3 hb; have hM4 := hM.on hb; clear hb)
    | (go_at_call 14; (with_reducible refine (h14b _ B4).mono ?_); rintro X w5 ⟨rfl, hb⟩; have B5 := belows B4 hb; have hM5 := hM4.on hb; clear hb)
    | (go_at_call 28; (with_reducible refine (h28 _ B5).mono ?_); rintro X w6 ⟨v6, rfl, k1, k2, hb⟩; have B6 := belows B5 hb; obtain ⟨pR, lR, cR, rfl, hR, hNR⟩ := mg_shape k1 k2; have h22 := rSame_list pM pR lM lR cM cR w6 (hM5.on hb) hR (HDs.out lM hN); clear hb k1 k2)
    | (go_at_call 22; (with_reducible refine h22.mono ?_); rintro X w7 ⟨R, rfl, hRR, hb⟩; obtain rfl : R = true := hRR.2 (by rw [hN, hNR]); have B7 := belows B6 hb; clear hb hRR))
  go_ret
  exact ⟨by simp, B7⟩
end Go.Proofs.YthdafpbmmfelpaaGreatDoor
