/- slices.Clone of bars. -/
import Derived.Test.YthdafpbmmfelpaaGreatDoorBl
import Derived.Test.YthdafpbmmfelpaaGreatDoorCz
import Derived.Test.YthdafpbmmfelpaaGreatDoorPa
namespace Go.Proofs.YthdafpbmmfelpaaGreatDoor
open Go.ChangeShapes Go.WideShapes Go.ChangeAt Go.RowKit
set_option linter.unusedVariables false
set_option linter.unusedSimpArgs false

def bc (b : Bar) : List Value := [.string b.mark, .int .i64 b.size, .int .i64 b.count, .int .i64 b.code, .slice b.p b.ds.length b.cap]
theorem bcl (b : Bar) : (bc b).length = 5 := rfl
theorem bc_cs (b : Bar) : bc b = b.cs.toList := rfl
theorem info60 : (Tryz.prog.info? 60).map (fun i => (i.zero, i.size, i.bytes)) = some (some (.agg #[.string ⟨#[]⟩, .int .i64 0, .int .i64 0, .int .i64 0, .slice none 0 0]), 5, 64) := by kernel_rfl
theorem fr5_at {w : World} {a : Addr} {b : Bar} (h : Fr5 w a b) : ∀ i u, (bc b)[i]? = some u → w.cell? (a.add i) = some u := by
  obtain ⟨h0, h1, h2, h3, h4⟩ := h
  have ad : ∀ j, 0 < j → a.add j = (⟨a.block, a.off + j, none⟩ : Addr) := fun j hj => by rw [Addr.add.eq_1 a j, if_neg (by omega)]
  intro i u hu
  match i, hu with
  | 0, hu => simp [bc] at hu; subst hu; rw [show a.add 0 = a by simp [Addr.add]]; exact h0
  | 1, hu => simp [bc] at hu; subst hu; rw [ad 1 (by omega)]; exact h1
  | 2, hu => simp [bc] at hu; subst hu; rw [ad 2 (by omega)]; exact h2
  | 3, hu => simp [bc] at hu; subst hu; rw [ad 3 (by omega)]; exact h3
  | 4, hu => simp [bc] at hu; subst hu; rw [ad 4 (by omega)]; exact h4
  | i + 5, hu => simp [bc] at hu
theorem add_add (a : Addr) (i j : Nat) : (a.add i).add j = a.add (i + j) := by
  rcases Nat.eq_zero_or_pos i with rfl | hi
  · rw [show a.add 0 = a by simp [Addr.add], Nat.zero_add]
  · rcases Nat.eq_zero_or_pos j with rfl | hj
    · rw [Nat.add_zero, show (a.add i).add 0 = a.add i by simp [Addr.add]]
    · rw [Addr.add.eq_1 (a.add i) j, if_neg (by omega), Addr.add.eq_1 a i, if_neg (by omega), Addr.add.eq_1 a (i + j), if_neg (by omega)]
      simp [Nat.add_assoc]
/-- What a list of bars shows, cell by cell. -/
theorem Slb.news {w : World} {a : Addr} {l : List Bar} {cap : Nat} (h : Slb w (some a) l cap) : ∀ j u, (l.flatMap bc)[j]? = some u → w.cell? (a.add j) = some u := by
  intro j u hj
  have hl : (l.flatMap bc).length = l.length * 5 := flat_len bc 5 bcl l
  have hlt : j < l.length * 5 := by rw [← hl]; exact (List.getElem?_eq_some_iff.1 hj).1
  have hk : j / 5 < l.length := by omega
  obtain ⟨a', e, f⟩ := h.at_ (j / 5) hk
  cases e
  have e1 := flat_at bc 5 bcl l (j / 5) hk (j % 5) (Nat.mod_lt _ (by decide))
  rw [show j / 5 * 5 + j % 5 = j by omega, hj] at e1
  have := fr5_at f (j % 5) u e1.symm
  rw [add_add, show j / 5 * 5 + j % 5 = j by omega] at this
  exact this
/-- A list of bars of the call's own, as a list that is read. -/
theorem Own.slb {B : Nat} {w : World} {v : Value} {l : List Bar} (h : Own bc 60 5 B w v l) (hk : ∀ b ∈ l, b.Ok w) : ∃ p cap, v = .slice p l.length cap ∧ Slb w p l cap := by
  obtain ⟨hl, ⟨rfl, h0⟩ | ⟨g, cap, cur, rfl, hB, hg, hc, hm, hz, ht⟩⟩ := h
  · obtain rfl : l = [] := List.eq_nil_of_length_eq_zero h0
    exact ⟨none, 0, rfl, Slb.nil w⟩
  · refine ⟨some ⟨g, 0, none⟩, cap, rfl, hc, by omega, fun k hkl => ⟨_, rfl, ?_⟩, hk⟩
    have key : ∀ i u, (bc l[k])[i]? = some u → w.cell? ⟨g, k * 5 + i, none⟩ = some u := fun i u hu => by
      have hi : i < 5 := by
        rcases Nat.lt_or_ge i 5 with h | h
        · exact h
        · rw [List.getElem?_eq_none (by rw [bcl]; exact h)] at hu; cases hu
      rw [cell_of_row w g _ cur 60 (0, 0) hg]
      have e1 := flat_at bc 5 bcl l k hkl i hi
      rw [hu, ← ht, List.getElem?_take_of_lt (by omega), Array.getElem?_toList] at e1
      exact e1
    rw [Addr.add_lit, Nat.zero_add]
    exact ⟨by simpa using key 0 _ rfl, key 1 _ rfl, key 2 _ rfl, key 3 _ rfl, key 4 _ rfl⟩
set_option maxHeartbeats 4000000 in
set_option maxRecDepth 100000 in
theorem bclone_any (q : Option Addr) (l : List Bar) (c : Nat) (w : World) (hO : Slb w q l c) (hl : l.length ≤ 60) :
    Calls Tryz.prog 57 #[.slice q l.length c] w fun e w' => ∃ v, e = .returned v ∧ Own bc 60 5 w.heap.size w' v l ∧ Below w.heap.size w w' := by
  obtain ⟨i0, hi, hz0, hz1, hz2⟩ := info_parts info60
  have q22 : ∀ (w : World) (a : Option Addr) (n c n' c' : Nat), (binOp .eql 22 (.slice a n c) (.slice none n' c')).run Tryz.prog w = .ok (.bool a.isNone) w := fun w a n c n' c' => Lib.run_eql_slice_nil w _ _ a n c n' c' Tryz.underlying22
  cases q with
  | none =>
    have e : l = [] := by
      cases l with
      | nil => rfl
      | cons x t => obtain ⟨a, e, -⟩ := hO.at_ 0 (by simp); cases e
    subst e
    go_enter Tryz.func57, Tryz.ntmps57
    go_wp2
    go_ret
    exact ⟨_, rfl, ⟨rfl, .inl ⟨rfl, rfl⟩⟩, Below.refl _ _⟩
  | some a =>
    have hR := hO.on (al1 w (.cells #[] 60))
    have HN := Lib.hid hR.news
    have HL : Hid ((l.flatMap bc).length = l.length * 5) := Lib.hid (flat_len bc 5 bcl l)
    have H1 : ∀ u ∈ l.flatMap bc, u.oneCell' = true := by
      intro u hu
      obtain ⟨x, -, hx⟩ := List.mem_flatMap.1 hu
      unfold bc at hx
      simp only [List.mem_cons, List.not_mem_nil, or_false] at hx
      rcases hx with rfl | rfl | rfl | rfl | rfl <;> rfl
    clear hR hO
    go_enter Tryz.func57, Tryz.ntmps57
    go_wp2_with (at_builtin; refine wpList_append_own_at _ rfl _ _ 22 rfl w.heap.size 60 i0 _ 5 64 Tryz.underlying22 hi hz0 hz1 hz2 rfl (by decide) _ 0 [] rfl (World.ownsRow_made w #[] 0 (Nat.le_refl _) (Nat.zero_le _) rfl) a l.length c (l.flatMap bc) rfl HL.out HN.out H1 (by unfold maxLen; omega) (by omega) (by simp) ?_)
    intro v' w2 o1 o2 o3 o4
    have b2 : Below w.heap.size w w2 := ((Below.refl _ w).alloc (Nat.le_refl _) _).grown o2 (by simp) (by intro k hk; simp [Value.ownBlock] at hk; omega)
    have O1 : Own bc 60 5 w.heap.size w2 v' l := by
      unfold Own
      simpa using o1
    clear o1 o2 o3 o4
    go_wp2
    go_ret
    exact ⟨_, rfl, O1, b2⟩
end Go.Proofs.YthdafpbmmfelpaaGreatDoor
