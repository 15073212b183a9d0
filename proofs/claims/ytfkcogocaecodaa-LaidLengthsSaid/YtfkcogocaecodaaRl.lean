/- Rows of runs; copies; runs with long marks. -/
import Derived.Test.YtfkcogocaecodaaZ7
import Derived.Test.YtfkcogocaecodaaZ3
import Derived.Lib.SliceRun
import Derived.Deep.CutBlock
namespace Go.Proofs.Ytfkcogocaecodaa
open Go.ChangeShapes Go.WideShapes Go.ChangeAt Go.RowKit
set_option linter.unusedVariables false
set_option linter.unusedSimpArgs false

theorem info30 : (Try.prog.info? 30).map (fun i => (i.zero, i.size, i.bytes)) = some (some (.agg #[.string ⟨#[]⟩, .int .i64 0, .int .i64 0, .int .i64 0, .int .i64 0, .int .i64 0, .int .i64 0, .int .i64 0, .int .i64 0, .int .i64 0]), 10, 88) := by kernel_rfl
theorem fr10_at {w : World} {a : Addr} {r : Rn} (h : Fr10 w a r) : ∀ i u, (rc r)[i]? = some u → w.cell? (a.add i) = some u := by
  obtain ⟨h0, h1, h2, h3, h4, h5, h6, h7, h8, h9⟩ := h
  have ad : ∀ j, 0 < j → a.add j = (⟨a.block, a.off + j, none⟩ : Addr) := fun j hj => by rw [Addr.add.eq_1 a j, if_neg (by omega)]
  intro i u hu
  match i, hu with
  | 0, hu => simp [rc] at hu; subst hu; rw [show a.add 0 = a by simp [Addr.add]]; exact h0
  | 1, hu => simp [rc] at hu; subst hu; rw [ad 1 (by omega)]; exact h1
  | 2, hu => simp [rc] at hu; subst hu; rw [ad 2 (by omega)]; exact h2
  | 3, hu => simp [rc] at hu; subst hu; rw [ad 3 (by omega)]; exact h3
  | 4, hu => simp [rc] at hu; subst hu; rw [ad 4 (by omega)]; exact h4
  | 5, hu => simp [rc] at hu; subst hu; rw [ad 5 (by omega)]; exact h5
  | 6, hu => simp [rc] at hu; subst hu; rw [ad 6 (by omega)]; exact h6
  | 7, hu => simp [rc] at hu; subst hu; rw [ad 7 (by omega)]; exact h7
  | 8, hu => simp [rc] at hu; subst hu; rw [ad 8 (by omega)]; exact h8
  | 9, hu => simp [rc] at hu; subst hu; rw [ad 9 (by omega)]; exact h9
  | i + 10, hu => simp [rc] at hu
theorem Slr.news {w : World} {a : Addr} {l : List Rn} {cap : Nat} (h : Slr w (some a) l cap) : ∀ j u, (l.flatMap rc)[j]? = some u → w.cell? (a.add j) = some u := by
  intro j u hj
  have hl : (l.flatMap rc).length = l.length * 10 := flat_len rc 10 rcl l
  have hlt : j < l.length * 10 := by rw [← hl]; exact (List.getElem?_eq_some_iff.1 hj).1
  have hk : j / 10 < l.length := by omega
  obtain ⟨a', e, f⟩ := h.at_ (j / 10) hk
  cases e
  have e1 := flat_at rc 10 rcl l (j / 10) hk (j % 10) (Nat.mod_lt _ (by decide))
  rw [show j / 10 * 10 + j % 10 = j by omega, hj] at e1
  have := fr10_at f (j % 10) u e1.symm
  rw [add_add, show j / 10 * 10 + j % 10 = j by omega] at this
  exact this
theorem Slr.nil (w : World) : Slr w none [] 0 := ⟨Nat.le_refl _, Nat.zero_le _, fun k h => by simp at h, fun r h => by cases h⟩
/-- A list of runs of the call's own, as a list that is read. -/
theorem own_slr {B : Nat} {w : World} {v : Value} {l : List Rn} (h : Own rc 30 10 B w v l) (hk : ∀ r ∈ l, r.Ok) : ∃ p cap, v = .slice p l.length cap ∧ Slr w p l cap := by
  obtain ⟨hl, ⟨rfl, h0⟩ | ⟨g, cap, cur, rfl, hB, hg, hc, hm, hz, ht⟩⟩ := h
  · obtain rfl : l = [] := List.eq_nil_of_length_eq_zero h0
    exact ⟨none, 0, rfl, Slr.nil w⟩
  · refine ⟨some ⟨g, 0, none⟩, cap, rfl, hc, by omega, fun k hkl => ⟨_, rfl, ?_⟩, hk⟩
    have key : ∀ i u, (rc l[k])[i]? = some u → w.cell? ⟨g, k * 10 + i, none⟩ = some u := fun i u hu => by
      have hi : i < 10 := by
        rcases Nat.lt_or_ge i 10 with h | h
        · exact h
        · rw [List.getElem?_eq_none (by rw [rcl]; exact h)] at hu; cases hu
      rw [cell_of_row w g _ cur 30 (0, 0) hg]
      have e1 := flat_at rc 10 rcl l k hkl i hi
      rw [hu, ← ht, List.getElem?_take_of_lt (by omega), Array.getElem?_toList] at e1
      exact e1
    rw [Addr.add_lit, Nat.zero_add]
    exact ⟨by simpa using key 0 _ rfl, key 1 _ rfl, key 2 _ rfl, key 3 _ rfl, key 4 _ rfl, key 5 _ rfl, key 6 _ rfl, key 7 _ rfl, key 8 _ rfl, key 9 _ rfl⟩
set_option maxHeartbeats 4000000 in
set_option maxRecDepth 100000 in
theorem rclone_35 (q : Option Addr) (l : List Rn) (c : Nat) (w : World) (hO : Slr w q l c) (hl : l.length ≤ 60) :
    Calls Try.prog 35 #[.slice q l.length c] w fun e w' => ∃ v, e = .returned v ∧ Own rc 30 10 w.heap.size w' v l ∧ Below w.heap.size w w' := by
  obtain ⟨i0, hi, hz0, hz1, hz2⟩ := info_parts info30
  have q22 : ∀ (w : World) (a : Option Addr) (n c n' c' : Nat), (binOp .eql 22 (.slice a n c) (.slice none n' c')).run Try.prog w = .ok (.bool a.isNone) w := fun w a n c n' c' => Lib.run_eql_slice_nil w _ _ a n c n' c' Try.underlying22
  cases q with
  | none =>
    have e : l = [] := by
      cases l with
      | nil => rfl
      | cons x t => obtain ⟨a, e, -⟩ := hO.at_ 0 (by simp); cases e
    subst e
    go_enter Try.func35, Try.ntmps35
    go_wp2
    go_ret
    exact ⟨_, rfl, Fm.own_nil _ _ _ _ _, Below.refl _ _⟩
  | some a =>
    have hR := hO.on (al1 w (.cells #[] 30))
    have HN := Lib.hid hR.news
    have HL : Hid ((l.flatMap rc).length = l.length * 10) := Lib.hid (flat_len rc 10 rcl l)
    have H1 : ∀ u ∈ l.flatMap rc, u.oneCell' = true := by
      intro u hu
      obtain ⟨x, -, hx⟩ := List.mem_flatMap.1 hu
      unfold rc at hx
      simp only [List.mem_cons, List.not_mem_nil, or_false] at hx
      rcases hx with rfl | rfl | rfl | rfl | rfl | rfl | rfl | rfl | rfl | rfl <;> rfl
    clear hR hO
    go_enter Try.func35, Try.ntmps35
    go_wp2_with (at_builtin; refine wpList_append_own_at _ rfl _ _ 22 rfl w.heap.size 30 i0 _ 10 88 Try.underlying22 hi hz0 hz1 hz2 rfl (by decide) _ 0 [] rfl (World.ownsRow_made w #[] 0 (Nat.le_refl _) (Nat.zero_le _) rfl) a l.length c (l.flatMap rc) rfl HL.out HN.out H1 (by unfold maxLen; omega) (by omega) (by simp) ?_)
    intro v' w2 o1 o2 o3 o4
    have b2 : Below w.heap.size w w2 := ((Below.refl _ w).alloc (Nat.le_refl _) _).grown o2 (by simp) (by intro k hk; simp [Value.ownBlock] at hk; omega)
    have O1 : Own rc 30 10 w.heap.size w2 v' l := by
      unfold Own
      simpa using o1
    clear o1 o2 o3 o4
    go_wp2
    go_ret
    exact ⟨_, rfl, O1, b2⟩
theorem clo_10 (r : Rn) (w : World) : Calls Try.prog 10 #[r.val] w fun e w' => e = .returned (.bool (decide ((r.mark.size : Int) > 60))) ∧ Below w.heap.size w w' := by
  obtain ⟨m, ⟨tx, ty⟩, ⟨ax, ay, az⟩, ⟨sx, sy, sz⟩, ct⟩ := r
  rw [rvs]
  dsimp only
  have E := (Env.nil w).add w.heap.size 30 #[.string m, .int .i64 tx, .int .i64 ty, .int .i64 ax, .int .i64 ay, .int .i64 az, .int .i64 sx, .int .i64 sy, .int .i64 sz, .int .i64 ct] rfl
  have C := E.cells
  simp [BC, CF] at C
  go_enter Try.func10, Try.ntmps10
  go_wp2
  go_ret
  exact ⟨rfl, envb E⟩
def lngR (r : Rn) : Bool := decide ((r.mark.size : Int) > 60)
set_option maxHeartbeats 4000000 in
theorem idx_33 (p : Option Addr) (l : List Rn) (cap : Nat) (w : World) (hS : Slr w p l cap) :
    Calls Try.prog 33 #[.slice p l.length cap, .func (.func 10) #[] #[]] w fun e w' => ∃ i : Int, e = .returned (.int .i64 i) ∧ decide (i ≥ 0) = l.any lngR ∧ Below w.heap.size w w' := by
  have hm := hS.mx
  unfold maxLen at hm
  go_enter Try.func33, Try.ntmps33
  go_wp2
  go_loopw [8] (fun v wr => ∃ k : Nat, v = .int .i64 k ∧ k ≤ l.length ∧ Hid (∀ x ∈ l.take k, (!lngR x) = true) ∧ Below w.heap.size w wr) (fun v _ => l.length - (intOf v).toNat)
  case atStart => exact ⟨0, rfl, Nat.zero_le _, Lib.hid (by simp), Below.refl _ _⟩
  case round =>
    obtain ⟨k, rfl, hk, hG, hB⟩ := hrel
    by_cases hlt : k < l.length
    · have g1 : decide ((k : Int) < (l.length : Int)) = true := by simp [hlt]
      obtain ⟨a, rfl, h0, h1, h2, h3, h4, h5, h6, h7, h8, h9⟩ := (hS.on hB).at_ k hlt
      have W1 : IntKind.i64.wrap ((k : Int) + 1) = ((k + 1 : Nat) : Int) := by rw [IntWalk.i64_in _ (by omega)]; omega
      have hb : ∀ w, Calls Try.prog 10 #[l[k].val] w fun e w' => e = .returned (.bool (lngR l[k])) ∧ Below w.heap.size w w' := fun w => clo_10 l[k] w
      simp only [rvs] at hb
      cases hv : lngR l[k]
      · simp only [hv] at hb
        have HD := Lib.hid (all_drop (f := fun x => !lngR x) hlt hG.out (by simp [hv]))
        clear hv
        go_wp2_with (go_at_call 10; (with_reducible refine (hb _).mono ?_); rintro e1 w1 ⟨rfl, hb1⟩)
        exact ⟨⟨k + 1, rfl, hlt, HD, belows hB hb1⟩, by simp [intOf]; omega⟩
      · have e : Hid (l.any lngR = true) := Lib.hid (List.any_eq_true.2 ⟨_, List.getElem_mem hlt, hv⟩)
        simp only [hv] at hb
        clear hv
        go_wp2_with (go_at_call 10; (with_reducible refine (hb _).mono ?_); rintro e1 w1 ⟨rfl, hb1⟩)
        go_ret
        exact ⟨_, rfl, by rw [e.out]; simp, belows hB hb1⟩
    · have g1 : decide ((k : Int) < (l.length : Int)) = false := by simp; omega
      go_wp2
      go_ret
      have := hG.out
      rw [List.take_of_length_le (by omega)] at this
      have e : l.any lngR = false := List.any_eq_false.2 fun x hx => by simpa using this x hx
      exact ⟨-1, rfl, by rw [e]; rfl, hB⟩
theorem lng_9 (p : Option Addr) (l : List Rn) (cap : Nat) (w : World) (hS : Slr w p l cap) :
    Calls Try.prog 9 #[.slice p l.length cap, .func (.func 10) #[] #[]] w fun e w' => e = .returned (.bool (l.any lngR)) ∧ Below w.heap.size w w' := by
  go_enter Try.func9, Try.ntmps9
  go_wp2_with (go_at_call 33; (with_reducible refine (idx_33 p l cap _ hS).mono ?_); rintro e1 w1 ⟨i, rfl, hi, hb1⟩)
  go_ret
  exact ⟨by simp only [hi]; rfl, hb1⟩
end Go.Proofs.Ytfkcogocaecodaa
