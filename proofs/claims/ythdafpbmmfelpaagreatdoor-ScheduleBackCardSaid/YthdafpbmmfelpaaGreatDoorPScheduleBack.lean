/- ScheduleBack returns true for every input and leaves its arguments as they were, with the library's tables laid as the program lays them: the row, and its tied card. No conditions. -/
import Derived.Test.YthdafpbmmfelpaaGreatDoorRows
import Derived.Test.YthdafpbmmfelpaaGreatDoorCards
import Derived.Test.YthdafpbmmfelpaaGreatDoorTie
import Derived.Test.YthdafpbmmfelpaaGreatDoorZl
import Derived.Test.YthdafpbmmfelpaaGreatDoorOpl
namespace Go.Proofs.YthdafpbmmfelpaaGreatDoor.scheduleBack
open Go.ChangeShapes Go.WideShapes Go.ChangeAt Go.RowKit Go.Joins
open Go.ChangeMaps (open_string shut_string)
set_option linter.unusedVariables false
set_option linter.unusedSimpArgs false

theorem tab_of_laid {W : World} (h : laidMetH Tryz.prog Rows.scheduleBackRow.laid W) : Tab W := by
  rw [MakeChecks.laidMetH_plain _ _ _ (by kernel_rfl)] at h
  have h2 := h.filter (fun x => x.1 == "internal/strconv.uint64pow10")
  have e : (Rows.scheduleBackRow.laid.filter fun x => x.1 == "internal/strconv.uint64pow10") = [("internal/strconv.uint64pow10", Lib.tabData .u64 Lib.pow10Tab)] := by kernel_rfl
  rw [e] at h2
  exact Lib.tabIs_of_head (g := 2) (t := 204) (e := 168) (n := 20) (by kernel_rfl) (by kernel_rfl) Tryz.underlying204 Tryz.underlying168 (by kernel_rfl) (by kernel_rfl) h2
theorem frm_of_laid {W : World} (h : laidMetH Tryz.prog Rows.scheduleBackRow.laid W) : Frm W := by
  rw [MakeChecks.laidMetH_plain _ _ _ (by kernel_rfl)] at h
  have h2 := h.filter (fun x => x.1 == "stirrup/schedule.forms")
  have e : (Rows.scheduleBackRow.laid.filter fun x => x.1 == "stirrup/schedule.forms") = [("stirrup/schedule.forms", Lib.tabData .i64 [0, 1, 1, 2, 1])] := by kernel_rfl
  rw [e] at h2
  have h3 := Lib.tabIs_of_head (g := 0) (t := 120) (e := 3) (n := 5) (by kernel_rfl) (by kernel_rfl) Tryz.underlying120 Tryz.underlying3 (by kernel_rfl) (by kernel_rfl) h2
  intro i hi
  rw [Lib.TabIs.cell h3 (by kernel_rfl) i hi]
  have : i = 0 ∨ i = 1 ∨ i = 2 ∨ i = 3 ∨ i = 4 := by omega
  rcases this with rfl | rfl | rfl | rfl | rfl <;> rfl
theorem own : ownKnob Tryz.prog.godebug = none := by kernel_rfl

set_option maxRecDepth 100000 in
theorem lifted (os : Os) (started : os.Started) (H : Type) (enc : TypeId × Value → H) :
    ReturnsInHanded {} Tryz.checked os 7 .any (fun w args => (Rows.scheduleBackSpec.pre enc Tryz.prog Tryz.f7 Rows.scheduleBackRow.domain false w args ∧ laidMetH Tryz.prog Rows.scheduleBackRow.laid w) ∧ sizedMet enc Tryz.prog Tryz.f7 (OpenSpec.ofChange Rows.scheduleBackSpec) false w args)
      (Rows.scheduleBackSpec.post enc Tryz.prog Tryz.f7 false true false false) := by
  refine returnsInHanded_of_calls (C := Tryz.checked) own started (by kernel_rfl)
    (ChangeSpec.witness_shaped (enc := enc) (C := Tryz.checked) (os := os) (X := fun w _ => laidMetH Tryz.prog Rows.scheduleBackRow.laid w) false (World.laidAll Tryz.prog os Rows.scheduleBackRow.laid) #[.slice none 0 0, .string ByteArray.empty] 8 (World.laidAll_os _ _ _)
      (World.shaped_of_ZipB (by kernel_rfl) (by kernel_rfl)) (by kernel_rfl) (by kernel_rfl) (by kernel_rfl)
      (by rw [MakeChecks.laidMetH_plain _ _ _ (by kernel_rfl)]; exact laidMet_laidAll _ (by kernel_rfl) (by kernel_rfl))) ?_
  intro W0 tape i _ hsh _ hok hpre _
  obtain ⟨_, _, _, fn', hfn', _, _, _, _, hval0⟩ := hok
  obtain rfl : fn' = Tryz.f7 := Option.some.inj (hfn'.symm.trans Tryz.func7)
  obtain ⟨⟨⟨ds, gs, before, hW0, hcnd⟩, hx⟩, hz⟩ := hpre
  have ht0 : Tab (W0.forCall tape i).memory := tab_of_laid hx
  have hf0 : Frm (W0.forCall tape i).memory := frm_of_laid hx
  have hcut : Cut1 (W0.forCall tape i) := cell_of_shapedOpen_int (P := Tryz.prog) (g := 1) (t := 3) (zero := #[.int .i64 0]) hsh (of_decide_eq_true (by kernel_rfl)) (by kernel_rfl) rfl (by kernel_rfl) (by kernel_rfl) Tryz.underlying3
  obtain ⟨W, hWe⟩ : ∃ W, W0.forCall tape i = W := ⟨_, rfl⟩
  have ht : Tab (W0.forCall tape i) := ht0
  have hfr : Frm (W0.forCall tape i) := hf0
  have hW1 := DataW.Whole.of_heap (w' := W0.forCall tape i) (by rfl) hW0
  rw [hWe] at hsh hval0 hW1 ht hfr hcut ⊢
  clear hW0 hx hz ht0 hf0 hsh
  generalize i.args = args at *
  have hval : ∀ (j : Nat) t v, Tryz.f7.params[j]? = some t → args[j]? = some v → Value.okWide Tryz.prog W .any _ t v := hval0
  have hW' := hW1
  obtain ⟨p, q, hA0, hV, rfl, hfz, hnd⟩ := hW1
  have hA : DataW.TrodAll enc Tryz.prog W 0 (fun _ => true) true Tryz.f7.params.toList args.toList ds p := hA0
  rw [Tryz.params7] at hA hval
  obtain ⟨v0, vs0, d0, ds0, p0, q0, hargs, rfl, rfl, h0, r0⟩ := trodAll_cons hA
  obtain ⟨v1, vs1, d1, ds1, p1, q1, rfl, rfl, rfl, h1, r1⟩ := trodAll_cons r0
  obtain ⟨rfl, rfl, rfl⟩ := trodAll_nil r1
  obtain rfl : args = #[v0, v1] := by cases args; simp_all
  obtain ⟨rfl, rfl⟩ := trodVars_none hV
  obtain ⟨s0, l0, c0, rfl, hS0⟩ := list_open (hval 0 22 v0 rfl rfl) h0
  obtain ⟨s1, rfl, rfl, rfl, ws1⟩ := open_string Tryz.underlying9 (hval 1 9 v1 rfl rfl) h1
  clear hA0 hval0
  simp only [List.append_nil, List.nil_append] at hW'
  refine (back_walk s0 l0 c0 s1 W hS0 ws1 ht hcut hfr).mono fun e W' ⟨he, hg⟩ => ?_
  subst he
  have hlt0 : ∀ x ∈ p0, x.block < W.heap.size := fun x hx => hW'.lt x (by simp [hx])
  have hS00 : DataW.Trod enc Tryz.prog W' 0 (fun b => decide (b < W.heap.size)) true 22 (.slice s0 l0.length c0) d0 p0 :=
    WideElems.Trod_stays (P := Tryz.prog) (by kernel_rfl) (by kernel_rfl) (of_decide_eq_true (by kernel_rfl)) h0 (fun x hx => Below.same hg (hlt0 x hx)) (fun x hx => by simpa using hlt0 x hx)
  have hfin := (trodAll_cons_mk hS00 (trodAll_cons_mk (shut_string Tryz.underlying9 ws1) trodAll_mk0))
  simp only [List.append_nil, List.nil_append] at hfin
  exact ChangeSpec.post_blind (s := Rows.scheduleBackSpec) ⟨_, _, _, [], _, [], hW', trodAll_mk1 (shut_bool Tryz.underlying4 _), hfin, rfl, hg.frame _, fun h => by cases h⟩

theorem over : Rows.ScheduleBackSaid :=
  OpenClaim.holds_of_wide 7 Tryz.f7 rfl rfl rfl rfl rfl rfl rfl ⟨rfl, rfl, rfl, rfl, rfl⟩ rfl rfl rfl rfl rfl (by kernel_rfl) Tryz.func7 (by kernel_rfl)
    (of_decide_eq_true (by kernel_rfl)) (by unfold Func.isWrapper; first | (rw [if_pos (by decide +kernel)]; kernel_rfl) | (rw [if_neg (by decide +kernel)]; exact ⟨rfl, rfl⟩))
    (fun os started H enc _ => lifted os started H enc)

theorem proved : Rows.ScheduleBackCardSaid :=
  Claim7.holds_tied_plain_at .later [] [.data, .data, .data, .data, .data, .pinned] true (true, "cae16ce673c09ba9b58b92bc89e9c4659b4ad10cd30ccdc566fe0f98c8d676c0") false over (fun _ h => by cases h) (by kernel_rfl) (fun _ h => by cases h) scheduleBack_row_tie rfl ⟨rfl, rfl⟩ (by kernel_rfl) rfl
    (fun f fn hf hfn => by
      obtain rfl : f = 7 := Option.some.inj ((show Tryz.prog.funcNamed "stirrup/stirruplaw14.ScheduleBack" = some 7 by kernel_rfl).symm.trans hf) |>.symm
      obtain rfl : fn = Tryz.f7 := (Option.some.inj (Tryz.func7.symm.trans hfn)).symm
      exact ⟨by kernel_rfl, fun j t ht => by
        rw [Tryz.params7] at ht
        have hm : t ∈ [22, 9] := by have := Array.mem_of_getElem? ht; simpa using this
        have hall : ([22, 9].all fun u => !Tryz.prog.wantsStandIn u) = true := by kernel_rfl
        exact (show Tryz.prog.wantsStandIn t = false by simpa using List.all_eq_true.1 hall t hm)⟩)
    (by kernel_rfl)
#print axioms proved
end Go.Proofs.YthdafpbmmfelpaaGreatDoor.scheduleBack
