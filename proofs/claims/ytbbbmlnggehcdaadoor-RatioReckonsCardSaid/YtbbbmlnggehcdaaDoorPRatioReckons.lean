/- RatioReckons returns true for every input and leaves its arguments as they were, with the library's tables laid as the program lays them: the row, and its tied card. No conditions. -/
import Derived.Test.YtbbbmlnggehcdaaDoorRows
import Derived.Test.YtbbbmlnggehcdaaDoorCards
import Derived.Test.YtbbbmlnggehcdaaDoorTie
import Derived.Test.YtbbbmlnggehcdaaDoorLawR
import Derived.Test.YtbbbmlnggehcdaaDoorOpn
namespace Go.Proofs.YtbbbmlnggehcdaaDoor.ratioReckons
open Go.ChangeShapes Go.WideShapes Go.ChangeAt Go.RowKit Go.Joins
set_option linter.unusedVariables false

theorem own : ownKnob Tryd.prog.godebug = none := by kernel_rfl

set_option maxRecDepth 100000 in
theorem lifted (os : Os) (started : os.Started) (H : Type) (enc : TypeId × Value → H) :
    ReturnsInHanded {} Tryd.checked os 4 .any (fun w args => (Rows.ratioReckonsSpec.pre enc Tryd.prog Tryd.f4 Rows.ratioReckonsRow.domain false w args ∧ laidMetH Tryd.prog Rows.ratioReckonsRow.laid w) ∧ sizedMet enc Tryd.prog Tryd.f4 (OpenSpec.ofChange Rows.ratioReckonsSpec) false w args)
      (Rows.ratioReckonsSpec.post enc Tryd.prog Tryd.f4 false true false false) := by
  refine returnsInHanded_of_calls (C := Tryd.checked) own started (by kernel_rfl)
    (ChangeSpec.witness_shaped (enc := enc) (C := Tryd.checked) (os := os) (X := fun w _ => laidMetH Tryd.prog Rows.ratioReckonsRow.laid w) false (World.laidAll Tryd.prog os Rows.ratioReckonsRow.laid) #[.agg #[.int .i64 0, .int .i64 0], .agg #[.int .i64 0, .int .i64 0]] 8 (World.laidAll_os _ _ _)
      (World.shaped_of_ZipB (by kernel_rfl) (by kernel_rfl)) (by kernel_rfl) (by kernel_rfl) (by kernel_rfl)
      (by rw [MakeChecks.laidMetH_plain _ _ _ (by kernel_rfl)]; exact laidMet_laidAll _ (by kernel_rfl) (by kernel_rfl))) ?_
  intro W0 tape i _ hsh _ hok hpre _
  obtain ⟨_, _, _, fn', hfn', _, _, _, _, hval0⟩ := hok
  obtain rfl : fn' = Tryd.f4 := Option.some.inj (hfn'.symm.trans Tryd.func4)
  obtain ⟨⟨⟨ds, gs, before, hW0, hcnd⟩, hx⟩, hz⟩ := hpre
  have ht0 : Tab (W0.forCall tape i).memory := tab_of_laid hx
  obtain ⟨W, hWe⟩ : ∃ W, W0.forCall tape i = W := ⟨_, rfl⟩
  have ht : Tab (W0.forCall tape i) := ht0
  have hW1 := DataW.Whole.of_heap (w' := W0.forCall tape i) (by rfl) hW0
  rw [hWe] at hsh hval0 hW1 ht ⊢
  clear hW0 hx hz ht0 hsh
  generalize i.args = args at *
  have hval : ∀ (j : Nat) t v, Tryd.f4.params[j]? = some t → args[j]? = some v → Value.okWide Tryd.prog W .any _ t v := hval0
  have hW' := hW1
  obtain ⟨p, q, hA0, hV, rfl, hfz, hnd⟩ := hW1
  have hA : DataW.TrodAll enc Tryd.prog W 0 (fun _ => true) true Tryd.f4.params.toList args.toList ds p := hA0
  rw [Tryd.params4] at hA hval
  obtain ⟨v0, v1, d0, d1, p0, p1, rfl, rfl, rfl, h0, h1⟩ := trodAll_two hA
  obtain ⟨rfl, rfl⟩ := trodVars_none hV
  obtain ⟨n0, m0, rfl, rfl, rfl, wn0, wm0⟩ := frac_open (hval 0 23 v0 rfl rfl) h0
  obtain ⟨n1, m1, rfl, rfl, rfl, wn1, wm1⟩ := frac_open (hval 1 23 v1 rfl rfl) h1
  simp only [List.append_nil] at hW'
  refine (reckons_walk n0 m0 n1 m1 W (i64_of_wf wn0) (i64_of_wf wm0) (i64_of_wf wn1) (i64_of_wf wm1) ht).mono fun e W' ⟨he, hg⟩ => ?_
  subst he
  exact ChangeSpec.post_blind (s := Rows.ratioReckonsSpec) ⟨_, _, _, [], [], [], hW', trodAll_mk1 (shut_bool Tryd.underlying4 _), (trodAll_cons_mk (frac_shut _ _ _ _ wn0 wm0) (trodAll_cons_mk (frac_shut _ _ _ _ wn1 wm1) trodAll_mk0)), rfl, hg.frame _, fun h => by cases h⟩

theorem over : Rows.RatioReckonsSaid :=
  OpenClaim.holds_of_wide 4 Tryd.f4 rfl rfl rfl rfl rfl rfl rfl ⟨rfl, rfl, rfl, rfl, rfl⟩ rfl rfl rfl rfl rfl (by kernel_rfl) Tryd.func4 (by kernel_rfl)
    (of_decide_eq_true (by kernel_rfl)) (by unfold Func.isWrapper; first | (rw [if_pos (by decide +kernel)]; kernel_rfl) | (rw [if_neg (by decide +kernel)]; exact ⟨rfl, rfl⟩))
    (fun os started H enc _ => lifted os started H enc)

theorem proved : Rows.RatioReckonsCardSaid :=
  Claim7.holds_tied_plain_at .later [] [.data, .data, .data] true (true, "e456ea12a7d3f5a005eb4f92fe5caf6cfcfb6349980641c26bbeea0d05a48255") true over (fun _ h => by cases h) (by kernel_rfl) (fun _ h => by cases h) ratioReckons_row_tie rfl ⟨rfl, rfl⟩ (by kernel_rfl) rfl
    (fun f fn hf hfn => by
      obtain rfl : f = 4 := Option.some.inj ((show Tryd.prog.funcNamed "stirrup/stirruplaw02.RatioReckons" = some 4 by kernel_rfl).symm.trans hf) |>.symm
      obtain rfl : fn = Tryd.f4 := (Option.some.inj (Tryd.func4.symm.trans hfn)).symm
      exact ⟨by kernel_rfl, fun j t ht => by
        rw [Tryd.params4] at ht
        have hm : t ∈ [23] := by have := Array.mem_of_getElem? ht; simp at this ⊢; omega
        have hall : ([23].all fun u => !Tryd.prog.wantsStandIn u) = true := by kernel_rfl
        exact (show Tryd.prog.wantsStandIn t = false by simpa using List.all_eq_true.1 hall t hm)⟩)
    (by kernel_rfl)
#print axioms proved
end Go.Proofs.YtbbbmlnggehcdaaDoor.ratioReckons
