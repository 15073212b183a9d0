/- SubsetsParts returns true for every input and leaves its arguments as they were, with the library's tables laid as the program lays them: the row, and its tied card. No conditions. -/
import Derived.Test.YtepcokgpepcccaaDoorRows
import Derived.Test.YtepcokgpepcccaaDoorCards
import Derived.Test.YtepcokgpepcccaaDoorTie
import Derived.Test.YtepcokgpepcccaaDoorZt
import Derived.Test.YtepcokgpepcccaaDoorOpn4
namespace Go.Proofs.YtepcokgpepcccaaDoor.subsetsParts
open Go.ChangeShapes Go.WideShapes Go.ChangeAt Go.RowKit Go.Joins
set_option linter.unusedVariables false
set_option linter.unusedSimpArgs false

theorem own : ownKnob Tryd.prog.godebug = none := by kernel_rfl

set_option maxRecDepth 100000 in
theorem lifted (os : Os) (started : os.Started) (H : Type) (enc : TypeId × Value → H) :
    ReturnsInHanded {} Tryd.checked os 5 .any (fun w args => (Rows.subsetsPartsSpec.pre enc Tryd.prog Tryd.f5 Rows.subsetsPartsRow.domain false w args ∧ laidMetH Tryd.prog Rows.subsetsPartsRow.laid w) ∧ sizedMet enc Tryd.prog Tryd.f5 (OpenSpec.ofChange Rows.subsetsPartsSpec) false w args)
      (Rows.subsetsPartsSpec.post enc Tryd.prog Tryd.f5 false true false false) := by
  refine returnsInHanded_of_calls (C := Tryd.checked) own started (by kernel_rfl)
    (ChangeSpec.witness_shaped (enc := enc) (C := Tryd.checked) (os := os) (X := fun w _ => laidMetH Tryd.prog Rows.subsetsPartsRow.laid w) false (World.laidAll Tryd.prog os Rows.subsetsPartsRow.laid) #[.slice none 0 0, .slice none 0 0] 8 (World.laidAll_os _ _ _)
      (World.shaped_of_ZipB (by kernel_rfl) (by kernel_rfl)) (by kernel_rfl) (by kernel_rfl) (by kernel_rfl)
      (by rw [MakeChecks.laidMetH_plain _ _ _ (by kernel_rfl)]; exact laidMet_laidAll _ (by kernel_rfl) (by kernel_rfl))) ?_
  intro W0 tape i _ hsh _ hok hpre _
  obtain ⟨_, _, _, fn', hfn', _, _, _, _, hval0⟩ := hok
  obtain rfl : fn' = Tryd.f5 := Option.some.inj (hfn'.symm.trans Tryd.func5)
  obtain ⟨⟨⟨ds, gs, before, hW0, hcnd⟩, hx⟩, hz⟩ := hpre
  have ht0 : Tab (W0.forCall tape i).memory := tab_of_laid hx
  obtain ⟨W, hWe⟩ : ∃ W, W0.forCall tape i = W := ⟨_, rfl⟩
  have ht : Tab (W0.forCall tape i) := ht0
  have hW1 := DataW.Whole.of_heap (w' := W0.forCall tape i) (by rfl) hW0
  rw [hWe] at hsh hval0 hW1 ht ⊢
  clear hW0 hx hz ht0 hsh
  generalize i.args = args at *
  have hval : ∀ (j : Nat) t v, Tryd.f5.params[j]? = some t → args[j]? = some v → Value.okWide Tryd.prog W .any _ t v := hval0
  have hW' := hW1
  obtain ⟨p, q, hA0, hV, rfl, hfz, hnd⟩ := hW1
  have hA : DataW.TrodAll enc Tryd.prog W 0 (fun _ => true) true Tryd.f5.params.toList args.toList ds p := hA0
  rw [Tryd.params5] at hA hval
  obtain ⟨v0, vs0, d0, ds0, p0, q0, hargs, rfl, rfl, h0, r0⟩ := trodAll_cons hA
  obtain ⟨v1, vs1, d1, ds1, p1, q1, rfl, rfl, rfl, h1, r1⟩ := trodAll_cons r0
  obtain ⟨rfl, rfl, rfl⟩ := trodAll_nil r1
  obtain rfl : args = #[v0, v1] := by cases args; simp_all
  obtain ⟨rfl, rfl⟩ := trodVars_none hV
  obtain ⟨s0, l0, c0, rfl, hS0⟩ := list_open (hval 0 22 v0 rfl rfl) h0
  obtain ⟨s1, l1, c1, rfl, hS1⟩ := lists_open (hval 1 39 v1 rfl rfl) h1
  clear hA0 hval0
  simp only [List.append_nil, List.nil_append] at hW'
  refine (parts_walk2 (.slice s0 l0.length c0) l0 (.slice s1 l1.length c1) l1 W hS0 hS1 ht).mono fun e W' ⟨he, hg⟩ => ?_
  subst he
  have hlt0 : ∀ x ∈ p0, x.block < W.heap.size := fun x hx => hW'.lt x (by simp [hx])
  have hS00 : DataW.Trod enc Tryd.prog W' 0 (fun b => decide (b < W.heap.size)) true 22 (.slice s0 l0.length c0) d0 p0 :=
    WideElems.Trod_stays (P := Tryd.prog) (by kernel_rfl) (by kernel_rfl) (of_decide_eq_true (by kernel_rfl)) h0 (fun x hx => Below.same hg (hlt0 x hx)) (fun x hx => by simpa using hlt0 x hx)
  have hlt1 : ∀ x ∈ p1, x.block < W.heap.size := fun x hx => hW'.lt x (by simp [hx])
  have hS01 : DataW.Trod enc Tryd.prog W' 0 (fun b => decide (b < W.heap.size)) true 39 (.slice s1 l1.length c1) d1 p1 :=
    WideElems.Trod_stays (P := Tryd.prog) (by kernel_rfl) (by kernel_rfl) (of_decide_eq_true (by kernel_rfl)) h1 (fun x hx => Below.same hg (hlt1 x hx)) (fun x hx => by simpa using hlt1 x hx)
  have hfin := (trodAll_cons_mk hS00 (trodAll_cons_mk hS01 trodAll_mk0))
  simp only [List.append_nil, List.nil_append] at hfin
  exact ChangeSpec.post_blind (s := Rows.subsetsPartsSpec) ⟨_, _, _, [], _, [], hW', trodAll_mk1 (shut_bool Tryd.underlying4 _), hfin, rfl, hg.frame _, fun h => by cases h⟩

theorem over : Rows.SubsetsPartsSaid :=
  OpenClaim.holds_of_wide 5 Tryd.f5 rfl rfl rfl rfl rfl rfl rfl ⟨rfl, rfl, rfl, rfl, rfl⟩ rfl rfl rfl rfl rfl (by kernel_rfl) Tryd.func5 (by kernel_rfl)
    (of_decide_eq_true (by kernel_rfl)) (by unfold Func.isWrapper; first | (rw [if_pos (by decide +kernel)]; kernel_rfl) | (rw [if_neg (by decide +kernel)]; exact ⟨rfl, rfl⟩))
    (fun os started H enc _ => lifted os started H enc)

theorem proved : Rows.SubsetsPartsCardSaid :=
  Claim7.holds_tied_plain_at .later [] [.data, .data] true (true, "f20365c3f217ea9aee3b3a01414d204408376f55bde659e42450108200942483") false over (fun _ h => by cases h) (by kernel_rfl) (fun _ h => by cases h) subsetsParts_row_tie rfl ⟨rfl, rfl⟩ (by kernel_rfl) rfl
    (fun f fn hf hfn => by
      obtain rfl : f = 5 := Option.some.inj ((show Tryd.prog.funcNamed "stirrup/stirruplaw06.SubsetsParts" = some 5 by kernel_rfl).symm.trans hf) |>.symm
      obtain rfl : fn = Tryd.f5 := (Option.some.inj (Tryd.func5.symm.trans hfn)).symm
      exact ⟨by kernel_rfl, fun j t ht => by
        rw [Tryd.params5] at ht
        have hm : t ∈ [22, 39] := by have := Array.mem_of_getElem? ht; simpa using this
        have hall : ([22, 39].all fun u => !Tryd.prog.wantsStandIn u) = true := by kernel_rfl
        exact (show Tryd.prog.wantsStandIn t = false by simpa using List.all_eq_true.1 hall t hm)⟩)
    (by kernel_rfl)
#print axioms proved
end Go.Proofs.YtepcokgpepcccaaDoor.subsetsParts
