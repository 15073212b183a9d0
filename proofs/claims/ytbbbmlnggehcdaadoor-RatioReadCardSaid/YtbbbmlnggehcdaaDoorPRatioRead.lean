/- RatioRead returns true for every input and leaves its arguments as they were, with the library's tables laid as the program lays them: the row, and its tied card. No conditions. -/
import Derived.Test.YtbbbmlnggehcdaaDoorRows
import Derived.Test.YtbbbmlnggehcdaaDoorCards
import Derived.Test.YtbbbmlnggehcdaaDoorTie
import Derived.Test.YtbbbmlnggehcdaaDoorZe
import Derived.Test.YtbbbmlnggehcdaaDoorZo
import Derived.ShutString
import Derived.WideKeyArgs
import Derived.LaidLaws
import Derived.Stop.ErrReads
import Derived.ChangeMaps5
import Derived.Test.YtbbbmlnggehcdaaDoorOpn
namespace Go.Proofs.YtbbbmlnggehcdaaDoor.ratioRead
open Go.ChangeShapes Go.WideShapes Go.ChangeAt Go.RowKit Go.Joins
open Go.ChangeMaps (open_string shut_string)
set_option linter.unusedVariables false


/-- What the listed variables give. -/
def VarsL (W : World) : Prop := Tab W ∧ (∃ ev, W.cell? ⟨3, 0, none⟩ = some ev ∧ (ev = .nilIface ∨ ∃ te pe, ev = .iface te pe)) ∧ (∃ ev, W.cell? ⟨4, 0, none⟩ = some ev ∧ (ev = .nilIface ∨ ∃ te pe, ev = .iface te pe))
theorem star : "*" ++ "errors.errorString" = "*errors.errorString" := by decide
theorem row134 (u : TypeId) (h : Tryd.prog.typeName? 3 u = some "*errors.errorString") : u = 134 :=
  typeName_ptr_named (nm := "errors.errorString") (by rw [star]; kernel_rfl) (by kernel_rfl) (by decide) u (by rw [star]; exact h)
theorem err_cell {W : World} {n : String} {g : Nat} {text : List UInt8} (h : laidMet Tryd.prog [(n, DataW.iface "*errors.errorString" (DataW.agg [DataW.lit (Lit.string text)]).ptr)] W) (hg : Tryd.prog.globalNamed n = some g)
    (ht : (Tryd.prog.globals[g]?).map (fun x => x.type) = some 82) : ∃ ev, W.cell? ⟨g, 0, none⟩ = some ev ∧ (ev = .nilIface ∨ ∃ te pe, ev = .iface te pe) := by
  obtain ⟨a, s, hv, -⟩ := laid_sentinel h hg ht Tryd.underlying82 row134 Tryd.underlying134 Tryd.underlying136 rfl rfl Tryd.underlying9 (by kernel_rfl) (by kernel_rfl)
  exact ⟨_, World.var?_cell hg hv 0, .inr ⟨_, _, rfl⟩⟩
theorem vars_of_laid {W : World} (h : laidMetH Tryd.prog Rows.ratioReadRow.laid W) : VarsL W := by
  rw [MakeChecks.laidMetH_plain _ _ _ (by kernel_rfl)] at h
  have h2 := h.filter (fun x => x.1 == "internal/strconv.uint64pow10")
  have e : (Rows.ratioReadRow.laid.filter fun x => x.1 == "internal/strconv.uint64pow10") = [("internal/strconv.uint64pow10", Lib.tabData .u64 Lib.pow10Tab)] := by kernel_rfl
  rw [e] at h2
  refine ⟨Lib.tabIs_of_head (g := 5) (t := 124) (e := 56) (n := 20) (by kernel_rfl) (by kernel_rfl) Tryd.underlying124 Tryd.underlying56 (by kernel_rfl) (by kernel_rfl) h2, ?_, ?_⟩
  · have h3 := h.filter (fun x => x.1 == "strconv.ErrSyntax")
    have e3 : (Rows.ratioReadRow.laid.filter fun x => x.1 == "strconv.ErrSyntax") = [("strconv.ErrSyntax", Rows.laid_strconv_ErrSyntax)] := by kernel_rfl
    rw [e3] at h3
    exact err_cell h3 (by kernel_rfl) (by kernel_rfl)
  · have h3 := h.filter (fun x => x.1 == "strconv.ErrRange")
    have e3 : (Rows.ratioReadRow.laid.filter fun x => x.1 == "strconv.ErrRange") = [("strconv.ErrRange", Rows.laid_strconv_ErrRange)] := by kernel_rfl
    rw [e3] at h3
    exact err_cell h3 (by kernel_rfl) (by kernel_rfl)

theorem slice_cap {H : Type} {enc : TypeId × Value → H} {w : World} {p : Option Addr} {n cap : Nat} {d : DataW H} {ps : List MemPlace} (h : DataW.Trod enc Tryd.prog w 0 (fun _ => true) true 41 (.slice p n cap) d ps) : n ≤ cap := by
  obtain ⟨fuel, hf⟩ := h
  simp only [Value.cells] at hf
  rcases open_slice_fields Tryd.underlying41 Tryd.underlying23 (by kernel_rfl) cells23 hf with ⟨hc, -⟩ | ⟨a', len, cap', m, D, Pl, hc, -, hl, -⟩
  · simp at hc; omega
  · simp at hc; omega

theorem own : ownKnob Tryd.prog.godebug = none := by kernel_rfl

set_option maxRecDepth 100000 in
theorem lifted (os : Os) (started : os.Started) (H : Type) (enc : TypeId × Value → H) :
    ReturnsInHanded {} Tryd.checked os 10 .any (fun w args => (Rows.ratioReadSpec.pre enc Tryd.prog Tryd.f10 Rows.ratioReadRow.domain false w args ∧ laidMetH Tryd.prog Rows.ratioReadRow.laid w) ∧ sizedMet enc Tryd.prog Tryd.f10 (OpenSpec.ofChange Rows.ratioReadSpec) false w args)
      (Rows.ratioReadSpec.post enc Tryd.prog Tryd.f10 false true false false) := by
  refine returnsInHanded_of_calls (C := Tryd.checked) own started (by kernel_rfl)
    (ChangeSpec.witness_shaped (enc := enc) (C := Tryd.checked) (os := os) (X := fun w _ => laidMetH Tryd.prog Rows.ratioReadRow.laid w) false (World.laidAll Tryd.prog os Rows.ratioReadRow.laid) #[.agg #[.int .i64 0, .int .i64 0], .string ByteArray.empty, .slice none 0 0, .int .u8 0] 8 (World.laidAll_os _ _ _)
      (World.shaped_of_ZipB (by kernel_rfl) (by kernel_rfl)) (by kernel_rfl) (by kernel_rfl) (by kernel_rfl)
      (by rw [MakeChecks.laidMetH_plain _ _ _ (by kernel_rfl)]; exact laidMet_laidAll _ (by kernel_rfl) (by kernel_rfl))) ?_
  intro W0 tape i _ hsh _ hok hpre _
  obtain ⟨_, _, _, fn', hfn', _, _, _, _, hval0⟩ := hok
  obtain rfl : fn' = Tryd.f10 := Option.some.inj (hfn'.symm.trans Tryd.func10)
  obtain ⟨⟨⟨ds, gs, before, hW0, hcnd⟩, hx⟩, hz⟩ := hpre
  have hv0 : VarsL (W0.forCall tape i).memory := vars_of_laid hx
  obtain ⟨W, hWe⟩ : ∃ W, W0.forCall tape i = W := ⟨_, rfl⟩
  have hv1 : VarsL (W0.forCall tape i) := hv0
  have hW1 := DataW.Whole.of_heap (w' := W0.forCall tape i) (by rfl) hW0
  rw [hWe] at hsh hval0 hW1 hv1 ⊢
  clear hW0 hx hz hv0
  generalize i.args = args at *
  have hcell : ∃ m, W.cell? ⟨2, 0, none⟩ = some (.int .i64 m) := cell_of_shapedOpen_int (zero := #[.int .i64 0]) (t := 3) hsh (of_decide_eq_true (by kernel_rfl)) (by kernel_rfl) rfl (by kernel_rfl) (by kernel_rfl) Tryd.underlying3
  have hVs : Vars W := ⟨hv1.1, hcell, hv1.2.1, hv1.2.2⟩
  have hval : ∀ (j : Nat) t v, Tryd.f10.params[j]? = some t → args[j]? = some v → Value.okWide Tryd.prog W .any _ t v := hval0
  have hW' := hW1
  obtain ⟨p, q, hA0, hV, rfl, hfz, hnd⟩ := hW1
  have hA : DataW.TrodAll enc Tryd.prog W 0 (fun _ => true) true Tryd.f10.params.toList args.toList ds p := hA0
  rw [Tryd.params10] at hA hval
  obtain ⟨v0, v1, v2, v3, d0, d1, d2, d3, p0, p1, p2, p3, rfl, rfl, rfl, h0, h1, h2, h3⟩ := trodAll_four hA
  obtain ⟨rfl, rfl⟩ := trodVars_none hV
  obtain ⟨n1, m1, rfl, rfl, rfl, wn1, wm1⟩ := frac_open (hval 0 23 v0 rfl rfl) h0
  obtain ⟨a2, rfl, rfl, rfl, w2⟩ := open_string Tryd.underlying9 (hval 1 9 v1 rfl rfl) h1
  obtain ⟨pp, l, cap, rfl, hSl⟩ := slice_open (hval 2 41 v2 rfl rfl) h2
  have hcap := slice_cap h2
  obtain ⟨n3, rfl, rfl, rfl, wn3⟩ := open_int Tryd.underlying5 (hval 3 5 v3 rfl rfl) h3
  obtain ⟨c, rfl, hc⟩ : ∃ c : Nat, n3 = (c : Int) ∧ c < 256 := by
    simp [Lit.wf, IntKind.min, IntKind.max, IntKind.bits, IntKind.signed] at wn3
    exact ⟨n3.toNat, by omega, by omega⟩
  simp only [List.append_nil, List.nil_append] at hW'
  refine (read_walk pp l cap c n1 m1 a2 W hVs hSl hcap hc (i64_of_wf wn1) (i64_of_wf wm1)).mono fun e W' ⟨he, hg⟩ => ?_
  subst he
  have hlt : ∀ x ∈ p2, x.block < W.heap.size := fun x hx => hW'.lt x (by simpa using hx)
  have hS0 : DataW.Trod enc Tryd.prog W' 0 (fun b => decide (b < W.heap.size)) true 41 (.slice pp l.length cap) d2 p2 :=
    WideElems.Trod_stays (P := Tryd.prog) (by kernel_rfl) (by kernel_rfl) (of_decide_eq_true (by kernel_rfl)) h2 (fun x hx => Below.same hg (hlt x hx)) (fun x hx => by simpa using hlt x hx)
  have hfin := (trodAll_cons_mk (frac_shut W' 0 (fun b => decide (b < W.heap.size)) true wn1 wm1) (trodAll_cons_mk (shut_string Tryd.underlying9 w2) (trodAll_cons_mk hS0 (trodAll_cons_mk (shut_int Tryd.underlying5 wn3) trodAll_mk0))))
  simp only [List.append_nil, List.nil_append] at hfin
  exact ChangeSpec.post_blind (s := Rows.ratioReadSpec) ⟨_, _, _, [], _, [], hW', trodAll_mk1 (shut_bool Tryd.underlying4 _), hfin, rfl, hg.frame _, fun h => by cases h⟩

theorem over : Rows.RatioReadSaid :=
  OpenClaim.holds_of_wide 10 Tryd.f10 rfl rfl rfl rfl rfl rfl rfl ⟨rfl, rfl, rfl, rfl, rfl⟩ rfl rfl rfl rfl rfl (by kernel_rfl) Tryd.func10 (by kernel_rfl)
    (of_decide_eq_true (by kernel_rfl)) (by unfold Func.isWrapper; first | (rw [if_pos (by decide +kernel)]; kernel_rfl) | (rw [if_neg (by decide +kernel)]; exact ⟨rfl, rfl⟩))
    (fun os started H enc _ => lifted os started H enc)

theorem proved : Rows.RatioReadCardSaid :=
  Claim7.holds_tied_plain_at .later [] [.data, .data, .data, .sentinel, .sentinel] true (true, "e456ea12a7d3f5a005eb4f92fe5caf6cfcfb6349980641c26bbeea0d05a48255") true over (fun _ h => by cases h) (by kernel_rfl) (fun _ h => by cases h) ratioRead_row_tie rfl ⟨rfl, rfl⟩ (by kernel_rfl) rfl
    (fun f fn hf hfn => by
      obtain rfl : f = 10 := Option.some.inj ((show Tryd.prog.funcNamed "stirrup/stirruplaw02.RatioRead" = some 10 by kernel_rfl).symm.trans hf) |>.symm
      obtain rfl : fn = Tryd.f10 := (Option.some.inj (Tryd.func10.symm.trans hfn)).symm
      exact ⟨by kernel_rfl, fun j t ht => by
        rw [Tryd.params10] at ht
        have hm : t ∈ [23, 9, 41, 5] := by have := Array.mem_of_getElem? ht; simp at this ⊢; omega
        have hall : ([23, 9, 41, 5].all fun u => !Tryd.prog.wantsStandIn u) = true := by kernel_rfl
        exact (show Tryd.prog.wantsStandIn t = false by simpa using List.all_eq_true.1 hall t hm)⟩)
    (by kernel_rfl)
#print axioms proved
end Go.Proofs.YtbbbmlnggehcdaaDoor.ratioRead
