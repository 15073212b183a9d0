/- The reference: Merge. -/
import Derived.Test.YthdafpbmmfelpaaGreatDoorRd
import Derived.Test.YthdafpbmmfelpaaGreatDoorMq
import Derived.Test.YthdafpbmmfelpaaGreatDoorRs
namespace Go.Proofs.YthdafpbmmfelpaaGreatDoor
open Go.ChangeShapes Go.WideShapes Go.ChangeAt Go.RowKit
set_option linter.unusedVariables false
set_option linter.unusedSimpArgs false

theorem Rdx.puts {b g i : Nat} {w : World} {v u : Value} {zs : List Int} (h : Rdx b w v zs) (hg : Rdx g w v zs) : Rdx b (w.setCell ⟨g, i, none⟩ u) v zs := by
  obtain ⟨q, c, e, k⟩ := h
  obtain ⟨q', c', e', k'⟩ := hg
  refine ⟨q, c, e, fun j hj => ?_⟩
  obtain ⟨a, e1, n1, h1⟩ := k j hj
  obtain ⟨a', e2, n2, -⟩ := k' j hj
  rw [e] at e'
  simp only [Value.slice.injEq] at e'
  rw [← e'.1, e1] at e2
  cases e2
  refine ⟨a, e1, n1, ?_⟩
  rw [← h1]
  unfold World.cell?
  rw [add_block, Below.heap_setCell _ _ _ _ n2]
theorem Okd.put {g i : Nat} {w : World} {u : Value} {x : Bar} (h : x.Ok w ∧ Rdx g w x.sv x.ds) : x.Ok (w.setCell ⟨g, i, none⟩ u) ∧ Rdx g (w.setCell ⟨g, i, none⟩ u) x.sv x.ds :=
  ⟨⟨h.1.nm, h.1.ln, h.2.put.rdz⟩, h.2.put⟩
theorem Slb.sub {w : World} {q : Addr} {l : List Bar} {c : Nat} (h : Slb w (some q) l c) {k : Nat} (hk : k < l.length) : Slb w (some (q.add (k * 5))) [l[k]] (c - k) :=
  ⟨by have := h.cp; simp; omega, by simp [maxLen], fun j hj => by
    obtain rfl : j = 0 := by simp at hj; omega
    obtain ⟨a, e, f⟩ := h.at_ k hk
    cases e
    exact ⟨_, rfl, by rw [add_add, Nat.zero_mul, Nat.add_zero]; exact f⟩, fun b hb => by rw [List.mem_singleton.1 hb]; exact h.ok _ (List.getElem_mem hk)⟩
theorem one_of_map {l : List Bar} {b : Bar} (h : l.map nrm = [b].map nrm) : ∃ y, l = [y] ∧ nrm y = nrm b := by
  have hl : l.length = 1 := by simpa using congrArg List.length h
  obtain ⟨y, rfl⟩ := List.length_eq_one_iff.1 hl
  exact ⟨y, rfl, by simpa using h⟩
/-- The reference's list merged so far. -/
structure Rgi (w : World) (a b : List Bar) (k : Nat) (F : Value) (big : Bool) (m mm : List Bar) (wr : World) : Prop where
  eq : mrg a a b = mrg a m (b.drop k)
  kp : Kpm a m (b.drop k)
  own : Own bc 60 5 w.heap.size wr F mm
  nr : mm.map nrm = m.map nrm
  bg : big = m.any bigB
  l2 : m.length ≤ a.length + k
  ok : ∀ x ∈ mm, x.Ok wr ∧ ∀ g, (g < w.heap.size ∨ F.ownBlock = some g) → Rdx g wr x.sv x.ds
  hb : Below w.heap.size w wr
set_option maxHeartbeats 16000000 in
set_option maxRecDepth 100000 in
theorem rMerge_any (p q : Option Addr) (a b : List Bar) (cp cq : Nat) (w : World) (hA : Slb w p a cp) (hB : Slb w q b cq) (hva : validL a = true) (hvb : validL b = true) :
    Calls Tryz.prog 28 #[.slice p a.length cp, .slice q b.length cq] w fun e w' => ∃ v, e = .returned (.tuple #[v, .int .i64 (mgE a b)]) ∧ (mgE a b ≠ 0 → v = .slice none 0 0) ∧
      (∀ m, mrg a a b = some m → mgE a b = 0 → ∃ p' l c', v = .slice p' l.length c' ∧ Slb w' p' l c' ∧ l.map nrm = m.map nrm) ∧ Below w.heap.size w w' := by
  obtain ⟨hla, hAv⟩ := valid_all hva
  obtain ⟨hlb, hBv⟩ := valid_all hvb
  have hds : ∀ x : Bar, barB x = true → 1 ≤ x.ds.length ∧ x.ds.length ≤ 5 := fun x hx => by
    obtain ⟨h1, h, -⟩ := barB_and hx
    rw [h]
    have := ndim_le x.code
    have h0 : ndim x.code ≠ 0 := fun e => by rw [ndim_zero.1 e] at h1; cases h1
    omega
  have h29 := rCopy_any p a cp w hA (by omega) (fun x hx => by have := hds x (hAv x hx); omega)
  have HAv := Lib.hid hAv
  have HBv := Lib.hid hBv
  have HDs := Lib.hid hds
  have HMk := Lib.hid (fun k (hk : k < b.length) => valid_marks hvb hk)
  have hbg0 : a.any bigB = false := List.any_eq_false.2 fun x hx => by
    have := (barB_and (hAv x hx)).2.2.2.2.2.2
    simp [bigB]; omega
  clear hva hvb hAv hBv hds
  go_enter Tryz.func28, Tryz.ntmps28
  go_upto_region 3 with (go_at_call 29; (with_reducible refine h29.mono ?_); rintro X w1 ⟨v1, m1, rfl, hO1, hN1, hX1, hb1⟩)
  have I0 : Rgi w a b 0 v1 false a m1 w1 := ⟨rfl, Kpm.start a b, hO1, hN1, hbg0.symm, Nat.le_refl _, hX1, hb1⟩
  clear hO1 hN1 hX1 hb1 h29 hbg0
  go_wp2
  go_loopw [6, 7, 8] (fun v6 v7 v wr => ∃ (k : Nat) (F : Value) (big : Bool) (m mm : List Bar), v = .int .i64 k ∧ F = v7 ∧ v6 = .bool big ∧ k ≤ b.length ∧ Rgi w a b k F big m mm wr) (fun _ _ v _ => b.length - (intOf v).toNat)
  case atStart => exact ⟨0, _, _, a, m1, rfl, rfl, rfl, Nat.zero_le _, I0⟩
  case round =>
    clear I0
    obtain ⟨k, F, big, m, mm, rfl, rfl, rfl, hk, I⟩ := hrel
    by_cases hlt : k < b.length
    · have g1 : decide ((k : Int) < (b.length : Int)) = true := by simp [hlt]
      have W1 : IntKind.i64.wrap ((k : Int) + 1) = ((k + 1 : Nat) : Int) := by rw [IntWalk.i64_in _ (by omega)]; omega
      have q1 : (0 : Int) ≤ (k : Int) := by omega
      have q2 : (k : Int) < (b.length : Int) := by omega
      have q2b : (k : Int) ≤ ((k + 1 : Nat) : Int) := by omega
      have hcq := (hB.on I.hb).cp
      obtain ⟨b0, rfl, c0, c1, c2, c3, c4⟩ := (hB.on I.hb).at_ k hlt
      have hmem := List.getElem_mem hlt
      have hdr : b.drop k = b[k] :: b.drop (k + 1) := List.drop_eq_getElem_cons hlt
      have h17 := rFind_any p a cp b[k].mark wr (hA.on I.hb)
      have hcb := (barB_and (HBv.out _ hmem)).2.2.2.2.2
      have hml : mm.length = m.length := mrg_nrm_len I.nr
      have hmk := HMk.out k hlt
      have HB := Lib.hid I.hb
      have HI := Lib.hid I
      by_cases hf : fnd b[k].mark a < a.length
      · have him : fnd b[k].mark a < m.length := Nat.lt_of_lt_of_le hf I.kp.l1
        obtain ⟨a0, ea, -⟩ := hA.at_ _ hf
        subst ea
        obtain ⟨xa, hxa⟩ : ∃ x, x = a[fnd b[k].mark a] := ⟨_, rfl⟩
        obtain ⟨xm, hxm⟩ : ∃ x, x = m[fnd b[k].mark a] := ⟨_, rfl⟩
        have himm : fnd b[k].mark a < mm.length := by omega
        obtain ⟨xv, hxv⟩ : ∃ x, x = mm[fnd b[k].mark a] := ⟨_, rfl⟩
        have hma : xa ∈ a := by rw [hxa]; exact List.getElem_mem _
        have hvm : xv ∈ mm := by rw [hxv]; exact List.getElem_mem _
        have hF : ∀ W, Below w.heap.size w W → Fr5 W (a0.add (fnd b[k].mark a * 5)) xa := fun W h => by
          obtain ⟨a', e, f⟩ := (hA.on h).at_ _ hf
          cases e
          rw [hxa]; exact f
        have hG : ∀ W, Below w.heap.size w W → Fr5 W (b0.add (k * 5)) b[k] := fun W h => by
          obtain ⟨a', e, f⟩ := (hB.on h).at_ k hlt
          cases e
          exact f
        have h62 := fun W (h : Below w.heap.size w W) => rSame_any xa b[k] W ((hA.ok _ hma).on h) ((hB.ok _ hmem).on h) (by have := HDs.out _ (HAv.out _ hma); omega)
        have hcnt : xm.count = xa.count := by
          have h := I.kp.ct b[k] (by rw [hdr]; exact List.mem_cons_self) hf
          obtain ⟨h2, e⟩ := h
          rw [hxm, hxa]; exact e
        have hca := (barB_and (HAv.out _ hma)).2.2.2.2.2
        have hnv : nrm xv = nrm xm := by
          have h1 : (mm.map nrm)[fnd b[k].mark a]? = (m.map nrm)[fnd b[k].mark a]? := by rw [I.nr]
          rw [List.getElem?_map, List.getElem?_map, List.getElem?_eq_getElem himm, List.getElem?_eq_getElem him] at h1
          rw [hxv, hxm]
          simpa using h1
        have HE : Hid (mrg a a b = if smB xa b[k] then mrg a (m.set (fnd b[k].mark a) (bump xm b[k])) (b.drop (k + 1)) else none) := Lib.hid (by
          cases hs : smB xa b[k]
          · rw [I.eq, hdr, mrg_no hf (by rw [← hxa]; exact hs)]; rfl
          · rw [I.eq, hdr, mrg_old hf him (by rw [← hxa]; exact hs), hxm]; rfl)
        have hbump : bigB (bump xm b[k]) = decide (xa.count + b[k].count > 1000) := by
          show decide (xm.count + b[k].count > 1000) = _
          rw [hcnt]
        have HK2 : Hid (Kpm a (m.set (fnd b[k].mark a) (bump xm b[k])) (b.drop (k + 1)) ∧ (m.set (fnd b[k].mark a) (bump xm b[k])).any bigB = (big || decide (xa.count + b[k].count > 1000)) ∧
            (mm.set (fnd b[k].mark a) (⟨xv.mark, xv.size, xa.count + b[k].count, xv.code, xv.p, xv.ds, xv.cap⟩ : Bar)).map nrm = (m.set (fnd b[k].mark a) (bump xm b[k])).map nrm ∧ (m.set (fnd b[k].mark a) (bump xm b[k])).length ≤ a.length + (k + 1)) := Lib.hid ⟨by have h := I.kp; rw [hdr] at h; exact h.old hmk hf, by
            rw [any_set him (by rw [← hxm]; unfold bigB; rw [hcnt]; simp; omega), ← I.bg, hbump], by
            rw [List.map_set, List.map_set, I.nr]
            congr 1
            have hn2 := hnv
            unfold nrm at hn2
            injection hn2 with e1 e2 e3 e4 e5 e6 e7
            simp [nrm, bump, e1, e2, e4, e6, hcnt], by rw [List.length_set]; have := I.l2; omega⟩
        have hO := I.own
        obtain ⟨g, capm, rfl, hBg, hgl, -⟩ := hO.fb (by omega)
        have HFz : Hid (∀ W, Own bc 60 5 w.heap.size W (.slice (some ⟨g, 0, none⟩) mm.length capm) mm → W.cell? ⟨g, fnd b[k].mark a * 5 + 2, none⟩ = some (.int .i64 xv.count) ∧ W.frozen? ⟨g, fnd b[k].mark a * 5 + 2, none⟩ = false) := Lib.hid fun W h => by
          have := h.cf himm (j := 2) (by decide)
          rw [← hxv] at this
          exact this
        have HP : Hid (∀ W, Own bc 60 5 w.heap.size W (.slice (some ⟨g, 0, none⟩) mm.length capm) mm → Own bc 60 5 w.heap.size (W.setCell ⟨g, fnd b[k].mark a * 5 + 2, none⟩ (.int .i64 (xa.count + b[k].count))) (.slice (some ⟨g, 0, none⟩) mm.length capm) (mm.set (fnd b[k].mark a) (⟨xv.mark, xv.size, xa.count + b[k].count, xv.code, xv.p, xv.ds, xv.cap⟩ : Bar))) := Lib.hid fun W h => Own.put h rfl himm (by decide) (by rw [← hxv]; rfl)
        have W2 : IntKind.i64.wrap (xa.count + b[k].count) = xa.count + b[k].count := IntWalk.i64_in _ (by omega)
        rw [fndV_in hf] at h17
        have q3 : (0 : Int) ≤ (fnd b[k].mark a : Int) := by omega
        have q4 : ((fnd b[k].mark a : Nat) : Int) < (a.length : Int) := by omega
        have q5 : ((fnd b[k].mark a : Nat) : Int) < (mm.length : Int) := by omega
        have g2 : decide (((fnd b[k].mark a : Nat) : Int) < 0) = false := by simp
        have HXv : Hid (xv.Ok wr ∧ Rdx g wr xv.sv xv.ds) := Lib.hid ⟨(I.ok xv hvm).1, (I.ok xv hvm).2 g (.inr rfl)⟩
        have HCv : Hid (∃ cm, cm = xv.count) := Lib.hid ⟨_, rfl⟩
        obtain ⟨cm, hcm⟩ := HCv.out
        rw [← hcm] at HFz
        rw [vcs, vcs] at h62
        generalize hY : (⟨xv.mark, xv.size, xa.count + b[k].count, xv.code, xv.p, xv.ds, xv.cap⟩ : Bar) = Y at *
        have HY : Hid (Y.mark.size ≤ maxLen ∧ Y.ds.length ≤ maxLen ∧ Y.sv = xv.sv ∧ Y.ds = xv.ds) := Lib.hid (by rw [← hY]; exact ⟨HXv.out.1.nm, HXv.out.1.ln, rfl, rfl⟩)
        have HYC : Hid (Y.count = xa.count + b[k].count) := Lib.hid (by rw [← hY])
        have HIM := Lib.hid himm
        have HML := Lib.hid hml
        have HVM := Lib.hid hvm
        clear hdr I hxm hxa hxv hmem hcb hma hvm hf him himm hmk hnv hcnt hca hbump hml hY hcm HCv
        generalize bump xm b[k] = yb at *
        generalize fnd b[k].mark a = i at *
        generalize smB xa b[k] = SM at *
        unfold Fr5 at hF hG
        generalize b[k].mark = mk at *
        generalize b[k].size = sz at *
        generalize b[k].count = ct at *
        generalize b[k].code = cd at *
        generalize b[k].ds.length = dl at *
        generalize b[k].cap = dc at *
        generalize b[k].p = dp at *
        generalize xa.mark = mk2 at *
        generalize xa.size = sz2 at *
        generalize xa.count = ct2 at *
        generalize xa.code = cd2 at *
        generalize xa.ds.length = dl2 at *
        generalize xa.cap = dc2 at *
        generalize xa.p = dp2 at *
        have sM : ∀ W', Env wr W' [] → (Env wr W' [] ∧ W'.cell? (b0.add (k * 5)) = some (.string mk) ∧ W'.cell? ⟨(b0.add (k * 5)).block, (b0.add (k * 5)).off + 1, none⟩ = some (.int .i64 sz) ∧ W'.cell? ⟨(b0.add (k * 5)).block, (b0.add (k * 5)).off + 2, none⟩ = some (.int .i64 ct) ∧ W'.cell? ⟨(b0.add (k * 5)).block, (b0.add (k * 5)).off + 3, none⟩ = some (.int .i64 cd) ∧ W'.cell? ⟨(b0.add (k * 5)).block, (b0.add (k * 5)).off + 4, none⟩ = some (.slice dp dl dc) ∧ W'.cell? (a0.add (i * 5)) = some (.string mk2) ∧ W'.cell? ⟨(a0.add (i * 5)).block, (a0.add (i * 5)).off + 1, none⟩ = some (.int .i64 sz2) ∧ W'.cell? ⟨(a0.add (i * 5)).block, (a0.add (i * 5)).off + 2, none⟩ = some (.int .i64 ct2) ∧ W'.cell? ⟨(a0.add (i * 5)).block, (a0.add (i * 5)).off + 3, none⟩ = some (.int .i64 cd2) ∧ W'.cell? ⟨(a0.add (i * 5)).block, (a0.add (i * 5)).off + 4, none⟩ = some (.slice dp2 dl2 dc2)) := fun W' E => by
          obtain ⟨f0, f1, f2, f3, f4⟩ := hF W' (envbb HB.out E)
          obtain ⟨x0, x1, x2, x3, x4⟩ := hG W' (envbb HB.out E)
          exact ⟨E, x0, x1, x2, x3, x4, f0, f1, f2, f3, f4⟩
        have sN : ∀ W', Env wr W' [] → (Env wr W' [] ∧ W'.cell? (b0.add (k * 5)) = some (.string mk) ∧ W'.cell? ⟨(b0.add (k * 5)).block, (b0.add (k * 5)).off + 1, none⟩ = some (.int .i64 sz) ∧ W'.cell? ⟨(b0.add (k * 5)).block, (b0.add (k * 5)).off + 2, none⟩ = some (.int .i64 ct) ∧ W'.cell? ⟨(b0.add (k * 5)).block, (b0.add (k * 5)).off + 3, none⟩ = some (.int .i64 cd) ∧ W'.cell? ⟨(b0.add (k * 5)).block, (b0.add (k * 5)).off + 4, none⟩ = some (.slice dp dl dc) ∧ W'.cell? (a0.add (i * 5)) = some (.string mk2) ∧ W'.cell? ⟨(a0.add (i * 5)).block, (a0.add (i * 5)).off + 1, none⟩ = some (.int .i64 sz2) ∧ W'.cell? ⟨(a0.add (i * 5)).block, (a0.add (i * 5)).off + 2, none⟩ = some (.int .i64 ct2) ∧ W'.cell? ⟨(a0.add (i * 5)).block, (a0.add (i * 5)).off + 3, none⟩ = some (.int .i64 cd2) ∧ W'.cell? ⟨(a0.add (i * 5)).block, (a0.add (i * 5)).off + 4, none⟩ = some (.slice dp2 dl2 dc2) ∧ W'.cell? ⟨g, i * 5 + 2, none⟩ = some (.int .i64 cm) ∧ W'.frozen? ⟨g, i * 5 + 2, none⟩ = false) := fun W' E => by
          obtain ⟨f0, f1, f2, f3, f4⟩ := hF W' (envbb HB.out E)
          obtain ⟨x0, x1, x2, x3, x4⟩ := hG W' (envbb HB.out E)
          obtain ⟨e0, e1⟩ := HFz.out W' (own_on hO E.1)
          exact ⟨E, x0, x1, x2, x3, x4, f0, f1, f2, f3, f4, e0, e1⟩
        go_upto_region 9 with (go_at_call 17; (with_reducible refine h17.mono ?_); rintro X wq ⟨rfl, rfl⟩)
        have E := Env.nil wr
        cases SM
        · have HR := Lib.hid (mgE_none (by rw [HE.out]; rfl))
          refine wp_region_plan 9 [(0, true), (1, true), (2, true), (3, true), (4, true), (5, true), (6, true), (7, true), (8, false)] (fun W' => Env wr W' [] ∧ W'.cell? (b0.add (k * 5)) = some (.string mk) ∧ W'.cell? ⟨(b0.add (k * 5)).block, (b0.add (k * 5)).off + 1, none⟩ = some (.int .i64 sz) ∧ W'.cell? ⟨(b0.add (k * 5)).block, (b0.add (k * 5)).off + 2, none⟩ = some (.int .i64 ct) ∧ W'.cell? ⟨(b0.add (k * 5)).block, (b0.add (k * 5)).off + 3, none⟩ = some (.int .i64 cd) ∧ W'.cell? ⟨(b0.add (k * 5)).block, (b0.add (k * 5)).off + 4, none⟩ = some (.slice dp dl dc) ∧ W'.cell? (a0.add (i * 5)) = some (.string mk2) ∧ W'.cell? ⟨(a0.add (i * 5)).block, (a0.add (i * 5)).off + 1, none⟩ = some (.int .i64 sz2) ∧ W'.cell? ⟨(a0.add (i * 5)).block, (a0.add (i * 5)).off + 2, none⟩ = some (.int .i64 ct2) ∧ W'.cell? ⟨(a0.add (i * 5)).block, (a0.add (i * 5)).off + 3, none⟩ = some (.int .i64 cd2) ∧ W'.cell? ⟨(a0.add (i * 5)).block, (a0.add (i * 5)).off + 4, none⟩ = some (.slice dp2 dl2 dc2)) (by kernel_rfl) (by kernel_rfl) (fun _ _ d _ _ h => by cases d <;> exact h) (sM _ E.drw) ?_
          simp only [List.filterMap_cons, List.filterMap_nil, List.getElem?_cons_zero, List.getElem?_cons_succ, Option.map_some, List.drop_succ_cons, List.drop_zero]
          replace E := E.drw
          iterate 8 (first | (refine wpPlan_still (v := ?_) (Or.inl ⟨by rfl, ?_⟩) ?_; rotate_left; (focus (intro W hW; (try dsimp only at hW); go_split_ands; go_simp; try with_reducible rfl)); try simp only [Act.put, List.setIfInBounds_toArray, List.set_cons_zero, List.set_cons_succ]) | (refine wpPlan_still (Or.inr ⟨by rfl, rfl⟩) ?_; try simp only [Act.put, List.setIfInBounds_toArray, List.set_cons_zero, List.set_cons_succ]))
          refine wpPlan_only (fun K hK => ?_)
          try go_simp
          (go_at_call 62; (with_reducible refine (h62 _ (envbb HB.out E)).mono ?_); rintro X wq ⟨rfl, hb⟩)
          replace E := E.on hb
          clear hb
          refine hK.out _ _ (sM _ E) ?_
          clear hK K
          try simp only [Act.put, List.setIfInBounds_toArray, List.set_cons_zero, List.set_cons_succ]
          refine wpPlan_end ?_
          replace C := E.cells
          simp [BC, CF] at C
          go_wp2
          have HB2 := envbb HB.out E
          have HR := HR.out
          refine bodyPost_ret (v := .tuple #[.slice none 0 0, .int .i64 19]) (by simp [results, Tryz.results28, go_sem]) rfl ?_
          rw [HR]
          exact ⟨_, rfl, fun _ => rfl, fun m hm h0 => (by cases h0), HB2⟩
        · have HE2 : Hid (mrg a a b = mrg a (m.set i yb) (b.drop (k + 1))) := Lib.hid HE.out
          refine wp_region_plan 9 [(0, true), (1, true), (2, true), (3, true), (4, true), (5, true), (6, true), (7, true), (8, false)] (fun W' => Env wr W' [] ∧ W'.cell? (b0.add (k * 5)) = some (.string mk) ∧ W'.cell? ⟨(b0.add (k * 5)).block, (b0.add (k * 5)).off + 1, none⟩ = some (.int .i64 sz) ∧ W'.cell? ⟨(b0.add (k * 5)).block, (b0.add (k * 5)).off + 2, none⟩ = some (.int .i64 ct) ∧ W'.cell? ⟨(b0.add (k * 5)).block, (b0.add (k * 5)).off + 3, none⟩ = some (.int .i64 cd) ∧ W'.cell? ⟨(b0.add (k * 5)).block, (b0.add (k * 5)).off + 4, none⟩ = some (.slice dp dl dc) ∧ W'.cell? (a0.add (i * 5)) = some (.string mk2) ∧ W'.cell? ⟨(a0.add (i * 5)).block, (a0.add (i * 5)).off + 1, none⟩ = some (.int .i64 sz2) ∧ W'.cell? ⟨(a0.add (i * 5)).block, (a0.add (i * 5)).off + 2, none⟩ = some (.int .i64 ct2) ∧ W'.cell? ⟨(a0.add (i * 5)).block, (a0.add (i * 5)).off + 3, none⟩ = some (.int .i64 cd2) ∧ W'.cell? ⟨(a0.add (i * 5)).block, (a0.add (i * 5)).off + 4, none⟩ = some (.slice dp2 dl2 dc2)) (by kernel_rfl) (by kernel_rfl) (fun _ _ d _ _ h => by cases d <;> exact h) (sM _ E.drw) ?_
          simp only [List.filterMap_cons, List.filterMap_nil, List.getElem?_cons_zero, List.getElem?_cons_succ, Option.map_some, List.drop_succ_cons, List.drop_zero]
          replace E := E.drw
          iterate 8 (first | (refine wpPlan_still (v := ?_) (Or.inl ⟨by rfl, ?_⟩) ?_; rotate_left; (focus (intro W hW; (try dsimp only at hW); go_split_ands; go_simp; try with_reducible rfl)); try simp only [Act.put, List.setIfInBounds_toArray, List.set_cons_zero, List.set_cons_succ]) | (refine wpPlan_still (Or.inr ⟨by rfl, rfl⟩) ?_; try simp only [Act.put, List.setIfInBounds_toArray, List.set_cons_zero, List.set_cons_succ]))
          refine wpPlan_only (fun K hK => ?_)
          try go_simp
          (go_at_call 62; (with_reducible refine (h62 _ (envbb HB.out E)).mono ?_); rintro X wq ⟨rfl, hb⟩)
          replace E := E.on hb
          clear hb
          refine hK.out _ _ (sM _ E) ?_
          clear hK K
          try simp only [Act.put, List.setIfInBounds_toArray, List.set_cons_zero, List.set_cons_succ]
          refine wpPlan_end ?_
          replace C := E.cells
          simp [BC, CF] at C
          go_upto_region 11 with fail
          refine wp_region_plan 15 [(0, true), (1, true), (2, true), (3, true), (4, true), (5, true), (6, true), (7, true), (8, true), (9, true), (10, true), (11, true), (12, true), (13, true), (14, true)] (fun W' => Env wr W' [] ∧ W'.cell? (b0.add (k * 5)) = some (.string mk) ∧ W'.cell? ⟨(b0.add (k * 5)).block, (b0.add (k * 5)).off + 1, none⟩ = some (.int .i64 sz) ∧ W'.cell? ⟨(b0.add (k * 5)).block, (b0.add (k * 5)).off + 2, none⟩ = some (.int .i64 ct) ∧ W'.cell? ⟨(b0.add (k * 5)).block, (b0.add (k * 5)).off + 3, none⟩ = some (.int .i64 cd) ∧ W'.cell? ⟨(b0.add (k * 5)).block, (b0.add (k * 5)).off + 4, none⟩ = some (.slice dp dl dc) ∧ W'.cell? (a0.add (i * 5)) = some (.string mk2) ∧ W'.cell? ⟨(a0.add (i * 5)).block, (a0.add (i * 5)).off + 1, none⟩ = some (.int .i64 sz2) ∧ W'.cell? ⟨(a0.add (i * 5)).block, (a0.add (i * 5)).off + 2, none⟩ = some (.int .i64 ct2) ∧ W'.cell? ⟨(a0.add (i * 5)).block, (a0.add (i * 5)).off + 3, none⟩ = some (.int .i64 cd2) ∧ W'.cell? ⟨(a0.add (i * 5)).block, (a0.add (i * 5)).off + 4, none⟩ = some (.slice dp2 dl2 dc2) ∧ W'.cell? ⟨g, i * 5 + 2, none⟩ = some (.int .i64 cm) ∧ W'.frozen? ⟨g, i * 5 + 2, none⟩ = false) (by kernel_rfl) (by kernel_rfl) (fun _ _ d _ _ h => by cases d <;> exact h) (sN _ E.drw) ?_
          simp only [List.filterMap_cons, List.filterMap_nil, List.getElem?_cons_zero, List.getElem?_cons_succ, Option.map_some, List.drop_succ_cons, List.drop_zero]
          replace E := E.drw
          iterate 15 (first | (refine wpPlan_still (v := ?_) (Or.inl ⟨by rfl, ?_⟩) ?_; rotate_left; (focus (intro W hW; (try dsimp only at hW); go_split_ands; go_simp; try with_reducible rfl)); try simp only [Act.put, List.setIfInBounds_toArray, List.set_cons_zero, List.set_cons_succ]) | (refine wpPlan_still (Or.inr ⟨by rfl, rfl⟩) ?_; try simp only [Act.put, List.setIfInBounds_toArray, List.set_cons_zero, List.set_cons_succ]))
          refine wpPlan_end ?_
          replace C := E.cells
          simp [BC, CF] at C
          have HI2 : Hid (∀ W, Env wr W [] → Rgi w a b (k + 1) (.slice (some ⟨g, 0, none⟩) mm.length capm) (big || decide (ct2 + ct > 1000)) (m.set i yb) (mm.set i Y) (W.setCell ⟨g, i * 5 + 2, none⟩ (.int .i64 (ct2 + ct)))) := Lib.hid fun W E => ⟨HE2.out, HK2.out.1, HP.out _ (own_on hO E.1), HK2.out.2.2.1, HK2.out.2.1.symm, HK2.out.2.2.2, fun x hx => by
            rcases List.mem_or_eq_of_mem_set hx with h | rfl
            · obtain ⟨h1, h2⟩ := HI.out.ok x h
              exact ⟨⟨h1.nm, h1.ln, ((h2 g (.inr rfl)).on E.1).put.rdz⟩, fun b0 hb0 => ((h2 b0 hb0).on E.1).puts ((h2 g (.inr rfl)).on E.1)⟩
            · obtain ⟨y1, y2, y3, y4⟩ := HY.out
              obtain ⟨h1, h2⟩ := HI.out.ok xv HVM.out
              exact ⟨⟨y1, y2, by rw [y3, y4]; exact ((h2 g (.inr rfl)).on E.1).put.rdz⟩, fun b0 hb0 => by rw [y3, y4]; exact ((h2 b0 hb0).on E.1).puts ((h2 g (.inr rfl)).on E.1)⟩, (envbb HB.out E).setCell (p := ⟨g, i * 5 + 2, none⟩) hBg _⟩
          obtain ⟨X, hX⟩ : ∃ X, decide (ct2 + ct > 1000) = X := ⟨_, rfl⟩
          rw [hX] at HI2
          obtain ⟨d0, d1⟩ := HFz.out _ (own_on hO E.1)
          have I2 : Rgi w a b (k + 1) (.slice (some ⟨g, 0, none⟩) mm.length capm) (big || X) (m.set i yb) (mm.set i Y) (wq.setCell ⟨g, i * 5 + 2, none⟩ (.int .i64 (ct2 + ct))).drew := HI2.out _ E
          have c12 := (I2.own.cf (k := i) (by rw [List.length_set]; have := HIM.out; omega) (j := 2) (by decide)).1
          rw [List.getElem_set_self, show (bc Y)[2]? = some (.int .i64 Y.count) from rfl, HYC.out] at c12
          have I3 := Lib.hid I2
          clear I2 HI2 sM sN hF hG h62 E hO
          go_upto_region 12 with fail
          generalize (wq.setCell ⟨g, i * 5 + 2, none⟩ (.int .i64 (ct2 + ct))).drew = w12 at *
          clear d0 d1
          cases big
          · go_wp2
            have I4 := I3.out
            simp only [Bool.true_or, Bool.false_or] at I4
            exact ⟨⟨k + 1, _, _, _, _, rfl, rfl, rfl, hlt, I4⟩, by simp [intOf]; omega⟩
          · go_wp2
            have I4 := I3.out
            simp only [Bool.true_or, Bool.false_or] at I4
            exact ⟨⟨k + 1, _, _, _, _, rfl, rfl, rfl, hlt, I4⟩, by simp [intOf]; omega⟩
      · have h29 := fun W (h : Below w.heap.size w W) => rCopy_any (some (b0.add (k * 5))) [b[k]] (cq - k) W ((hB.on h).sub hlt) (by simp) (fun x hx => by rw [List.mem_singleton.1 hx]; have := HDs.out _ (HBv.out _ hmem); omega)
        have HE : Hid (mrg a a b = mrg a (m ++ [b[k]]) (b.drop (k + 1)) ∧ Kpm a (m ++ [b[k]]) (b.drop (k + 1)) ∧ big = (m ++ [b[k]]).any bigB) := Lib.hid ⟨by rw [I.eq, hdr, mrg_new hf], by have h := I.kp; rw [hdr] at h; exact h.new, by
          rw [List.any_append, ← I.bg]
          have : bigB b[k] = false := by simp [bigB]; omega
          simp [this]⟩
        rw [fndV_no hf] at h17
        have hO := I.own
        have hl2 := I.l2
        obtain ⟨i0, hi, hz0, hz1, hz2⟩ := info_parts info60
        have hnm : (b[k] : Bar) = b[k] := rfl
        have HML := Lib.hid hml
        have hmm62 : mm.length ≤ 130 := by omega
        clear hf hdr I hcb hmk hnm hml
        obtain ⟨xb, hxb⟩ : ∃ x, x = b[k] := ⟨_, rfl⟩
        rw [← hxb] at HE h29
        have hw3 : (k + 1 - k : Nat) = 1 := by omega
        generalize b[k].mark = mk at *
        clear hxb hmem
        go_wp2_with (first
          | (go_at_call 17; (with_reducible refine h17.mono ?_); rintro X wq ⟨rfl, rfl⟩)
          | (go_at_call 29; refine (h29 _ HB.out).mono ?_; rintro X w2 ⟨v2, m2, rfl, hO2, hN2, hX2, hb2⟩; obtain ⟨y, rfl, hy⟩ := one_of_map hN2; obtain ⟨g2, k2, rfl, hg2, hgl2, hc2⟩ := hO2.fb (by simp); have ho2 := own_on hO hb2
             have hcl : ∀ (j : Nat) (u : Value), (bc y)[j]? = some u → w2.cell? ((⟨g2, 0, none⟩ : Addr).add j) = some u := fun j u h => by
               have hj5 : j < 5 := by have := (List.getElem?_eq_some_iff.1 h).1; rwa [bcl] at this
               have := (hc2 0 (by simp) j hj5).1
               rw [Addr.add_lit, Nat.zero_add]
               rw [Nat.zero_mul, Nat.zero_add] at this
               rw [this]; exact h)
          | (at_builtin; refine wpList_append_own_at _ rfl _ _ 22 rfl w.heap.size 60 i0 _ 5 64 Tryz.underlying22 hi hz0 hz1 hz2 rfl (by decide) _ mm.length (mm.flatMap bc) rfl ho2 ⟨g2, 0, none⟩ 1 k2 (bc y) rfl rfl hcl (by intro u hu; unfold bc at hu; simp only [List.mem_cons, List.not_mem_nil, or_false] at hu; rcases hu with rfl | rfl | rfl | rfl | rfl <;> rfl) (by unfold maxLen; omega) (by omega) (by have := HB.out.size; have := hb2.size; omega) ?_))
        intro v' w6 r1 r2 r3 r4
        have O7 : Own bc 60 5 w.heap.size w6 v' (mm ++ [y]) := own_snoc r1
        have B2 := belows HB.out hb2
        have B7 : Below w.heap.size w w6 := B2.grown r2 B2.size (fun q hq => (World.ownsRow.lt ho2 q hq).1)
        have HFb := World.ownsRow.lt hO
        have I2 : Hid (Rgi w a b (k + 1) v' big (m ++ [xb]) (mm ++ [y]) w6) := Lib.hid ⟨HE.out.1, HE.out.2.1, O7, by rw [List.map_append, List.map_append, HI.out.nr]; simp [hy], HE.out.2.2, by simp; omega, fun x hx => by
          rcases List.mem_append.1 hx with hx | hx
          · obtain ⟨h1, h2⟩ := HI.out.ok x hx
            obtain ⟨k2', k3, k4⟩ := keep_all r2 r4 (h1.on hb2).rd (fun b hb => (h2 b (.inr hb)).on hb2)
            exact ⟨⟨h1.nm, h1.ln, k2'⟩, fun b hb => hb.elim (fun h => k4 b ((h2 b (.inl h)).on hb2)) (k3 b)⟩
          · rw [List.mem_singleton.1 hx]
            obtain ⟨h1, h2⟩ := hX2 y (by simp)
            obtain ⟨k2', k3, k4⟩ := keep_all r2 r4 h1.rd (fun b hb => h2 b (.inl (HFb b hb).2))
            exact ⟨⟨h1.nm, h1.ln, k2'⟩, fun b hb => hb.elim (fun h => k4 b (h2 b (.inl (by have := HB.out.size; omega)))) (k3 b)⟩, B7⟩
        clear r1 r2 r3 r4 O7 B7 B2 hO ho2 hcl hX2 hO2 hN2 hc2 hb2 HFb
        go_wp2
        exact ⟨⟨k + 1, _, _, _, _, rfl, rfl, rfl, hlt, I2.out⟩, by simp [intOf]; omega⟩
    · have g1 : decide ((k : Int) < (b.length : Int)) = false := by simp; omega
      obtain rfl : k = b.length := by omega
      have HS : mrg a a b = some m := by rw [I.eq, List.drop_length]; rfl
      have hE := mgE_some HS
      rw [← I.bg] at hE
      have hml : mm.length = m.length := mrg_nrm_len I.nr
      have hl2 := I.l2
      obtain ⟨pF, cF, rfl, hSl⟩ := I.own.slb (fun x hx => (I.ok x hx).1)
      have HN := Lib.hid I.nr
      have HB := Lib.hid I.hb
      have HSl := Lib.hid hSl
      have HSS := Lib.hid HS
      clear I HS hSl g1
      cases big
      · by_cases h60 : 60 < m.length
        · have HE : Hid (mgE a b = 4) := Lib.hid (by rw [hE, if_neg (by decide), if_pos h60])
          have g2 : decide ((mm.length : Int) > 60) = true := by simp; omega
          clear hE h60 hml
          go_wp2
          refine bodyPost_ret (v := .tuple #[.slice none 0 0, .int .i64 4]) (by simp [results, Tryz.results28, go_sem]) rfl ?_
          rw [HE.out]
          exact ⟨_, rfl, fun _ => rfl, fun m hm h0 => (by cases h0), HB.out⟩
        · have HE : Hid (mgE a b = 0) := Lib.hid (by rw [hE, if_neg (by decide), if_neg h60])
          have g2 : decide ((mm.length : Int) > 60) = false := by simp; omega
          clear hE h60 hml
          go_wp2
          refine bodyPost_ret (v := .tuple #[.slice pF mm.length cF, .int .i64 0]) (by simp [results, Tryz.results28, go_sem]) rfl ?_
          rw [HE.out]
          refine ⟨_, rfl, fun h => absurd rfl h, fun m' hm' _ => ?_, HB.out⟩
          rw [HSS.out] at hm'
          cases hm'
          exact ⟨pF, mm, cF, rfl, HSl.out, HN.out⟩
      · have HE : Hid (mgE a b = 5) := Lib.hid (by rw [hE, if_pos rfl])
        clear hE hml
        go_wp2
        refine bodyPost_ret (v := .tuple #[.slice none 0 0, .int .i64 5]) (by simp [results, Tryz.results28, go_sem]) rfl ?_
        rw [HE.out]
        exact ⟨_, rfl, fun _ => rfl, fun m hm h0 => (by cases h0), HB.out⟩
end Go.Proofs.YthdafpbmmfelpaaGreatDoor
