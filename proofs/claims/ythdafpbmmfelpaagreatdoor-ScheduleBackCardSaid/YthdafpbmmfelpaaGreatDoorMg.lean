/- Merge of the program: the walk. -/
import Derived.Test.YthdafpbmmfelpaaGreatDoorMg0
namespace Go.Proofs.YthdafpbmmfelpaaGreatDoor
open Go.ChangeShapes Go.WideShapes Go.ChangeAt Go.RowKit
set_option linter.unusedVariables false
set_option linter.unusedSimpArgs false

/-- A list that is read, none of whose cells lies in block g. -/
def Rdx (g : Nat) (w : World) (v : Value) (zs : List Int) : Prop := ∃ q c, v = .slice q zs.length c ∧ ∀ j (h : j < zs.length), ∃ a, q = some a ∧ a.block ≠ g ∧ w.cell? (a.add j) = some (.int .i64 zs[j])
theorem Rdx.rdz {g : Nat} {w : World} {v : Value} {zs : List Int} (h : Rdx g w v zs) : Rdz w v zs := by
  obtain ⟨q, c, e, k⟩ := h
  exact ⟨q, c, e, fun j hj => (k j hj).imp fun a x => ⟨x.1, x.2.2⟩⟩
theorem Rdx.on {g : Nat} {w w1 : World} {v : Value} {zs : List Int} (h : Rdx g w v zs) (hb : Below w.heap.size w w1) : Rdx g w1 v zs := by
  obtain ⟨q, c, e, k⟩ := h
  exact ⟨q, c, e, fun j hj => (k j hj).imp fun a x => ⟨x.1, x.2.1, cell_later hb x.2.2⟩⟩
theorem Rdx.put {g i : Nat} {w : World} {v u : Value} {zs : List Int} (h : Rdx g w v zs) : Rdx g (w.setCell ⟨g, i, none⟩ u) v zs := by
  obtain ⟨q, c, e, k⟩ := h
  refine ⟨q, c, e, fun j hj => (k j hj).imp fun a x => ⟨x.1, x.2.1, ?_⟩⟩
  rw [← x.2.2]
  have hb : (a.add j).block = a.block := by unfold Addr.add; split <;> rfl
  unfold World.cell?
  rw [hb, Below.heap_setCell _ _ _ _ x.2.1]
theorem Rdx.of {g n : Nat} {w : World} {v : Value} {zs : List Int} (h : Rdz w v zs) (hw : ∀ (w' : World), True) (hn : w.heap.size ≤ g) : Rdx g w v zs := by
  obtain ⟨q, c, e, k⟩ := h
  refine ⟨q, c, e, fun j hj => (k j hj).imp fun a x => ⟨x.1, ?_, x.2⟩⟩
  have := lt_of_cell x.2
  have hb : (a.add j).block = a.block := by unfold Addr.add; split <;> rfl
  omega
theorem Rdx.own {g B : Nat} {w : World} {v : Value} {zs : List Int} (h : OwnI B w v zs) (hB : g < B) : Rdx g w v zs := by
  have hr := OwnI.rdz h
  obtain ⟨hl, ⟨rfl, h0⟩ | ⟨b, cap, cur, rfl, hb, -⟩⟩ := h
  · obtain ⟨q, c, e, k⟩ := hr
    exact ⟨q, c, e, fun j hj => by omega⟩
  · obtain ⟨q, c, e, k⟩ := hr
    refine ⟨q, c, e, fun j hj => (k j hj).imp fun a x => ⟨x.1, ?_, x.2⟩⟩
    simp only [Value.slice.injEq] at e
    rw [← e.1] at x
    cases x.1
    simp only
    omega
structure Okx (g : Nat) (w : World) (b : Bar) : Prop where
  nm : b.mark.size ≤ maxLen
  ln : b.ds.length ≤ 5
  rd : Rdx g w b.sv b.ds
theorem Okx.on {g : Nat} {w w1 : World} {b : Bar} (h : Okx g w b) (hb : Below w.heap.size w w1) : Okx g w1 b := ⟨h.nm, h.ln, h.rd.on hb⟩
theorem Okx.ok {g : Nat} {w : World} {b : Bar} (h : Okx g w b) : b.Ok w := ⟨h.nm, by have := h.ln; unfold maxLen; omega, h.rd.rdz⟩
/-- The list merged so far. -/
structure Mgi (w : World) (a b : List Bar) (k : Nat) (F : Value) (m : List Bar) (wr : World) : Prop where
  eq : mrg a a b = mrg a m (b.drop k)
  own : Own bc 60 5 w.heap.size wr F m
  l1 : a.length ≤ m.length
  l2 : m.length ≤ a.length + k
  ok : ∀ x ∈ m, x.Ok w ∧ x.ds.length ≤ 5 ∧ 1 ≤ x.count ∧ x.count ≤ 1000 * ((k : Int) + 1)
  hb : Below w.heap.size w wr
def mgE (a b : List Bar) : Int := match mrg a a b with
  | none => 19
  | some m => if m.any bigB then 5 else if 60 < m.length then 4 else 0
theorem mgE_none {a b : List Bar} (h : mrg a a b = none) : mgE a b = 19 := by unfold mgE; rw [h]
theorem mgE_some {a b m : List Bar} (h : mrg a a b = some m) : mgE a b = if m.any bigB then 5 else if 60 < m.length then 4 else 0 := by unfold mgE; rw [h]
theorem fndV_in {m : ByteArray} {l : List Bar} (h : fnd m l < l.length) : fndV m l = (fnd m l : Int) := if_pos h
theorem fndV_no {m : ByteArray} {l : List Bar} (h : ¬ fnd m l < l.length) : fndV m l = -1 := if_neg h
theorem Bar.Ok.bump {w : World} {x y : Bar} (h : x.Ok w) : (bump x y).Ok w := ⟨h.nm, h.ln, h.rd⟩
theorem Own.cf {B g n cap : Nat} {w : World} {l : List Bar} (h : Own bc 60 5 B w (.slice (some ⟨g, 0, none⟩) n cap) l) {k : Nat} (hk : k < l.length) {j : Nat} (hj : j < 5) :
    w.cell? ⟨g, k * 5 + j, none⟩ = (bc l[k])[j]? ∧ w.frozen? ⟨g, k * 5 + j, none⟩ = false := by
  obtain ⟨g', c', e, -, -, hc⟩ := h.fb (by omega)
  cases e
  exact hc k hk j hj
theorem own_blk {B : Nat} {w : World} {p : Option Addr} {n c : Nat} {l : List Bar} (h : Own bc 60 5 B w (.slice p n c) l) : ∃ g, B ≤ g ∧ (l.length > 0 → p = some ⟨g, 0, none⟩) := by
  rcases Nat.eq_zero_or_pos l.length with h0 | h0
  · exact ⟨B, Nat.le_refl _, fun k => by omega⟩
  · obtain ⟨g, c', e, hB, -, -⟩ := h.fb h0
    cases e
    exact ⟨g, hB, fun _ => rfl⟩
theorem okW {w : World} {b : Bar} (h : b.Ok w) : Rdz w b.sv b.ds := h.rd
set_option maxHeartbeats 8000000 in
set_option maxRecDepth 100000 in
theorem Merge_ok (p q : Option Addr) (a b : List Bar) (cp cq : Nat) (w : World) (hA : Slb w p a cp) (hB : Slb w q b cq) (hva : validL a = true) (hvb : validL b = true) :
    Calls Tryz.prog 27 #[.slice p a.length cp, .slice q b.length cq] w fun e w' => ∃ v, e = .returned (.tuple #[v, .int .i64 (mgE a b)]) ∧ (mgE a b ≠ 0 → v = .slice none 0 0) ∧
      (∀ m, mrg a a b = some m → mgE a b = 0 → ∃ p' l c', v = .slice p' l.length c' ∧ Slb w' p' l c' ∧ l.map nrm = m.map nrm) ∧ Below w.heap.size w w' := by
  have h1 := Valid_list p a cp w hA
  have h2 := fun W (h : Below w.heap.size w W) => Valid_list q b cq W (hB.on h)
  rw [hva] at h1
  rw [hvb] at h2
  obtain ⟨hla, hAv⟩ := valid_all hva
  obtain ⟨hlb, hBv⟩ := valid_all hvb
  have h57 := fun W (h : Below w.heap.size w W) => bclone_any p a cp W (hA.on h) hla
  have HAv := Lib.hid hAv
  have HBv := Lib.hid hBv
  have HA5 : Hid (∀ x ∈ a, x.ds.length ≤ 5) := Lib.hid fun x hx => by obtain ⟨-, h, -⟩ := barB_and (hAv x hx); rw [h]; exact ndim_le _
  have HB5 : Hid (∀ x ∈ b, x.ds.length ≤ 5) := Lib.hid fun x hx => by obtain ⟨-, h, -⟩ := barB_and (hBv x hx); rw [h]; exact ndim_le _
  have HA1 : Hid (∀ x ∈ a, 1 ≤ x.count ∧ x.count ≤ 1000) := Lib.hid fun x hx => (barB_and (hAv x hx)).2.2.2.2.2
  have HB1 : Hid (∀ x ∈ b, 1 ≤ x.count ∧ x.count ≤ 1000) := Lib.hid fun x hx => (barB_and (hBv x hx)).2.2.2.2.2
  clear hva hvb hAv hBv
  have hw0 : Below w.heap.size w w := Below.refl _ _
  go_enter Tryz.func27, Tryz.ntmps27
  go_upto_region 4 with (first
    | (go_at_call 15; (with_reducible refine h1.mono ?_); rintro X w1 ⟨rfl, hb1⟩)
    | (go_at_call 15; (with_reducible refine (h2 _ hb1).mono ?_); rintro X w2 ⟨rfl, hb2⟩; have hb12 := belows hb1 hb2)
    | (go_at_call 57; (with_reducible refine (h57 _ hb12).mono ?_); rintro X w3 ⟨v0, rfl, hO, hb3⟩))
  have I0 : Mgi w a b 0 v0 a w3 := ⟨rfl, hO.mono hb12.size, Nat.le_refl _, Nat.le_refl _, fun x hx => ⟨hA.ok x hx, HA5.out x hx, (HA1.out x hx).1, by have := (HA1.out x hx).2; omega⟩, belows hb12 hb3⟩
  clear hO hb1 hb2 hb12 hb3 h1 h2 h57 hw0
  go_wp2
  go_loopw [6, 26] (fun v6 v wr => ∃ (k : Nat) (F : Value) (m : List Bar), v = .int .i64 k ∧ F = v6 ∧ k ≤ b.length ∧ Mgi w a b k F m wr) (fun _ v _ => b.length - (intOf v).toNat)
  case atStart => exact ⟨0, _, a, rfl, rfl, Nat.zero_le _, I0⟩
  case round =>
    clear I0
    obtain ⟨k, F, m, rfl, rfl, hk, I⟩ := hrel
    by_cases hlt : k < b.length
    · have g1 : decide ((k : Int) < (b.length : Int)) = true := by simp [hlt]
      have W1 : IntKind.i64.wrap ((k : Int) + 1) = ((k + 1 : Nat) : Int) := by rw [IntWalk.i64_in _ (by omega)]; omega
      have q1 : (0 : Int) ≤ (k : Int) := by omega
      have q2 : (k : Int) < (b.length : Int) := by omega
      obtain ⟨b0, rfl, c0, c1, c2, c3, c4⟩ := (hB.on I.hb).at_ k hlt
      have hmem := List.getElem_mem hlt
      have hdr : b.drop k = b[k] :: b.drop (k + 1) := List.drop_eq_getElem_cons hlt
      have h38 := fun W (h : Below w.heap.size w W) => indexOf_any p a cp b[k].mark W (hA.on h)
      have hcb := HB1.out _ hmem
      have E := (Env.nil wr).add wr.heap.size 60 b[k].cs rfl
      rw [bcs] at E
      have HB := Lib.hid I.hb
      have HI := Lib.hid I
      by_cases hf : fnd b[k].mark a < a.length
      · have him : fnd b[k].mark a < m.length := Nat.lt_of_lt_of_le hf I.l1
        obtain ⟨a0, ea, -⟩ := hA.at_ _ hf
        subst ea
        obtain ⟨xa, hxa⟩ : ∃ x, x = a[fnd b[k].mark a] := ⟨_, rfl⟩
        obtain ⟨xm, hxm⟩ : ∃ x, x = m[fnd b[k].mark a] := ⟨_, rfl⟩
        have hma : xa ∈ a := by rw [hxa]; exact List.getElem_mem _
        have hmm : xm ∈ m := by rw [hxm]; exact List.getElem_mem _
        have hF : ∀ W, Below w.heap.size w W → Fr5 W (a0.add (fnd b[k].mark a * 5)) xa := fun W h => by
          obtain ⟨a', e, f⟩ := (hA.on h).at_ _ hf
          cases e
          rw [hxa]; exact f
        have h58 := fun W (h : Below w.heap.size w W) => Same_ok xa b[k] W ((hA.ok _ hma).on h) ((hB.ok _ hmem).on h) (HAv.out _ hma) (HBv.out _ hmem)
        have HE : Hid (mrg a a b = if smB xa b[k] then mrg a (m.set (fnd b[k].mark a) (bump xm b[k])) (b.drop (k + 1)) else none) := Lib.hid (by
          cases hs : smB xa b[k]
          · rw [I.eq, hdr, mrg_no hf (by rw [← hxa]; exact hs)]; rfl
          · rw [I.eq, hdr, mrg_old hf him (by rw [← hxa]; exact hs), hxm]; rfl)
        have hcm := (HI.out.ok xm hmm).2.2
        have hO := I.own
        have hl1 := I.l1
        have hl2 := I.l2
        obtain ⟨g, capm, rfl, hBg, hgl, hcell⟩ := hO.fb (by omega)
        have HFz : Hid (∀ W, Own bc 60 5 w.heap.size W (.slice (some ⟨g, 0, none⟩) m.length capm) m → W.cell? ⟨g, fnd b[k].mark a * 5 + 2, none⟩ = some (.int .i64 xm.count) ∧ W.frozen? ⟨g, fnd b[k].mark a * 5 + 2, none⟩ = false) := Lib.hid fun W h => by
          have := h.cf him (j := 2) (by decide)
          rw [← hxm] at this
          exact this
        have HP : Hid (∀ W, Own bc 60 5 w.heap.size W (.slice (some ⟨g, 0, none⟩) m.length capm) m → Own bc 60 5 w.heap.size (W.setCell ⟨g, fnd b[k].mark a * 5 + 2, none⟩ (.int .i64 (xm.count + b[k].count))) (.slice (some ⟨g, 0, none⟩) m.length capm) (m.set (fnd b[k].mark a) (bump xm b[k]))) := Lib.hid fun W h => Own.put h rfl him (by decide) (by rw [← hxm]; exact bump_bc xm b[k])
        have hbd : xm.count + b[k].count ≤ 1000 * (((k + 1 : Nat) : Int) + 1) := by push_cast; omega
        have HKm : Hid ((bump xm b[k]).Ok w ∧ (bump xm b[k]).ds.length ≤ 5 ∧ 1 ≤ (bump xm b[k]).count ∧ (bump xm b[k]).count ≤ 1000 * (((k + 1 : Nat) : Int) + 1)) := Lib.hid ⟨(HI.out.ok xm hmm).1.bump, (HI.out.ok xm hmm).2.1, by show 1 ≤ xm.count + b[k].count; omega, hbd⟩
        have W2 : IntKind.i64.wrap (xm.count + b[k].count) = xm.count + b[k].count := IntWalk.i64_in _ (by omega)
        rw [fndV_in hf] at h38
        have q3 : (0 : Int) ≤ (fnd b[k].mark a : Int) := by omega
        have q4 : ((fnd b[k].mark a : Nat) : Int) < (a.length : Int) := by omega
        have q5 : ((fnd b[k].mark a : Nat) : Int) < (m.length : Int) := by omega
        have g2 : decide (((fnd b[k].mark a : Nat) : Int) < 0) = false := by simp
        rw [vcs, vcs] at h58
        clear hcell hdr I hxm hxa hmem hcb hbd hma hmm hf him hl1
        generalize bump xm b[k] = y at *
        generalize fnd b[k].mark a = i at *
        generalize smB xa b[k] = SM at *
        generalize xm.count = cm at *
        generalize b[k].mark = mk at *
        generalize b[k].size = sz at *
        generalize b[k].count = ct at *
        generalize b[k].code = cd at *
        generalize b[k].ds.length = dl at *
        generalize b[k].cap = dc at *
        generalize b[k].p = dp at *
        unfold Fr5 at hF
        generalize xa.mark = mk2 at *
        generalize xa.size = sz2 at *
        generalize xa.count = ct2 at *
        generalize xa.code = cd2 at *
        generalize xa.ds.length = dl2 at *
        generalize xa.cap = dc2 at *
        generalize xa.p = dp2 at *
        have sM : ∀ W', Env wr W' [⟨wr.heap.size, 60, #[.string mk, .int .i64 sz, .int .i64 ct, .int .i64 cd, .slice dp dl dc]⟩] → (Env wr W' [⟨wr.heap.size, 60, #[.string mk, .int .i64 sz, .int .i64 ct, .int .i64 cd, .slice dp dl dc]⟩] ∧ W'.cell? ⟨wr.heap.size, 0, none⟩ = some (.string mk) ∧ W'.cell? ⟨wr.heap.size, 1, none⟩ = some (.int .i64 sz) ∧ W'.cell? ⟨wr.heap.size, 2, none⟩ = some (.int .i64 ct) ∧ W'.cell? ⟨wr.heap.size, 3, none⟩ = some (.int .i64 cd) ∧ W'.cell? ⟨wr.heap.size, 4, none⟩ = some (.slice dp dl dc) ∧ W'.cell? (a0.add (i * 5)) = some (.string mk2) ∧ W'.cell? ⟨(a0.add (i * 5)).block, (a0.add (i * 5)).off + 1, none⟩ = some (.int .i64 sz2) ∧ W'.cell? ⟨(a0.add (i * 5)).block, (a0.add (i * 5)).off + 2, none⟩ = some (.int .i64 ct2) ∧ W'.cell? ⟨(a0.add (i * 5)).block, (a0.add (i * 5)).off + 3, none⟩ = some (.int .i64 cd2) ∧ W'.cell? ⟨(a0.add (i * 5)).block, (a0.add (i * 5)).off + 4, none⟩ = some (.slice dp2 dl2 dc2)) := fun W' E => by
          obtain ⟨-, x0, x1, x2, x3, x4⟩ := s_b5 E
          obtain ⟨f0, f1, f2, f3, f4⟩ := hF W' (envbb HB.out E)
          exact ⟨E, x0, x1, x2, x3, x4, f0, f1, f2, f3, f4⟩
        have sN : ∀ W', Env wr W' [⟨wr.heap.size, 60, #[.string mk, .int .i64 sz, .int .i64 ct, .int .i64 cd, .slice dp dl dc]⟩] → (Env wr W' [⟨wr.heap.size, 60, #[.string mk, .int .i64 sz, .int .i64 ct, .int .i64 cd, .slice dp dl dc]⟩] ∧ W'.cell? ⟨wr.heap.size, 0, none⟩ = some (.string mk) ∧ W'.cell? ⟨wr.heap.size, 1, none⟩ = some (.int .i64 sz) ∧ W'.cell? ⟨wr.heap.size, 2, none⟩ = some (.int .i64 ct) ∧ W'.cell? ⟨wr.heap.size, 3, none⟩ = some (.int .i64 cd) ∧ W'.cell? ⟨wr.heap.size, 4, none⟩ = some (.slice dp dl dc) ∧ W'.cell? ⟨g, i * 5 + 2, none⟩ = some (.int .i64 cm) ∧ W'.frozen? ⟨g, i * 5 + 2, none⟩ = false) := fun W' E => by
          obtain ⟨-, x0, x1, x2, x3, x4⟩ := s_b5 E
          obtain ⟨f0, f1⟩ := HFz.out W' (own_on hO E.1)
          exact ⟨E, x0, x1, x2, x3, x4, f0, f1⟩
        obtain ⟨-, C0, C1, C2, C3, C4⟩ := s_b5 E
        go_upto_region 10 with (go_at_call 38; (with_reducible refine (h38 _ (envbb HB.out E)).mono ?_); rintro X wq ⟨rfl, hb⟩; replace E := E.on hb; clear hb; obtain ⟨-, C0, C1, C2, C3, C4⟩ := s_b5 E)
        cases SM
        · have HR := Lib.hid (mgE_none (by rw [HE.out]; rfl))
          refine wp_region_plan 10 [(0, true), (1, true), (2, true), (3, true), (4, true), (5, false), (6, true), (7, true), (8, true), (9, true)] (fun W' => Env wr W' [⟨wr.heap.size, 60, #[.string mk, .int .i64 sz, .int .i64 ct, .int .i64 cd, .slice dp dl dc]⟩] ∧ W'.cell? ⟨wr.heap.size, 0, none⟩ = some (.string mk) ∧ W'.cell? ⟨wr.heap.size, 1, none⟩ = some (.int .i64 sz) ∧ W'.cell? ⟨wr.heap.size, 2, none⟩ = some (.int .i64 ct) ∧ W'.cell? ⟨wr.heap.size, 3, none⟩ = some (.int .i64 cd) ∧ W'.cell? ⟨wr.heap.size, 4, none⟩ = some (.slice dp dl dc) ∧ W'.cell? (a0.add (i * 5)) = some (.string mk2) ∧ W'.cell? ⟨(a0.add (i * 5)).block, (a0.add (i * 5)).off + 1, none⟩ = some (.int .i64 sz2) ∧ W'.cell? ⟨(a0.add (i * 5)).block, (a0.add (i * 5)).off + 2, none⟩ = some (.int .i64 ct2) ∧ W'.cell? ⟨(a0.add (i * 5)).block, (a0.add (i * 5)).off + 3, none⟩ = some (.int .i64 cd2) ∧ W'.cell? ⟨(a0.add (i * 5)).block, (a0.add (i * 5)).off + 4, none⟩ = some (.slice dp2 dl2 dc2)) (by kernel_rfl) (by kernel_rfl) (fun _ _ d _ _ h => by cases d <;> exact h) (sM _ E.drw) ?_
          simp only [List.filterMap_cons, List.filterMap_nil, List.getElem?_cons_zero, List.getElem?_cons_succ, Option.map_some, List.drop_succ_cons, List.drop_zero]
          replace E := E.drw
          iterate 5 (first | (refine wpPlan_still (v := ?_) (Or.inl ⟨by rfl, ?_⟩) ?_; rotate_left; (focus (intro W hW; (try dsimp only at hW); go_split_ands; go_simp; try with_reducible rfl)); try simp only [Act.put, List.setIfInBounds_toArray, List.set_cons_zero, List.set_cons_succ]) | (refine wpPlan_still (Or.inr ⟨by rfl, rfl⟩) ?_; try simp only [Act.put, List.setIfInBounds_toArray, List.set_cons_zero, List.set_cons_succ]))
          refine wpPlan_only (fun K hK => ?_)
          try go_simp
          (go_at_call 58; (with_reducible refine (h58 _ (envbb HB.out E)).mono ?_); rintro X wq ⟨rfl, hb⟩)
          replace E := E.on hb
          clear hb
          refine hK.out _ _ (sM _ E) ?_
          clear hK K
          try simp only [Act.put, List.setIfInBounds_toArray, List.set_cons_zero, List.set_cons_succ]
          iterate 4 (first | (refine wpPlan_still (v := ?_) (Or.inl ⟨by rfl, ?_⟩) ?_; rotate_left; (focus (intro W hW; (try dsimp only at hW); go_split_ands; go_simp; try with_reducible rfl)); try simp only [Act.put, List.setIfInBounds_toArray, List.set_cons_zero, List.set_cons_succ]) | (refine wpPlan_still (Or.inr ⟨by rfl, rfl⟩) ?_; try simp only [Act.put, List.setIfInBounds_toArray, List.set_cons_zero, List.set_cons_succ]))
          refine wpPlan_end ?_
          replace C := E.cells
          simp [BC, CF] at C
          go_wp2
          have HB2 := envbb HB.out E
          have HR := HR.out
          refine bodyPost_ret (v := .tuple #[.slice none 0 0, .int .i64 19]) (by simp [results, Tryz.results27, go_sem]) rfl ?_
          rw [HR]
          exact ⟨_, rfl, fun _ => rfl, fun m hm h0 => (by cases h0), HB2⟩
        · have HE2 : Hid (mrg a a b = mrg a (m.set i y) (b.drop (k + 1))) := Lib.hid HE.out
          refine wp_region_plan 10 [(0, true), (1, true), (2, true), (3, true), (4, true), (5, false), (6, true), (7, true), (8, true), (9, true)] (fun W' => Env wr W' [⟨wr.heap.size, 60, #[.string mk, .int .i64 sz, .int .i64 ct, .int .i64 cd, .slice dp dl dc]⟩] ∧ W'.cell? ⟨wr.heap.size, 0, none⟩ = some (.string mk) ∧ W'.cell? ⟨wr.heap.size, 1, none⟩ = some (.int .i64 sz) ∧ W'.cell? ⟨wr.heap.size, 2, none⟩ = some (.int .i64 ct) ∧ W'.cell? ⟨wr.heap.size, 3, none⟩ = some (.int .i64 cd) ∧ W'.cell? ⟨wr.heap.size, 4, none⟩ = some (.slice dp dl dc) ∧ W'.cell? (a0.add (i * 5)) = some (.string mk2) ∧ W'.cell? ⟨(a0.add (i * 5)).block, (a0.add (i * 5)).off + 1, none⟩ = some (.int .i64 sz2) ∧ W'.cell? ⟨(a0.add (i * 5)).block, (a0.add (i * 5)).off + 2, none⟩ = some (.int .i64 ct2) ∧ W'.cell? ⟨(a0.add (i * 5)).block, (a0.add (i * 5)).off + 3, none⟩ = some (.int .i64 cd2) ∧ W'.cell? ⟨(a0.add (i * 5)).block, (a0.add (i * 5)).off + 4, none⟩ = some (.slice dp2 dl2 dc2)) (by kernel_rfl) (by kernel_rfl) (fun _ _ d _ _ h => by cases d <;> exact h) (sM _ E.drw) ?_
          simp only [List.filterMap_cons, List.filterMap_nil, List.getElem?_cons_zero, List.getElem?_cons_succ, Option.map_some, List.drop_succ_cons, List.drop_zero]
          replace E := E.drw
          iterate 5 (first | (refine wpPlan_still (v := ?_) (Or.inl ⟨by rfl, ?_⟩) ?_; rotate_left; (focus (intro W hW; (try dsimp only at hW); go_split_ands; go_simp; try with_reducible rfl)); try simp only [Act.put, List.setIfInBounds_toArray, List.set_cons_zero, List.set_cons_succ]) | (refine wpPlan_still (Or.inr ⟨by rfl, rfl⟩) ?_; try simp only [Act.put, List.setIfInBounds_toArray, List.set_cons_zero, List.set_cons_succ]))
          refine wpPlan_only (fun K hK => ?_)
          try go_simp
          (go_at_call 58; (with_reducible refine (h58 _ (envbb HB.out E)).mono ?_); rintro X wq ⟨rfl, hb⟩)
          replace E := E.on hb
          clear hb
          refine hK.out _ _ (sM _ E) ?_
          clear hK K
          try simp only [Act.put, List.setIfInBounds_toArray, List.set_cons_zero, List.set_cons_succ]
          iterate 4 (first | (refine wpPlan_still (v := ?_) (Or.inl ⟨by rfl, ?_⟩) ?_; rotate_left; (focus (intro W hW; (try dsimp only at hW); go_split_ands; go_simp; try with_reducible rfl)); try simp only [Act.put, List.setIfInBounds_toArray, List.set_cons_zero, List.set_cons_succ]) | (refine wpPlan_still (Or.inr ⟨by rfl, rfl⟩) ?_; try simp only [Act.put, List.setIfInBounds_toArray, List.set_cons_zero, List.set_cons_succ]))
          refine wpPlan_end ?_
          replace C := E.cells
          simp [BC, CF] at C
          go_upto_region 13 with fail
          refine wp_region_plan 10 [(0, true), (1, true), (2, true), (3, true), (4, true), (5, true), (6, true), (7, true), (8, true), (9, true)] (fun W' => Env wr W' [⟨wr.heap.size, 60, #[.string mk, .int .i64 sz, .int .i64 ct, .int .i64 cd, .slice dp dl dc]⟩] ∧ W'.cell? ⟨wr.heap.size, 0, none⟩ = some (.string mk) ∧ W'.cell? ⟨wr.heap.size, 1, none⟩ = some (.int .i64 sz) ∧ W'.cell? ⟨wr.heap.size, 2, none⟩ = some (.int .i64 ct) ∧ W'.cell? ⟨wr.heap.size, 3, none⟩ = some (.int .i64 cd) ∧ W'.cell? ⟨wr.heap.size, 4, none⟩ = some (.slice dp dl dc) ∧ W'.cell? ⟨g, i * 5 + 2, none⟩ = some (.int .i64 cm) ∧ W'.frozen? ⟨g, i * 5 + 2, none⟩ = false) (by kernel_rfl) (by kernel_rfl) (fun _ _ d _ _ h => by cases d <;> exact h) (sN _ E.drw) ?_
          simp only [List.filterMap_cons, List.filterMap_nil, List.getElem?_cons_zero, List.getElem?_cons_succ, Option.map_some, List.drop_succ_cons, List.drop_zero]
          replace E := E.drw
          iterate 10 (first | (refine wpPlan_still (v := ?_) (Or.inl ⟨by rfl, ?_⟩) ?_; rotate_left; (focus (intro W hW; (try dsimp only at hW); go_split_ands; go_simp; try with_reducible rfl)); try simp only [Act.put, List.setIfInBounds_toArray, List.set_cons_zero, List.set_cons_succ]) | (refine wpPlan_still (Or.inr ⟨by rfl, rfl⟩) ?_; try simp only [Act.put, List.setIfInBounds_toArray, List.set_cons_zero, List.set_cons_succ]))
          refine wpPlan_end ?_
          replace C := E.cells
          simp [BC, CF] at C
          have HI2 : Hid (∀ W, Env wr W [⟨wr.heap.size, 60, #[.string mk, .int .i64 sz, .int .i64 ct, .int .i64 cd, .slice dp dl dc]⟩] → Mgi w a b (k + 1) (.slice (some ⟨g, 0, none⟩) m.length capm) (m.set i y) (W.setCell ⟨g, i * 5 + 2, none⟩ (.int .i64 (cm + ct)))) := Lib.hid fun W E => ⟨HE2.out, HP.out _ (own_on hO E.1), by rw [List.length_set]; exact HI.out.l1, by rw [List.length_set]; omega, fun x hx => by
            rcases List.mem_or_eq_of_mem_set hx with h | rfl
            · obtain ⟨h1, h2, h3, h4⟩ := HI.out.ok x h
              exact ⟨h1, h2, h3, by push_cast; omega⟩
            · exact HKm.out, (envbb HB.out E).setCell (p := ⟨g, i * 5 + 2, none⟩) hBg _⟩
          go_wp2
          exact ⟨⟨k + 1, _, _, rfl, rfl, hlt, HI2.out _ E⟩, by simp [intOf]; omega⟩
      · have HE : Hid (mrg a a b = mrg a (m ++ [b[k]]) (b.drop (k + 1))) := Lib.hid (by rw [I.eq, hdr, mrg_new hf])
        have HKb : Hid (b[k].Ok w ∧ b[k].ds.length ≤ 5) := Lib.hid ⟨hB.ok _ hmem, HB5.out _ hmem⟩
        rw [fndV_no hf] at h38
        have hO := I.own
        have hl2 := I.l2
        obtain ⟨i0, hi, hz0, hz1, hz2⟩ := info_parts info60
        clear hf hdr I
        have HX : Hid (∃ x, x = b[k]) := Lib.hid ⟨_, rfl⟩
        obtain ⟨xb, hxb⟩ := HX.out
        have hbx : bc xb = [.string b[k].mark, .int .i64 b[k].size, .int .i64 b[k].count, .int .i64 b[k].code, .slice b[k].p b[k].ds.length b[k].cap] := by rw [hxb]; rfl
        rw [← hxb] at HE HKb
        have HCt : Hid (1 ≤ xb.count ∧ xb.count ≤ 1000) := Lib.hid (by rw [hxb]; exact hcb)
        clear hxb HX hmem hcb
        generalize b[k].mark = mk at *
        generalize b[k].size = sz at *
        generalize b[k].count = ct at *
        generalize b[k].code = cd at *
        generalize b[k].ds.length = dl at *
        generalize b[k].cap = dc at *
        generalize b[k].p = dp at *
        have HE0 := Lib.hid E
        obtain ⟨-, C0, C1, C2, C3, C4⟩ := s_b5 E
        clear E
        go_wp2_with (first
          | (go_at_call 38; (with_reducible refine (h38 _ (envbb HB.out HE0.out)).mono ?_); rintro X wq ⟨rfl, hb⟩; have E2 := HE0.out.on hb; obtain ⟨-, D0, D1, D2, D3, D4⟩ := s_b5 E2; have HN := Has.new_ wq 60 #[.string mk, .int .i64 sz, .int .i64 ct, .int .i64 cd, .slice dp dl dc]; have ho := own_on hO (belows (belows (al1 wr _) hb) (al1 wq (.cells #[.string mk, .int .i64 sz, .int .i64 ct, .int .i64 cd, .slice dp dl dc] 60)))
             have hcl : ∀ (j : Nat) (u : Value), [Value.string mk, .int .i64 sz, .int .i64 ct, .int .i64 cd, .slice dp dl dc][j]? = some u → (wq.alloc (.cells #[.string mk, .int .i64 sz, .int .i64 ct, .int .i64 cd, .slice dp dl dc] 60)).cell? ((⟨wq.heap.size, 0, none⟩ : Addr).add j) = some u := fun j u h => by
               rw [Addr.add_lit, Nat.zero_add, HN.read j]; simpa using h)
          | (at_builtin; refine wpList_append_own_at _ rfl _ _ 22 rfl w.heap.size 60 i0 _ 5 64 Tryz.underlying22 hi hz0 hz1 hz2 rfl (by decide) _ m.length (m.flatMap bc) rfl ho _ 1 1 [.string mk, .int .i64 sz, .int .i64 ct, .int .i64 cd, .slice dp dl dc] rfl rfl hcl (by simp [Value.oneCell']) (by unfold maxLen; omega) (by omega) (by have := (envbb HB.out HE0.out).size; have := hb.size; simp; omega) ?_))
        intro v' w6 r1 r2 r3 r4
        have O7 : Own bc 60 5 w.heap.size w6 v' (m ++ [xb]) := own_snoc (by rw [hbx]; exact r1)
        have ob := belows (envbb HB.out (HE0.out.on hb)) (al1 wq (.cells #[.string mk, .int .i64 sz, .int .i64 ct, .int .i64 cd, .slice dp dl dc] 60))
        have B7 : Below w.heap.size w w6 := ob.grown r2 ob.size (fun q hq => (World.ownsRow.lt hO q hq).1)
        have I2 : Hid (Mgi w a b (k + 1) v' (m ++ [xb]) w6) := Lib.hid ⟨HE.out, O7, by have := HI.out.l1; simp; omega, by simp; omega, fun x hx => by
          rcases List.mem_append.1 hx with hx | hx
          · obtain ⟨h1, h2, h3, h4⟩ := HI.out.ok x hx
            exact ⟨h1, h2, h3, by push_cast; omega⟩
          · rw [List.mem_singleton.1 hx]
            have := HCt.out
            exact ⟨HKb.out.1, HKb.out.2, this.1, by push_cast; omega⟩, B7⟩
        clear r1 r2 r3 r4 O7 ob B7 hO ho hcl HN E2 hb
        go_wp2
        exact ⟨⟨k + 1, _, _, rfl, rfl, hlt, I2.out⟩, by simp [intOf]; omega⟩
    · have g1 : decide ((k : Int) < (b.length : Int)) = false := by simp; omega
      obtain rfl : k = b.length := by omega
      have HS : mrg a a b = some m := by rw [I.eq, List.drop_length]; rfl
      have hE := mgE_some HS
      have hO := I.own
      have hl2 := I.l2
      obtain ⟨pF, cF, rfl, hSl⟩ := hO.slb (fun x hx => (I.ok x hx).1.on I.hb)
      have h59 := big_any pF m cF wr hSl
      have hB0 := I.hb
      cases hbig : m.any bigB
      · rw [hbig] at hE h59
        by_cases hl : 60 < m.length
        · rw [if_neg (by decide), if_pos hl] at hE
          have g2 : decide ((m.length : Int) > 60) = true := by simp; omega
          have HE := Lib.hid hE
          clear hE HS hO I hSl hl
          go_wp2_with (go_at_call 59; (with_reducible refine h59.mono ?_); rintro X wq ⟨rfl, hb⟩)
          refine bodyPost_ret (v := .tuple #[.slice none 0 0, .int .i64 4]) (by simp [results, Tryz.results27, go_sem]) rfl ?_
          rw [HE.out]
          exact ⟨_, rfl, fun _ => rfl, fun m hm h0 => (by cases h0), belows hB0 hb⟩
        · rw [if_neg (by decide), if_neg hl] at hE
          have g2 : decide ((m.length : Int) > 60) = false := by simp; omega
          have HE := Lib.hid hE
          obtain ⟨g, hgB, hgp⟩ := own_blk hO
          have hgl : m.length > 0 → g < wr.heap.size := fun h => by
            have := (World.ownsRow.lt hO g (by rw [hgp h]; rfl)).2; exact this
          have hX0 : ∀ x ∈ m, Okx g w x := fun x hx => ⟨(I.ok x hx).1.nm, (I.ok x hx).2.1, Rdx.of (n := 0) (I.ok x hx).1.rd (fun _ => trivial) hgB⟩
          have HOs := Lib.hid hO
          have HXs := Lib.hid hX0
          have HSs := Lib.hid HS
          have hm60 : m.length ≤ 60 := by omega
          clear hE HS hO I hSl hl hbig hX0 g1
          go_upto_region 20 with (go_at_call 59; (with_reducible refine h59.mono ?_); rintro X wq ⟨rfl, hb⟩)
          have hB1 := belows hB0 hb
          have hO1 := own_on HOs.out hb
          have hX1 : ∀ x ∈ m, Okx g wq x := fun x hx => (HXs.out x hx).on hB1
          have hgq : m.length > 0 → g < wq.heap.size := fun h => Nat.lt_of_lt_of_le (hgl h) hb.size
          clear h59 hb hB0
          go_wp2
          go_loopw [75] (fun v wr => ∃ (j : Nat) (l : List Bar), v = .int .i64 j ∧ j ≤ m.length ∧ Own bc 60 5 w.heap.size wr (.slice pF m.length cF) l ∧ l.map nrm = m.map nrm ∧ Hid (∀ x ∈ l, Okx g wr x) ∧ Below w.heap.size w wr ∧ (m.length > 0 → g < wr.heap.size)) (fun v _ => m.length - (intOf v).toNat)
          case atStart => exact ⟨0, m, rfl, Nat.zero_le _, hO1, rfl, Lib.hid hX1, hB1, hgq⟩
          case round =>
            clear hO1 hX1 hB1 hgq
            obtain ⟨j, l, rfl, hj, hO, hN, hX, hB, hG⟩ := hrel
            have hll : l.length = m.length := by simpa using congrArg List.length hN
            by_cases hlt : j < m.length
            · have g3 : decide ((j : Int) < (m.length : Int)) = true := by simp [hlt]
              have W1 : IntKind.i64.wrap ((j : Int) + 1) = ((j + 1 : Nat) : Int) := by rw [IntWalk.i64_in _ (by omega)]; omega
              have q1 : (0 : Int) ≤ (j : Int) := by omega
              have q2 : (j : Int) < (m.length : Int) := by omega
              obtain rfl := hgp (by omega)
              have hjl : j < l.length := by omega
              have hgw := hG (by omega)
              obtain ⟨x, hx⟩ : ∃ x, x = l[j] := ⟨_, rfl⟩
              have hxl : x ∈ l := by rw [hx]; exact List.getElem_mem _
              have hXx := hX.out x hxl
              have e0 := (hO.cf hjl (j := 0) (by decide)).1
              have e1 := (hO.cf hjl (j := 1) (by decide)).1
              have e2 := (hO.cf hjl (j := 2) (by decide)).1
              have e3 := (hO.cf hjl (j := 3) (by decide)).1
              have e4 := (hO.cf hjl (j := 4) (by decide)).1
              rw [← hx] at e0 e1 e2 e3 e4
              rw [Nat.add_zero, show (bc x)[0]? = some (.string x.mark) from rfl] at e0
              rw [show (bc x)[1]? = some (.int .i64 x.size) from rfl] at e1
              rw [show (bc x)[2]? = some (.int .i64 x.count) from rfl] at e2
              rw [show (bc x)[3]? = some (.int .i64 x.code) from rfl] at e3
              rw [show (bc x)[4]? = some (.slice x.p x.ds.length x.cap) from rfl] at e4
              have hz := fun W (h : Below wr.heap.size wr W) => zclone_any x.p x.ds x.cap W ((hXx.on h).ok.rd) (by have := hXx.ln; omega)
              have HNext : Hid (∀ W v, Below wr.heap.size wr W → g < W.heap.size → ∀ W2, OwnI W.heap.size W2 v x.ds → Below W.heap.size W W2 → ∃ p2 c2, v = .slice p2 x.ds.length c2 ∧ ∃ l2, Own bc 60 5 w.heap.size (W2.setCell ⟨g, j * 5 + 4, none⟩ v) (.slice (some ⟨g, 0, none⟩) m.length cF) l2 ∧ l2.map nrm = m.map nrm ∧ (∀ y ∈ l2, Okx g (W2.setCell ⟨g, j * 5 + 4, none⟩ v) y) ∧ Below w.heap.size w (W2.setCell ⟨g, j * 5 + 4, none⟩ v) ∧ g < (W2.setCell ⟨g, j * 5 + 4, none⟩ v).heap.size) := Lib.hid fun W v hW hgW W2 hv hW2 => by
                obtain ⟨p2, c2, ev, -⟩ := hv.rdz
                have hW12 := belows hW hW2
                refine ⟨p2, c2, ev, l.set j { x with p := p2, cap := c2 }, Own.put (own_on hO hW12) hll hjl (by decide) (by rw [← hx, ev]; rfl), ?_, fun y hy => ?_, (belows hB hW12).setCell (p := ⟨g, j * 5 + 4, none⟩) hgB _, ?_⟩
                · rw [← hN, List.map_set]
                  refine List.ext_getElem (by simp) fun i h1 h2 => ?_
                  rw [List.getElem_set]
                  split
                  · rename_i e; subst e
                    rw [List.getElem_map, ← hx]; rfl
                  · rfl
                · rcases List.mem_or_eq_of_mem_set hy with h | rfl
                  · have := (hX.out y h).on hW12
                    exact ⟨this.nm, this.ln, this.rd.put⟩
                  · refine ⟨hXx.nm, hXx.ln, Rdx.put ?_⟩
                    show Rdx g W2 (.slice p2 x.ds.length c2) x.ds
                    rw [← ev]
                    exact Rdx.own hv hgW
                · have := hW2.size
                  simp [World.setCell]; omega
              have hfr : Hid (∀ W, Below wr.heap.size wr W → W.cell? ⟨g, j * 5 + 4, none⟩ = some (.slice x.p x.ds.length x.cap) ∧ W.frozen? ⟨g, j * 5 + 4, none⟩ = false) := Lib.hid fun W h => by
                have := Own.cf (own_on hO h) hjl (j := 4) (by decide)
                rw [← hx] at this
                exact this
              have E := (Env.nil wr).add wr.heap.size 60 x.cs rfl
              rw [bcs] at E
              clear hO hN hX hB hG hll hx hxl hXx hjl
              generalize x.ds = ds at *
              generalize x.mark = mk at *
              generalize x.size = sz at *
              generalize x.count = ct at *
              generalize x.code = cd at *
              generalize x.cap = dc at *
              generalize x.p = dp at *
              obtain ⟨-, C0, C1, C2, C3, C4⟩ := s_b5 E
              have HE5 := Lib.hid E
              have HGW := Lib.hid hgw
              clear E hgw
              go_wp2_with (go_at_call 61; (with_reducible refine (hz _ (envb HE5.out)).mono ?_); rintro X w7 ⟨v, rfl, hv, hb⟩; obtain ⟨p2, c2, rfl, l2, n1, n2, n3, n4, n5⟩ := HNext.out _ v (envb HE5.out) (Nat.lt_of_lt_of_le HGW.out (envb HE5.out).size) _ hv hb; obtain ⟨d7, f7⟩ := hfr.out _ (belows (envb HE5.out) hb); have HN := Lib.hid (And.intro n1 (And.intro n2 (And.intro n3 (And.intro n4 n5)))); clear n1 n2 n3 n4 n5 hv hb)
              obtain ⟨n1, n2, n3, n4, n5⟩ := HN.out
              exact ⟨⟨j + 1, l2, rfl, hlt, n1, n2, Lib.hid n3, n4, fun _ => n5⟩, by simp [intOf]; omega⟩
            · have g3 : decide ((j : Int) < (m.length : Int)) = false := by simp; omega
              have HR : Hid (∃ p' c', (.slice pF m.length cF : Value) = .slice p' l.length c' ∧ Slb wr p' l c') := Lib.hid (hO.slb fun x hx => (hX.out x hx).ok)
              have HNn := Lib.hid hN
              have HBb := Lib.hid hB
              clear hO hN hX hB hG
              go_wp2
              refine bodyPost_ret (v := .tuple #[.slice pF m.length cF, .int .i64 0]) (by simp [results, Tryz.results27, go_sem]) rfl ?_
              rw [HE.out]
              refine ⟨_, rfl, fun h => absurd rfl h, fun m' hm' _ => ?_, HBb.out⟩
              rw [HSs.out] at hm'
              cases hm'
              obtain ⟨p', c', e1, e2⟩ := HR.out
              exact ⟨p', l, c', e1, e2, HNn.out⟩
      · rw [hbig] at hE h59
        rw [if_pos rfl] at hE
        have HE := Lib.hid hE
        clear hE HS hO I hSl hbig
        go_wp2_with (go_at_call 59; (with_reducible refine h59.mono ?_); rintro X wq ⟨rfl, hb⟩)
        refine bodyPost_ret (v := .tuple #[.slice none 0 0, .int .i64 5]) (by simp [results, Tryz.results27, go_sem]) rfl ?_
        rw [HE.out]
        exact ⟨_, rfl, fun _ => rfl, fun m hm h0 => (by cases h0), belows hB0 hb⟩
end Go.Proofs.YthdafpbmmfelpaaGreatDoor
