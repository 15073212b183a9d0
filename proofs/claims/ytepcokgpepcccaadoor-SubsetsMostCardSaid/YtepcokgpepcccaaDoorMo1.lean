/- SubsetsMost: a map from colours to places; the numbers of a part. -/
import Derived.Test.YtepcokgpepcccaaDoorMo0
import Derived.Test.YtepcokgpepcccaaDoorNse
import Derived.Test.YtepcokgpepcccaaDoorOr1
import Derived.Maps.OwnOps
import Derived.Maps.OwnSet
import Derived.Maps.Views
namespace Go.Proofs.YtepcokgpepcccaaDoor
open Go.ChangeShapes Go.WideShapes Go.ChangeAt Go.RowKit Go.Maps
set_option linter.unusedVariables false
set_option linter.unusedSimpArgs false

/-- A map whose values are below m. -/
def Ofm (w : World) (b n m : Nat) : Prop := ∃ D : DataW Unit, w.ownsMap Tryd.prog 5 (plainElem Tryd.prog 3) b n D ∧ IsMap D ∧ ∀ k : Nat, has D (.int .u8 k) = true → ∃ v : Nat, v < m ∧ D.atKey (.int .u8 k) (.lit (.int .i64 0)) = .lit (.int .i64 v)
theorem keyed5 : Keyed Tryd.prog 5 := int_keyed Tryd.underlying5
theorem zero3 (w : World) : (zeroValue 3).run Tryd.prog w = .ok (.int .i64 0) w := by kernel_rfl
theorem u8_wf {k : Nat} (h : k < 256) : (Lit.int .u8 (k : Int)).wf = true := by
  simp [Lit.wf, IntKind.min, IntKind.max, IntKind.bits, IntKind.signed]; omega
theorem i64_wfn {k : Nat} (h : k ≤ 100000) : (Lit.int .i64 (k : Int)).wf = true := by
  simp [Lit.wf, IntKind.min, IntKind.max, IntKind.bits, IntKind.signed]; omega
theorem key_u {k : Nat} (h : k < 256) : keyOf Tryd.prog 5 (.int .u8 (k : Int)) = some (.int .u8 (k : Int)) := keyOf_int_mk Tryd.underlying5 (u8_wf h)
theorem Ofm.made (w : World) : Ofm (w.alloc (.map #[] 0)) w.heap.size 0 0 :=
  ⟨.map [], World.ownsMap_made _ _ _ _, isMap_empty, fun k h => by simp [has_eq] at h⟩
theorem Ofm.on {w w1 : World} {b n m : Nat} (h : Ofm w b n m) (hb : Below w.heap.size w w1) : Ofm w1 b n m := by
  obtain ⟨D, ⟨es, clock, hw, F, hs, hD⟩, hm, hk⟩ := h
  exact ⟨D, ⟨es, clock, (hb.block b (Array.getElem?_eq_some_iff.1 hw).1).trans hw, F, hs, hD⟩, hm, hk⟩
theorem Ofm.lt {w : World} {b n m : Nat} (h : Ofm w b n m) : b < w.heap.size := by
  obtain ⟨D, ⟨es, clock, hw, F, hs, hD⟩, hm, hk⟩ := h
  exact (Array.getElem?_eq_some_iff.1 hw).1
theorem Ofm.kept {w w1 : World} {b n m : Nat} {row : Option Nat} (h : Ofm w b n m) (hg : w.grownBy w1 row) (hr : some b ≠ row) : Ofm w1 b n m := by
  obtain ⟨D, ⟨es, clock, hw, F, hs, hD⟩, hm, hk⟩ := h
  exact ⟨D, ⟨es, clock, (hg.block b (Array.getElem?_eq_some_iff.1 hw).1 hr).trans hw, F, hs, hD⟩, hm, hk⟩
set_option maxRecDepth 100000 in
theorem Ofm.look {w : World} {b n m k : Nat} (h : Ofm w b n m) (hk : k < 256) : ∃ (c : Int) (f : Bool), (Instr.lookup 53 (.map (some b)) (.int .u8 (k : Int)) true).run Tryd.prog w = .ok (.tuple #[.int .i64 c, .bool f]) w ∧ (f = true → ∃ v : Nat, v < m ∧ c = (v : Int)) := by
  obtain ⟨D, ho, hm, hx⟩ := h
  obtain ⟨v, ps, hrun, hv⟩ := ho.look_ok keyed5 Tryd.underlying53 (zero3 w) (plainElem_int Tryd.underlying3 (by decide)) (key_u hk)
  obtain ⟨c, rfl, hc, hwc⟩ := plainElem_int_inv Tryd.underlying3 hv
  refine ⟨c, _, hrun, fun hf => ?_⟩
  obtain ⟨u, hu, e⟩ := hx k hf
  have hc := congrArg Prod.fst hc
  simp only at hc
  rw [e] at hc
  simp only [DataW.lit.injEq, Lit.int.injEq, true_and] at hc
  exact ⟨u, hu, hc.symm⟩
theorem Ofm.put {w : World} {b n m k : Nat} (h : Ofm w b n m) (hk : k < 256) (hn : n ≤ 100000) (hm' : m ≤ 100000) : ∃ w', (Instr.mapUpdate 53 (.map (some b)) (.int .u8 (k : Int)) (.int .i64 (m : Int))).run Tryd.prog w = .ok () w' ∧ Ofm w' b (n + 1) (m + 1) ∧ w.grownBy w' (some b) := by
  obtain ⟨D, ho, hm, hx⟩ := h
  obtain ⟨w', hrun, ho', hg⟩ := ho.update keyed5 Tryd.underlying53 (by unfold maxLen; omega) (key_u hk) (plainElem_int Tryd.underlying3 (i64_wfn hm'))
  refine ⟨w', hrun, ⟨_, ho', hm.put _ _, fun j hj => ?_⟩, hg⟩
  by_cases e : j = k
  · subst e
    exact ⟨m, by omega, by rw [atKey_put_same hm (by trivial)]⟩
  · have hne : (Lit.int .u8 (j : Int)) ≠ Lit.int .u8 (k : Int) := by intro e2; cases e2; exact e rfl
    rw [has_put_other hne] at hj
    obtain ⟨v, hv, e3⟩ := hx j hj
    exact ⟨v, by omega, by rw [atKey_put_other hne]; exact e3⟩
theorem pts_cand {F : Nat → Int} {M : Nat → Nat} {r : Nat} {ps : List Nat} (h : Pts F M r ps) : ∀ p ∈ ps, p ≠ 0 ∧ ∃ r', r' ≤ r ∧ cand F M r' p := by
  induction h with
  | nil => intro p hp; cases hp
  | cons a b c d ih =>
    rename_i rest q ps
    intro p hp
    rcases List.mem_cons.1 hp with rfl | hp
    · rcases c.1 with e | e
      · exact absurd e b
      · exact ⟨b, _, Nat.le_refl _, e⟩
    · obtain ⟨h1, r', h2, h3⟩ := ih p hp
      exact ⟨h1, r', by omega, h3⟩
theorem sel_ok {zs xs : List Int} (h : allZ zs = true) : ∀ x ∈ sel zs xs, okZ x = true := fun x hx => by
  obtain ⟨y, -, rfl⟩ := List.mem_map.1 hx
  have := okz_of h y.toNat
  unfold okZ
  simp only [Bool.and_eq_true, decide_eq_true_eq]
  exact this
theorem sel_len (zs xs : List Int) : (sel zs xs).length = xs.length := by simp [sel]
theorem sel_take (zs xs : List Int) (k : Nat) (h : k < xs.length) : sel zs (xs.take (k + 1)) = sel zs (xs.take k) ++ [zs.getD (xs[k]).toNat 0] := by
  unfold sel
  rw [List.take_succ_eq_append_getElem h, List.map_append]
  rfl
/-- Zero of the numbers of a part: all of them. -/
theorem zero_part (v : Value) (zs : List Int) (r p : Nat) (w : World) (hT : Tab w) (h0 : fau zs = 0) (hl : zs.length ≤ 10) (hr : r < 2 ^ zs.length) (hc : cand (SF zs) (MF zs) r p) (p0 : p ≠ 0) (hR : Rdz w v (sel zs (toZ (ixs zs.length p)))) :
    Calls Tryd.prog 20 #[v] w fun e w' => ∃ q c, e = .returned (.tuple #[.slice q (toZ (ixs zs.length p)).length c, .int .i64 0]) ∧ Below w.heap.size w w' := by
  have hz := (fau_zero h0).2
  obtain ⟨P, hP⟩ : ∃ P, P = sel zs (toZ (ixs zs.length p)) := ⟨_, rfl⟩
  have hPl : P.length = (toZ (ixs zs.length p)).length := by rw [hP, sel_len]
  have hPl2 : P.length ≤ zs.length := by rw [hPl, toZ_len]; exact ixs_len _ _
  have hf : fau P = 0 := fau_of h0 (by omega) (by rw [hP]; exact sel_ok hz)
  have hw := whole_zero hl hr hc p0 P hP
  rw [← hP] at hR
  refine (zero_good v P w hR hT hf (by omega)).mono fun e w' ⟨x, c, he, hG, hb⟩ => ?_
  rw [hw] at hG
  obtain ⟨rfl, hb2, q, cc, ex, -⟩ := hG
  have e2 : (toZ (ixs 10 (2 ^ P.length - 1))).length = P.length := by
    rw [ixs_more _ _ _ hb2 (by omega), toZ_len]
    unfold ixs
    rw [List.filter_eq_self.2 fun i hi => by rw [Nat.testBit_two_pow_sub_one]; exact decide_eq_true (List.mem_range.1 hi)]
    simp
  rw [e2, hPl] at ex
  subst ex
  exact ⟨q, cc, he, hb⟩
/-- A list of bytes that is read. -/
def Rdu (w : World) (v : Value) (bs : List Nat) : Prop := ∃ q c, v = .slice q bs.length c ∧ ∀ j (h : j < bs.length), ∃ a, q = some a ∧ w.cell? (a.add j) = some (.int .u8 (bs[j] : Nat)) ∧ bs[j] < 256
theorem Rdu.on {w w1 : World} {v : Value} {bs : List Nat} (h : Rdu w v bs) (hb : Below w.heap.size w w1) : Rdu w1 v bs := by
  obtain ⟨q, c, rfl, k⟩ := h
  refine ⟨q, c, rfl, fun j hj => ?_⟩
  obtain ⟨g, e, hc, hl⟩ := k j hj
  exact ⟨g, e, cell_later hb hc, hl⟩
end Go.Proofs.YtepcokgpepcccaaDoor
