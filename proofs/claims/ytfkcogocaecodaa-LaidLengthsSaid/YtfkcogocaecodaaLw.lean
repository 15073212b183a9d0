/- What LaidLengths calls. -/
import Derived.Test.YtfkcogocaecodaaSq
import Derived.Test.YtfkcogocaecodaaLv
import Derived.Deep.CutBlock
import Derived.Laws.StructEq
namespace Go.Proofs.Ytfkcogocaecodaa
open Go.ChangeShapes Go.WideShapes Go.ChangeAt Go.RowKit
set_option linter.unusedVariables false
set_option linter.unusedSimpArgs false

theorem clo18 (b : Bar) (m : ByteArray) (c : Nat) (w : World) (hc : w.cell? ⟨c, 0, none⟩ = some (.string m)) :
    Calls Try.prog 18 #[b.val, .pointer (some ⟨c, 0, none⟩)] w fun e w' => e = .returned (.bool (b.mark.toList == m.toList)) ∧ Below w.heap.size w w' := by
  have b1 := al1 w (.cells b.cs 49)
  have cc := cell_later b1 hc
  have E := (Env.nil w).add w.heap.size 49 b.cs rfl
  have C := E.cells
  unfold Bar.val
  obtain ⟨mk, sz, ct, cd, p, ds, cap⟩ := b
  simp only [Bar.cs] at *
  simp [BC, CF] at C
  go_enter Try.func18, Try.ntmps18
  go_wp2
  go_ret
  exact ⟨rfl, b1⟩
set_option maxRecDepth 100000 in
theorem idx18 (c : Nat) (m : ByteArray) (p : Option Addr) (l : List Bar) (cap : Nat) (w : World) (hS : Slb w p l cap) (hc : w.cell? ⟨c, 0, none⟩ = some (.string m)) :
    Calls Try.prog 17 #[.slice p l.length cap, .func (.func 18) #[] #[.pointer (some ⟨c, 0, none⟩)]] w fun e w' => e = .returned (.int .i64 (fndV m l)) ∧ Below w.heap.size w w' := by
  have hle := fnd_le m l
  have hm := hS.mx
  unfold maxLen at hm
  have HF := Lib.hid (fun k h hk => fnd_lt (m := m) (l := l) (k := k) h hk)
  have HA := Lib.hid (fun h => fnd_at (m := m) (l := l) h)
  obtain ⟨R, hR⟩ : ∃ R : Int, R = fndV m l := ⟨_, rfl⟩
  rw [← hR]
  have HR0 := Lib.hid hR
  clear hR
  go_enter Try.func17, Try.ntmps17
  go_wp2
  go_loopw [8] (fun v wr => ∃ k : Nat, v = .int .i64 k ∧ k ≤ fnd m l ∧ Below w.heap.size w wr) (fun v _ => l.length - (intOf v).toNat)
  case atStart => exact ⟨0, rfl, Nat.zero_le _, Below.refl _ _⟩
  case round =>
    obtain ⟨k, rfl, hk, hB⟩ := hrel
    by_cases hlt : k < l.length
    · have g1 : decide ((k : Int) < (l.length : Int)) = true := by simp [hlt]
      have W1 : IntKind.i64.wrap ((k : Int) + 1) = ((k + 1 : Nat) : Int) := by rw [IntWalk.i64_in _ (by omega)]; omega
      have q1 : (0 : Int) ≤ (k : Int) := by omega
      have q2 : (k : Int) < (l.length : Int) := by omega
      obtain ⟨a, rfl, c0, c1, c2, c3, c4⟩ := (hS.on hB).at_ k hlt
      have hf := clo18 l[k] m c wr (cell_later hB hc)
      rw [vcs] at hf
      by_cases he : k = fnd m l
      · have hx : (l[k].mark.toList == m.toList) = true := by subst he; exact HA.out hlt
        have hlt2 : fnd m l < l.length := by omega
        have HR : Hid (R = (k : Int)) := Lib.hid (by rw [HR0.out, fndV, if_pos hlt2, he])
        rw [hx] at hf
        clear hx hlt2 he
        generalize l[k].mark = mk at *
        generalize l[k].size = sz at *
        generalize l[k].count = ct at *
        generalize l[k].code = cd at *
        generalize l[k].ds.length = dl at *
        generalize l[k].cap = dc at *
        generalize l[k].p = dp at *
        go_wp2_with (go_at_call 18; (with_reducible refine hf.mono ?_); rintro e1 w1 ⟨rfl, b1⟩)
        go_ret
        exact ⟨by rw [HR.out]; rfl, belows hB b1⟩
      · have hx : (l[k].mark.toList == m.toList) = false := HF.out k (by omega) hlt
        have hk2 : k + 1 ≤ fnd m l := by omega
        rw [hx] at hf
        clear hx he
        generalize l[k].mark = mk at *
        generalize l[k].size = sz at *
        generalize l[k].count = ct at *
        generalize l[k].code = cd at *
        generalize l[k].ds.length = dl at *
        generalize l[k].cap = dc at *
        generalize l[k].p = dp at *
        go_wp2_with (go_at_call 18; (with_reducible refine hf.mono ?_); rintro e1 w1 ⟨rfl, b1⟩)
        exact ⟨⟨k + 1, rfl, hk2, belows hB b1⟩, by simp [intOf]; omega⟩
    · have g1 : decide ((k : Int) < (l.length : Int)) = false := by simp; omega
      have HR : Hid (R = -1) := Lib.hid (by rw [HR0.out, fndV, if_neg (by omega)])
      go_wp2
      go_ret
      exact ⟨by rw [HR.out]; rfl, hB⟩
theorem eq54 (x y : Bx) (W : World) : (binOp .eql 54 x.val y.val).run Try.prog W = .ok (.bool (decide (x = y))) W := by
  unfold Bx.val
  rw [run_eql_struct, run_equalIn_agg (ht := by kernel_rfl) (hp := by kernel_rfl)]
  simp [go_sem, Program.fieldsOf, Try.underlying54, Try.underlying24]
  obtain ⟨a, b, c, d, e, f⟩ := x
  obtain ⟨a', b', c', d', e', f'⟩ := y
  simp only [Bx.mk.injEq]
  by_cases h1 : a = a' <;> by_cases h2 : b = b' <;> by_cases h3 : c = c' <;> by_cases h4 : d = d' <;> by_cases h5 : e = e' <;> by_cases h6 : f = f' <;> simp [h1, h2, h3, h4, h5, h6]
set_option maxHeartbeats 4000000 in
set_option maxRecDepth 100000 in
theorem length_20 (x : Bx) (hb : x.bd 1048576) (w : World) : Calls Try.prog 20 #[x.val] w fun e w' => e = .returned (.int .i64 (lenB x)) ∧ Below w.heap.size w w' := by
  obtain ⟨a, b, c, d, e, f⟩ := x
  unfold Bx.bd at hb
  unfold Bx.val lenB
  dsimp only at *
  have W1 : IntKind.i64.wrap (d - a) = d - a := i64w (by unfold I64; omega)
  have W2 : IntKind.i64.wrap (d - a + e) = d - a + e := i64w (by unfold I64; omega)
  have W3 : IntKind.i64.wrap (d - a + e - b) = d - a + e - b := i64w (by unfold I64; omega)
  have W4 : IntKind.i64.wrap (d - a + e - b + f) = d - a + e - b + f := i64w (by unfold I64; omega)
  have W5 : IntKind.i64.wrap (d - a + e - b + f - c) = d - a + e - b + f - c := i64w (by unfold I64; omega)
  have E := (Env.nil w).add w.heap.size 54 #[.int .i64 a, .int .i64 b, .int .i64 c, .int .i64 d, .int .i64 e, .int .i64 f] rfl
  have C := E.cells
  simp [BC, CF] at C
  clear hb
  go_enter Try.func20, Try.ntmps20
  go_wp2
  go_ret
  exact ⟨rfl, envb E⟩
theorem pq_no {x : Int} (h : x ≤ 0) : pq x = 0 := if_neg (by omega)
theorem touch_21 (x y : Bx) (hx : x.ok = true) (hy : y.ok = true) (bx : x.bd 1048576) (by_ : y.bd 1048576) (ht : touch x y) (w : World) : Calls Try.prog 21 #[x.val, y.val] w fun e w' => e = .returned (.tuple #[.int .i64 0, .int .i64 0]) ∧ Below w.heap.size w w' := by
  obtain ⟨a, b, c, d, e, f⟩ := x
  obtain ⟨a', b', c', d', e', f'⟩ := y
  obtain ⟨t1, t2, t3⟩ := ht
  unfold Bx.bd at bx by_
  unfold Bx.ok at hx hy
  unfold Bx.val
  dsimp only at *
  have h := square_ok a b c d e f a' b' c' d' e' f' (gapS a d a' d') (gapS b e b' e') (gapS c f c' f') w hx hy
    (fun W => sdgap_any a d a' d' W (by unfold Sml; omega) (by unfold Sml; omega) (by unfold Sml; omega) (by unfold Sml; omega))
    (fun W => sdgap_any b e b' e' W (by unfold Sml; omega) (by unfold Sml; omega) (by unfold Sml; omega) (by unfold Sml; omega))
    (fun W => sdgap_any c f c' f' W (by unfold Sml; omega) (by unfold Sml; omega) (by unfold Sml; omega) (by unfold Sml; omega))
    (fun _ => 0) rfl (by rw [pq_no t1]; rfl) (by rw [pq_no t2]; rfl) (by rw [pq_no t3]; rfl) (fun i hi => by omega)
  rw [pq_no t1, pq_no t2, pq_no t3] at h
  exact h
theorem boxhull_22 {B : Nat} {w : World} {v : Value} {L : List Bx} (hO : Own cb 54 6 B w v L) (hne : 0 < L.length) (hok : L.all Bx.ok = true) : Calls Try.prog 22 #[v] w fun e w' => e = .returned (.tuple #[(hullL L).val, .int .i64 0]) ∧ Below w.heap.size w w' := by
  obtain ⟨q, c, e, K⟩ := own_rdx hO
  obtain ⟨hl, ⟨rfl, h0⟩ | ⟨g, cap, cur, rfl, hB, hg, hc, hm, hz, ht⟩⟩ := hO
  · omega
  · simp only [Value.slice.injEq] at e
    obtain ⟨rfl, -, rfl⟩ := e
    have hS : Sl w (some ⟨g, 0, none⟩) L := by
      refine ⟨by simp, fun b eb => ?_, by omega⟩
      cases eb
      intro i hi
      obtain ⟨g', eg, k⟩ := K i hi
      simp only [Option.some.injEq, Addr.mk.injEq] at eg
      obtain ⟨rfl, -⟩ := eg
      have h6 := Cx6.of k
      have ea : (⟨g, 0, none⟩ : Addr).add (i * 6) = ⟨g, i * 6, none⟩ := by simp only [Addr.add]; (split <;> simp) <;> omega
      rw [ea]
      exact h6
    match L, hne with
    | x :: l, _ =>
      exact Hull_ok ⟨g, 0, none⟩ x l cap w hS hok (by simpa using hc)
theorem rows_rd {w : World} {g g' n c c' : Nat} {L : List Bx} {zs : List Int} (h1 : Rd cb 6 w (.slice (some ⟨g, 0, none⟩) n c) L) (h2 : Rdz w (.slice (some ⟨g', 0, none⟩) n c') zs) (hn : L.length = n) (hz : L.map lenB = zs) (hb : ∀ b ∈ L, b.bd 1048576 ∧ b.ok = true) :
    ∀ j, j < n → ∃ b, L[j]? = some b ∧ b.bd 1048576 ∧ b.ok = true ∧ Cx6 w g j b ∧ w.cell? ⟨g', j, none⟩ = some (.int .i64 (lenB b)) := by
  intro j hj
  obtain ⟨q, k, e, K⟩ := h1
  obtain ⟨q', k', e', K'⟩ := h2
  simp only [Value.slice.injEq] at e e'
  obtain ⟨rfl, -, rfl⟩ := e
  obtain ⟨rfl, -, rfl⟩ := e'
  obtain ⟨g1, eg, k1⟩ := K j (by omega)
  obtain ⟨a, ea, k2⟩ := K' j (by rw [← hz]; simp; omega)
  simp only [Option.some.injEq, Addr.mk.injEq] at eg ea
  obtain ⟨rfl, -⟩ := eg
  subst ea
  have hm := hb _ (List.getElem_mem (show j < L.length by omega))
  refine ⟨L[j], List.getElem?_eq_getElem _, hm.1, hm.2, Cx6.of k1, ?_⟩
  have e1 : (⟨g', 0, none⟩ : Addr).add j = ⟨g', j, none⟩ := by simp only [Addr.add]; (split <;> simp) <;> omega
  rw [e1] at k2
  rw [k2]
  have : zs[j]? = some (lenB L[j]) := by rw [← hz, List.getElem?_map, List.getElem?_eq_getElem]; rfl
  have h3 := (List.getElem?_eq_some_iff.1 this).2
  rw [h3]
theorem markC_some {l : List Bar} {rs : List Rn} (hv : validR l rs = true) {k : Nat} {x : ByteArray × List Pt} (hx : (lay l rs)[k]? = some x) : markC l rs (k : Int) = (x.1, 0) := by
  have hn : layAt l rs (k : Int) = some x := by
    unfold layAt
    rw [if_pos (by omega : (0 : Int) ≤ (k : Int)), show ((k : Int)).toNat = k by omega, hx]
  unfold markC
  rw [hv, hn]; rfl
theorem hullC_some {l : List Bar} {rs : List Rn} (hv : validR l rs = true) {k : Nat} {x : ByteArray × List Pt} (hx : (lay l rs)[k]? = some x) : hullC l rs (k : Int) = (hullL (lgsP x.2), 0) := by
  have hn : layAt l rs (k : Int) = some x := by
    unfold layAt
    rw [if_pos (by omega : (0 : Int) ≤ (k : Int)), show ((k : Int)).toNat = k by omega, hx]
  obtain ⟨-, h2, -⟩ := lay_near hv (List.mem_of_getElem? hx)
  rw [hullL_legs h2]
  unfold hullC
  rw [hv, hn]; rfl
theorem leg_facts {l : List Bar} {rs : List Rn} (hv : validR l rs = true) {k : Nat} {x : ByteArray × List Pt} (hx : (lay l rs)[k]? = some x) :
    ∃ kb, ∃ hkb : kb < l.length, barB l[kb] = true ∧ fndV x.1 l = (kb : Int) ∧ (lgsP x.2).length = nl l[kb].code ∧ 0 < nl l[kb].code ∧ nl l[kb].code ≤ 6 ∧ (lgsP x.2).map lenB = legs l[kb] ∧ (∀ b ∈ lgsP x.2, b.bd 1048576 ∧ b.ok = true) ∧
      ∀ (j : Nat) (b b' : Bx), (lgsP x.2)[j]? = some b → (lgsP x.2)[j + 1]? = some b' → touch b b' := by
  obtain ⟨h1, h2, h7⟩ := lay_near hv (List.mem_of_getElem? hx)
  obtain ⟨r, hr, b, hb, hbb, hf, k2, hk2, rfl⟩ := lay_mem hv (List.mem_of_getElem? hx)
  obtain ⟨kb, hkb, e, ek⟩ := barOf_mem hb
  subst e
  have n1 := nl_pos (barB_and hbb).1
  have n2 := nl_le (barB_and hbb).1
  refine ⟨kb, hkb, hbb, ?_, by rw [lgsP_len, bpts_len]; omega, n1, n2, lens_legs hbb hf k2, fun b hb => ⟨lgsP_bd h1 hb, lg_ok h1 hb⟩, ?_⟩
  · unfold fndV; rw [← ek, if_pos hkb]
  · intro j b b' e1 e2
    obtain ⟨hl1, e1⟩ := List.getElem?_eq_some_iff.1 e1
    obtain ⟨hl2, e2⟩ := List.getElem?_eq_some_iff.1 e2
    dsimp only at hl1 hl2 e1 e2
    rw [lgsP_len] at hl1 hl2
    have h1 : b = lg (bpts l[kb] r k2) j := by rw [← e1]; simp [lgsP]
    have h2 : b' = lg (bpts l[kb] r k2) (j + 1) := by rw [← e2]; simp [lgsP]
    rw [h1, h2]
    exact lg_touch (by omega)
end Go.Proofs.Ytfkcogocaecodaa
