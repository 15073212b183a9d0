/- slices.Concat of pieces. -/
import Derived.Test.YthdafpbmmfelpaaGreatDoorGr
namespace Go.Proofs.YthdafpbmmfelpaaGreatDoor
open Go.ChangeShapes Go.WideShapes Go.ChangeAt Go.RowKit
set_option linter.unusedVariables false
set_option linter.unusedSimpArgs false

theorem take_flat {α β : Type} (f : α → List β) {R : List α} {k : Nat} (h : k < R.length) : (R.take (k + 1)).flatMap f = (R.take k).flatMap f ++ f R[k] := by
  rw [List.take_succ_eq_append_getElem h, List.flatMap_append]; simp
theorem flat_bd {R : List (Value × List S2)} (h : ∀ r ∈ R, r.2.length ≤ 60) (k : Nat) : ((R.take k).flatMap (·.2)).length ≤ 60 * k := by
  induction k with
  | zero => simp
  | succ k ih =>
    by_cases hk : k < R.length
    · rw [take_flat _ hk, List.length_append]
      have := h R[k] (List.getElem_mem hk)
      omega
    · rw [List.take_of_length_le (by omega)] at ih ⊢
      omega
set_option maxHeartbeats 16000000 in
set_option maxRecDepth 100000 in
theorem concat_any (g0 cp : Nat) (R : List (Value × List S2)) (b : Nat) (w : World) (hl : R.length ≤ 3) (h5 : ∀ r ∈ R, r.2.length ≤ 60)
    (hR : ∀ k (hk : k < R.length), w.cell? ⟨g0, k, none⟩ = some R[k].1 ∧ Own sc 49 2 b w R[k].1 R[k].2) :
    Calls Tryz.prog 33 #[.slice (some ⟨g0, 0, none⟩) R.length cp] w fun e w' => ∃ v, e = .returned v ∧ Own sc 49 2 w.heap.size w' v (R.flatMap (·.2)) ∧ Below w.heap.size w w' := by
  obtain ⟨i0, hi, hz0, hz1, hz2⟩ := info_parts info49
  have HR := Lib.hid hR
  have HBD := Lib.hid (flat_bd h5)
  have H5 := Lib.hid h5
  have HTK := Lib.hid (fun k (h : k < R.length) => take_flat (fun r : Value × List S2 => r.2) h)
  clear hR h5
  go_enter Tryz.func33, Tryz.ntmps33
  go_wp2
  go_loop [3, 11] (fun v3 v11 => ∃ k : Nat, v11 = .int .i64 k ∧ k ≤ R.length ∧ v3 = .int .i64 (((R.take k).flatMap (·.2)).length : Nat)) (fun _ v => R.length - (intOf v).toNat)
  case atStart => exact ⟨0, rfl, Nat.zero_le _, rfl⟩
  case round =>
    obtain ⟨k, rfl, hk, rfl⟩ := hrel
    by_cases hlt : k < R.length
    · have t1 : decide ((k : Int) < (R.length : Int)) = true := by simp; omega
      have V1 : IntKind.i64.wrap ((k : Int) + 1) = ((k + 1 : Nat) : Int) := by rw [IntWalk.i64_in _ (by omega)]; omega
      have u1 : (0 : Int) ≤ (k : Int) := by omega
      have u2 : (k : Int) < (R.length : Int) := by omega
      obtain ⟨c0, ho⟩ := HR.out k hlt
      obtain ⟨q, c, e⟩ := rd_form4 (Own.rd sl ho)
      rw [e] at c0
      have b1 := HBD.out k
      have b2 := H5.out _ (List.getElem_mem hlt)
      have HN := Lib.hid (show ((R.take (k + 1)).flatMap (·.2)).length = ((R.take k).flatMap (·.2)).length + R[k].2.length by rw [HTK.out k hlt, List.length_append])
      clear ho e
      generalize R[k].2.length = n at *
      generalize ((R.take k).flatMap (·.2)).length = s at *
      have V2 : IntKind.i64.wrap ((s : Int) + (n : Int)) = ((s + n : Nat) : Int) := by rw [IntWalk.i64_in _ (by omega)]; omega
      have V3 : decide (((s + n : Nat) : Int) < 0) = false := by simp; omega
      go_wp2
      exact ⟨⟨k + 1, rfl, hlt, by rw [HN.out]; simp⟩, by simp [intOf]; omega⟩
    · have t1 : decide ((k : Int) < (R.length : Int)) = false := by simp; omega
      have b1 := HBD.out k
      have h63 := grow_any ((R.take k).flatMap (·.2)).length w (by omega)
      clear b1
      generalize ((R.take k).flatMap (·.2)).length = s at *
      go_wp2_with (go_at_call 63; (with_reducible refine h63.mono ?_); rintro X w1 ⟨v6, rfl, hO1, hB1⟩)
      clear h63
      go_loopw [6, 27] (fun v6 v27 wr => ∃ (j : Nat) (F : Value), v27 = .int .i64 j ∧ j ≤ R.length ∧ F = v6 ∧ Own sc 49 2 w.heap.size wr F ((R.take j).flatMap (·.2)) ∧ Below w.heap.size w wr) (fun _ v _ => R.length - (intOf v).toNat)
      case atStart => exact ⟨0, v6, rfl, Nat.zero_le _, rfl, hO1, hB1⟩
      case round =>
        obtain ⟨j, F, rfl, hj, rfl, hO, hB⟩ := hrel
        clear hO1 hB1 t1
        by_cases hlj : j < R.length
        · have t1 : decide ((j : Int) < (R.length : Int)) = true := by simp; omega
          have V1 : IntKind.i64.wrap ((j : Int) + 1) = ((j + 1 : Nat) : Int) := by rw [IntWalk.i64_in _ (by omega)]; omega
          have u1 : (0 : Int) ≤ (j : Int) := by omega
          have u2 : (j : Int) < (R.length : Int) := by omega
          obtain ⟨c0, ho⟩ := HR.out j hlj
          have c1 := cell_later hB c0
          have ho1 := ho.on hB
          have b1 := HBD.out j
          have b2 := H5.out _ (List.getElem_mem hlj)
          have HN := Lib.hid (HTK.out j hlj)
          clear c0 ho
          obtain ⟨r, hr⟩ : ∃ r, r = R[j] := ⟨_, rfl⟩
          rw [← hr] at c1 ho1 b2 HN
          clear hr
          obtain ⟨rv, rx⟩ := r
          dsimp only at c1 ho1 b2 HN
          generalize (R.take j).flatMap (·.2) = A at *
          have hwr := hB.size
          have ho1' := ho1
          obtain ⟨hl5, ⟨rfl, h0⟩ | ⟨g, cap, cur, rfl, hg0, hg, hc, hm, hz, ht⟩⟩ := ho1'
          · obtain rfl : rx = [] := List.eq_nil_of_length_eq_zero h0
            clear ho1 hl5 h0 b1 b2
            have HA := Lib.hid (And.intro hO hB)
            have hO' : Own sc 49 2 w.heap.size wr F A := hO
            clear hO hB
            go_wp2_with (at_builtin; refine wpList_append_own_none rfl _ _ 43 rfl w.heap.size 49 i0 2 Tryz.underlying43 hi _ A.length (A.flatMap sc) rfl hO' rfl ?_)
            clear hO'
            go_wp2
            exact ⟨⟨j + 1, F, rfl, hlj, rfl, by rw [HN.out, List.append_nil]; exact HA.out.1, HA.out.2⟩, by simp [intOf]; omega⟩
          · have HNw : Hid (∀ i u, (rx.flatMap sc)[i]? = some u → wr.cell? ((⟨g, 0, none⟩ : Addr).add i) = some u) := Lib.hid fun i u hi => by
              have hil : i < rx.length * 2 := by rw [← hl5]; exact (List.getElem?_eq_some_iff.1 hi).1
              rw [Addr.add_lit, Nat.zero_add, World.ownsRow.cellAt ho1 i hil]; exact hi
            have HL := Lib.hid hl5
            have H1 : ∀ u ∈ rx.flatMap sc, u.oneCell' = true := by
              intro u hu
              obtain ⟨x, -, hx⟩ := List.mem_flatMap.1 hu
              unfold sc at hx
              simp only [List.mem_cons, List.not_mem_nil, or_false] at hx
              rcases hx with rfl | rfl <;> rfl
            have HA := Lib.hid (And.intro hO hB)
            have hO' : Own sc 49 2 w.heap.size wr F A := hO
            clear hO hB ho1 hl5 hg hm hz ht cur
            go_wp2_with (at_builtin; refine wpList_append_own_at _ rfl _ _ 43 rfl w.heap.size 49 i0 _ 2 16 Tryz.underlying43 hi hz0 hz1 hz2 rfl (by decide) _ A.length (A.flatMap sc) rfl hO' ⟨g, 0, none⟩ rx.length cap (rx.flatMap sc) rfl HL.out HNw.out H1 (by unfold maxLen; omega) (by omega) hwr ?_)
            intro v' w6 r1 r2 r3 r4
            have B6 : Below w.heap.size w w6 := HA.out.2.grown r2 HA.out.2.size (fun q hq => (World.ownsRow.lt HA.out.1 q hq).1)
            have O6 : Own sc 49 2 w.heap.size w6 v' (A ++ rx) := by
              unfold Own
              rw [List.length_append, List.flatMap_append]
              exact r1
            have HB := Lib.hid (And.intro O6 B6)
            clear r1 r2 r3 r4 hO' O6 B6
            go_wp2
            exact ⟨⟨j + 1, v', rfl, hlj, rfl, by rw [HN.out]; exact HB.out.1, HB.out.2⟩, by simp [intOf]; omega⟩
        · have t1 : decide ((j : Int) < (R.length : Int)) = false := by simp; omega
          have e : R.take j = R := List.take_of_length_le (by omega)
          rw [e] at hO
          have HA := Lib.hid (And.intro hO hB)
          clear hO hB e
          go_wp2
          go_ret
          exact ⟨_, rfl, HA.out.1, HA.out.2⟩
end Go.Proofs.YthdafpbmmfelpaaGreatDoor
