/- The reference: Same. -/
import Derived.Test.YthdafpbmmfelpaaGreatDoorMp
import Derived.Test.YthdafpbmmfelpaaGreatDoorWd
import Derived.Deep.RegionHeld3
import Derived.StillTailTactics
import Derived.Deep.CutBlock
import Derived.Deep.QuietTactic
namespace Go.Proofs.YthdafpbmmfelpaaGreatDoor
open Go.ChangeShapes Go.WideShapes Go.ChangeAt Go.RowKit
set_option linter.unusedVariables false
set_option linter.unusedSimpArgs false

set_option maxHeartbeats 16000000 in
set_option maxRecDepth 100000 in
theorem rSame_list (p q : Option Addr) (a b : List Bar) (cp cq : Nat) (w : World) (hA : Slb w p a cp) (hB : Slb w q b cq) (hd : ∀ x ∈ a, x.ds.length ≤ 1000) :
    Calls Tryz.prog 22 #[.slice p a.length cp, .slice q b.length cq] w fun e w' => ∃ R, e = .returned (.bool R) ∧ (R = true ↔ a.map nrm = b.map nrm) ∧ Below w.heap.size w w' := by
  have hma := hA.mx
  have hmb := hB.mx
  unfold maxLen at hma hmb
  by_cases hl : ¬ a.length = b.length
  · have t1 : ((a.length : Int) != (b.length : Int)) = true := by simp; omega
    have HL := Lib.hid hl
    clear hl
    go_enter Tryz.func22, Tryz.ntmps22
    go_wp2
    go_ret
    refine ⟨false, rfl, ⟨fun h => (by cases h), fun h => ?_⟩, Below.refl _ _⟩
    have := congrArg List.length h
    simp at this
    exact absurd this HL.out
  rw [Decidable.not_not] at hl
  have t1 : ((a.length : Int) != (b.length : Int)) = false := by simp; omega
  have HL := Lib.hid hl
  have HD := Lib.hid hd
  clear hl hd
  go_enter Tryz.func22, Tryz.ntmps22
  go_wp2
  go_loopw [5] (fun v wr => ∃ k : Nat, v = .int .i64 k ∧ k ≤ a.length ∧ Hid ((a.take k).map nrm = (b.take k).map nrm) ∧ Below w.heap.size w wr) (fun v _ => a.length - (intOf v).toNat)
  case atStart => exact ⟨0, rfl, Nat.zero_le _, Lib.hid rfl, Below.refl _ _⟩
  case round =>
    obtain ⟨k, rfl, hk, hE, hB0⟩ := hrel
    by_cases hlt : k < a.length
    · have hlt2 : k < b.length := by rw [← HL.out]; exact hlt
      have g1 : decide ((k : Int) < (a.length : Int)) = true := by simp [hlt]
      have W1 : IntKind.i64.wrap ((k : Int) + 1) = ((k + 1 : Nat) : Int) := by rw [IntWalk.i64_in _ (by omega)]; omega
      have q1 : (0 : Int) ≤ (k : Int) := by omega
      have q2 : (k : Int) < (a.length : Int) := by omega
      have q3 : (k : Int) < (b.length : Int) := by omega
      obtain ⟨a0, rfl, hx⟩ := (hA.on hB0).at_ k hlt
      obtain ⟨b0, rfl, hy⟩ := (hB.on hB0).at_ k hlt2
      have hAB : Hid (∀ R : Prop, a.map nrm = b.map nrm → nrm a[k] = nrm b[k]) := Lib.hid fun _ h => by
        have h1 : (a.map nrm)[k]? = (b.map nrm)[k]? := by rw [h]
        simpa [hlt, hlt2] using h1
      have HSn : Hid (nrm a[k] = nrm b[k] → (a.take (k + 1)).map nrm = (b.take (k + 1)).map nrm) := Lib.hid fun h => by
        rw [List.take_succ_eq_append_getElem hlt, List.take_succ_eq_append_getElem hlt2, List.map_append, List.map_append, hE.out]
        simp [h]
      have HDX := Lib.hid (fun j h => dims_at ((hA.ok _ (List.getElem_mem hlt)).on hB0) (k := j) h)
      have HDY := Lib.hid (fun j h => dims_at ((hB.ok _ (List.getElem_mem hlt2)).on hB0) (k := j) h)
      have hxd := HD.out _ (List.getElem_mem hlt)
      obtain ⟨x, hxx⟩ : ∃ x, x = a[k] := ⟨_, rfl⟩
      obtain ⟨y, hyy⟩ : ∃ y, y = b[k] := ⟨_, rfl⟩
      rw [← hxx] at hx hAB HSn HDX hxd
      rw [← hyy] at hy hAB HSn HDY
      clear hxx hyy
      obtain ⟨xm, xs, xn, xc, xp, xd, xk⟩ := x
      obtain ⟨ym, ys, yn, yc, yp, yd, yk⟩ := y
      have HN : Hid (a.map nrm = b.map nrm → xm = ym ∧ xs = ys ∧ xn = yn ∧ xc = yc ∧ xd = yd) := Lib.hid fun h => by
        have := hAB.out True h
        simpa [nrm] using this
      have HY : Hid (xm = ym → xs = ys → xn = yn → xc = yc → xd = yd → (a.take (k + 1)).map nrm = (b.take (k + 1)).map nrm) := Lib.hid fun h1 h2 h3 h4 h5 => HSn.out (by simp [nrm, h1, h2, h3, h4, h5])
      obtain ⟨x0, x1, x2, x3, x4⟩ := hx
      obtain ⟨y0, y1, y2, y3, y4⟩ := hy
      clear hAB HSn
      dsimp only at *
      go_upto_region 6 with fail
      go_region_held3 (fun W => W.cell? (a0.add (k * 5)) = some (.string xm) ∧ W.cell? ⟨(a0.add (k * 5)).block, (a0.add (k * 5)).off + 1, none⟩ = some (.int .i64 xs) ∧ W.cell? ⟨(a0.add (k * 5)).block, (a0.add (k * 5)).off + 2, none⟩ = some (.int .i64 xn) ∧ W.cell? ⟨(a0.add (k * 5)).block, (a0.add (k * 5)).off + 3, none⟩ = some (.int .i64 xc) ∧ W.cell? ⟨(a0.add (k * 5)).block, (a0.add (k * 5)).off + 4, none⟩ = some (.slice xp xd.length xk) ∧ W.cell? (b0.add (k * 5)) = some (.string ym) ∧ W.cell? ⟨(b0.add (k * 5)).block, (b0.add (k * 5)).off + 1, none⟩ = some (.int .i64 ys) ∧ W.cell? ⟨(b0.add (k * 5)).block, (b0.add (k * 5)).off + 2, none⟩ = some (.int .i64 yn) ∧ W.cell? ⟨(b0.add (k * 5)).block, (b0.add (k * 5)).off + 3, none⟩ = some (.int .i64 yc) ∧ W.cell? ⟨(b0.add (k * 5)).block, (b0.add (k * 5)).off + 4, none⟩ = some (.slice yp yd.length yk)) (first | (refine ⟨x0, x1, x2, x3, x4, y0, y1, y2, y3, y4⟩) | (go_split_ands; assumption) | go_keep) (fail)
      · have E := (((Env.nil wr).add wr.heap.size 60 #[.string xm, .int .i64 xs, .int .i64 xn, .int .i64 xc, .slice xp xd.length xk] rfl).add (wr.heap.size + 1) 60 #[.string ym, .int .i64 ys, .int .i64 yn, .int .i64 yc, .slice yp yd.length yk] (by simp)).drw
        obtain ⟨-, s0, s1, s2, s3, s4⟩ := s_b5 E
        obtain ⟨-, f0, f1, f2, f3, f4⟩ := s_b5 E.tail
        have HBv := Lib.hid (belows hB0 (envb E))
        have HWv := fun (A : Addr) (v : Value) (h : wr.cell? A = some v) => cell_later (envb E) h
        clear E x0 x1 x2 x3 x4 y0 y1 y2 y3 y4
        generalize ((wr.alloc (.cells #[.string xm, .int .i64 xs, .int .i64 xn, .int .i64 xc, .slice xp xd.length xk] 60)).alloc (.cells #[.string ym, .int .i64 ys, .int .i64 yn, .int .i64 yc, .slice yp yd.length yk] 60)).drew = wv at *
        generalize wr.heap.size + 1 = gs at *
        generalize wr.heap.size = gf at *
        cases hb : (xm.toList == ym.toList)
        · go_wp2
          go_ret
          refine ⟨false, rfl, ⟨fun h => (by cases h), fun h => ?_⟩, HBv.out⟩
          have hn := HN.out h
          rw [hn.1] at hb; simp at hb
        have hk_m := hb
        clear hb
        cases hb : (xs != ys)
        rotate_left
        · go_wp2
          go_ret
          refine ⟨false, rfl, ⟨fun h => (by cases h), fun h => ?_⟩, HBv.out⟩
          have hn := HN.out h
          rw [hn.2.1] at hb; simp at hb
        have hk_s := hb
        clear hb
        cases hb : (xn != yn)
        rotate_left
        · go_wp2
          go_ret
          refine ⟨false, rfl, ⟨fun h => (by cases h), fun h => ?_⟩, HBv.out⟩
          have hn := HN.out h
          rw [hn.2.2.1] at hb; simp at hb
        have hk_n := hb
        clear hb
        cases hb : (xc != yc)
        rotate_left
        · go_wp2
          go_ret
          refine ⟨false, rfl, ⟨fun h => (by cases h), fun h => ?_⟩, HBv.out⟩
          have hn := HN.out h
          rw [hn.2.2.2.1] at hb; simp at hb
        have hk_c := hb
        clear hb
        cases hb : ((xd.length : Int) != (yd.length : Int))
        rotate_left
        · go_wp2
          go_ret
          refine ⟨false, rfl, ⟨fun h => (by cases h), fun h => ?_⟩, HBv.out⟩
          have hn := HN.out h
          rw [hn.2.2.2.2] at hb; simp at hb
        have hk_l := hb
        clear hb
        have el : xd.length = yd.length := by simp at hk_l; omega
        have HX2 : Hid (∀ j (h : j < xd.length), ∃ a, xp = some a ∧ wv.cell? (a.add j) = some (.int .i64 xd[j])) := Lib.hid fun j h => by
          obtain ⟨a, e, c⟩ := HDX.out j h
          exact ⟨a, e, HWv _ _ c⟩
        have HY2 : Hid (∀ j (h : j < yd.length), ∃ a, yp = some a ∧ wv.cell? (a.add j) = some (.int .i64 yd[j])) := Lib.hid fun j h => by
          obtain ⟨a, e, c⟩ := HDY.out j h
          exact ⟨a, e, HWv _ _ c⟩
        have HEL := Lib.hid el
        clear el HWv
        go_upto_region 9 with fail
        go_wp2
        go_loopw [8] (fun v wr => ∃ j : Nat, v = .int .i64 j ∧ j ≤ xd.length ∧ Hid (∀ i (h1 : i < xd.length) (h2 : i < yd.length), i < j → xd[i] = yd[i]) ∧ ∃ n, wr = wv.drewN n) (fun v _ => xd.length - (intOf v).toNat)
        case atStart => exact ⟨0, rfl, Nat.zero_le _, Lib.hid (fun i h1 h2 h => absurd h (Nat.not_lt_zero i)), 0, rfl⟩
        case round =>
          obtain ⟨j, rfl, hj, hJ, nd, rfl⟩ := hrel
          by_cases hjl : j < xd.length
          · have hjl2 : j < yd.length := by rw [← HEL.out]; exact hjl
            have g3 : decide ((j : Int) < (xd.length : Int)) = true := by simp [hjl]
            have W3 : IntKind.i64.wrap ((j : Int) + 1) = ((j + 1 : Nat) : Int) := by rw [IntWalk.i64_in _ (by omega)]; omega
            have p1 : (0 : Int) ≤ (j : Int) := by omega
            have p2 : (j : Int) < (xd.length : Int) := by omega
            have p3 : (j : Int) < (yd.length : Int) := by omega
            obtain ⟨ax, rfl, cx⟩ := HX2.out j hjl
            obtain ⟨ay, rfl, cy⟩ := HY2.out j hjl2
            obtain ⟨u, hu⟩ : ∃ u, u = xd[j] := ⟨_, rfl⟩
            obtain ⟨v, hv⟩ : ∃ v, v = yd[j] := ⟨_, rfl⟩
            rw [← hu] at cx
            rw [← hv] at cy
            have HU := Lib.hid hu
            have HV := Lib.hid hv
            clear hu hv
            by_cases e : u = v
            · have t2 : (u != v) = false := by simp [e]
              have HJ2 : Hid (∀ i (h1 : i < xd.length) (h2 : i < yd.length), i < j + 1 → xd[i] = yd[i]) := Lib.hid fun i h1 h2 h => by
                rcases Nat.lt_or_ge i j with h3 | h3
                · exact hJ.out i h1 h2 h3
                · obtain rfl : i = j := by omega
                  rw [← HU.out, ← HV.out, e]
              clear e
              go_wp2_with fail
              go_quiet (fail)
              go_wp2
              exact ⟨⟨j + 1, rfl, hjl, HJ2, _, rfl⟩, by simp [intOf]; omega⟩
            · have t2 : (u != v) = true := by simp [e]
              have HNe := Lib.hid e
              clear e
              go_wp2_with fail
              go_quiet (fail)
              go_wp2
              go_ret
              refine ⟨false, rfl, ⟨fun h => (by cases h), fun h => ?_⟩, by first | exact below_drewN HBv.out _ | exact below_drewN (below_drewN HBv.out _) _⟩
              obtain ⟨-, -, -, -, h5⟩ := HN.out h
              subst h5
              exact absurd (by rw [HU.out, HV.out]) HNe.out
          · have g3 : decide ((j : Int) < (xd.length : Int)) = false := by simp; omega
            have h5 : xd = yd := List.ext_getElem HEL.out fun i h1 h2 => hJ.out i h1 h2 (by omega)
            have HZ : Hid ((a.take (k + 1)).map nrm = (b.take (k + 1)).map nrm) := Lib.hid (HY.out (eqN_iff.1 hk_m) (by simpa using hk_s) (by simpa using hk_n) (by simpa using hk_c) h5)
            clear h5
            go_wp2
            exact ⟨⟨k + 1, rfl, hlt, HZ, by first | exact below_drewN HBv.out _ | exact HBv.out⟩, by simp [intOf]; omega⟩
      · have E := (((Env.nil wr).add wr.heap.size 60 #[.string ym, .int .i64 ys, .int .i64 yn, .int .i64 yc, .slice yp yd.length yk] rfl).add (wr.heap.size + 1) 60 #[.string xm, .int .i64 xs, .int .i64 xn, .int .i64 xc, .slice xp xd.length xk] (by simp)).drw
        obtain ⟨-, s0, s1, s2, s3, s4⟩ := s_b5 E
        obtain ⟨-, f0, f1, f2, f3, f4⟩ := s_b5 E.tail
        have HBv := Lib.hid (belows hB0 (envb E))
        have HWv := fun (A : Addr) (v : Value) (h : wr.cell? A = some v) => cell_later (envb E) h
        clear E x0 x1 x2 x3 x4 y0 y1 y2 y3 y4
        generalize ((wr.alloc (.cells #[.string ym, .int .i64 ys, .int .i64 yn, .int .i64 yc, .slice yp yd.length yk] 60)).alloc (.cells #[.string xm, .int .i64 xs, .int .i64 xn, .int .i64 xc, .slice xp xd.length xk] 60)).drew = wv at *
        generalize wr.heap.size + 1 = gs at *
        generalize wr.heap.size = gf at *
        cases hb : (xm.toList == ym.toList)
        · go_wp2
          go_ret
          refine ⟨false, rfl, ⟨fun h => (by cases h), fun h => ?_⟩, HBv.out⟩
          have hn := HN.out h
          rw [hn.1] at hb; simp at hb
        have hk_m := hb
        clear hb
        cases hb : (xs != ys)
        rotate_left
        · go_wp2
          go_ret
          refine ⟨false, rfl, ⟨fun h => (by cases h), fun h => ?_⟩, HBv.out⟩
          have hn := HN.out h
          rw [hn.2.1] at hb; simp at hb
        have hk_s := hb
        clear hb
        cases hb : (xn != yn)
        rotate_left
        · go_wp2
          go_ret
          refine ⟨false, rfl, ⟨fun h => (by cases h), fun h => ?_⟩, HBv.out⟩
          have hn := HN.out h
          rw [hn.2.2.1] at hb; simp at hb
        have hk_n := hb
        clear hb
        cases hb : (xc != yc)
        rotate_left
        · go_wp2
          go_ret
          refine ⟨false, rfl, ⟨fun h => (by cases h), fun h => ?_⟩, HBv.out⟩
          have hn := HN.out h
          rw [hn.2.2.2.1] at hb; simp at hb
        have hk_c := hb
        clear hb
        cases hb : ((xd.length : Int) != (yd.length : Int))
        rotate_left
        · go_wp2
          go_ret
          refine ⟨false, rfl, ⟨fun h => (by cases h), fun h => ?_⟩, HBv.out⟩
          have hn := HN.out h
          rw [hn.2.2.2.2] at hb; simp at hb
        have hk_l := hb
        clear hb
        have el : xd.length = yd.length := by simp at hk_l; omega
        have HX2 : Hid (∀ j (h : j < xd.length), ∃ a, xp = some a ∧ wv.cell? (a.add j) = some (.int .i64 xd[j])) := Lib.hid fun j h => by
          obtain ⟨a, e, c⟩ := HDX.out j h
          exact ⟨a, e, HWv _ _ c⟩
        have HY2 : Hid (∀ j (h : j < yd.length), ∃ a, yp = some a ∧ wv.cell? (a.add j) = some (.int .i64 yd[j])) := Lib.hid fun j h => by
          obtain ⟨a, e, c⟩ := HDY.out j h
          exact ⟨a, e, HWv _ _ c⟩
        have HEL := Lib.hid el
        clear el HWv
        go_upto_region 9 with fail
        go_wp2
        go_loopw [8] (fun v wr => ∃ j : Nat, v = .int .i64 j ∧ j ≤ xd.length ∧ Hid (∀ i (h1 : i < xd.length) (h2 : i < yd.length), i < j → xd[i] = yd[i]) ∧ ∃ n, wr = wv.drewN n) (fun v _ => xd.length - (intOf v).toNat)
        case atStart => exact ⟨0, rfl, Nat.zero_le _, Lib.hid (fun i h1 h2 h => absurd h (Nat.not_lt_zero i)), 0, rfl⟩
        case round =>
          obtain ⟨j, rfl, hj, hJ, nd, rfl⟩ := hrel
          by_cases hjl : j < xd.length
          · have hjl2 : j < yd.length := by rw [← HEL.out]; exact hjl
            have g3 : decide ((j : Int) < (xd.length : Int)) = true := by simp [hjl]
            have W3 : IntKind.i64.wrap ((j : Int) + 1) = ((j + 1 : Nat) : Int) := by rw [IntWalk.i64_in _ (by omega)]; omega
            have p1 : (0 : Int) ≤ (j : Int) := by omega
            have p2 : (j : Int) < (xd.length : Int) := by omega
            have p3 : (j : Int) < (yd.length : Int) := by omega
            obtain ⟨ax, rfl, cx⟩ := HX2.out j hjl
            obtain ⟨ay, rfl, cy⟩ := HY2.out j hjl2
            obtain ⟨u, hu⟩ : ∃ u, u = xd[j] := ⟨_, rfl⟩
            obtain ⟨v, hv⟩ : ∃ v, v = yd[j] := ⟨_, rfl⟩
            rw [← hu] at cx
            rw [← hv] at cy
            have HU := Lib.hid hu
            have HV := Lib.hid hv
            clear hu hv
            by_cases e : u = v
            · have t2 : (u != v) = false := by simp [e]
              have HJ2 : Hid (∀ i (h1 : i < xd.length) (h2 : i < yd.length), i < j + 1 → xd[i] = yd[i]) := Lib.hid fun i h1 h2 h => by
                rcases Nat.lt_or_ge i j with h3 | h3
                · exact hJ.out i h1 h2 h3
                · obtain rfl : i = j := by omega
                  rw [← HU.out, ← HV.out, e]
              clear e
              go_wp2_with fail
              go_quiet (fail)
              go_wp2
              exact ⟨⟨j + 1, rfl, hjl, HJ2, _, rfl⟩, by simp [intOf]; omega⟩
            · have t2 : (u != v) = true := by simp [e]
              have HNe := Lib.hid e
              clear e
              go_wp2_with fail
              go_quiet (fail)
              go_wp2
              go_ret
              refine ⟨false, rfl, ⟨fun h => (by cases h), fun h => ?_⟩, by first | exact below_drewN HBv.out _ | exact below_drewN (below_drewN HBv.out _) _⟩
              obtain ⟨-, -, -, -, h5⟩ := HN.out h
              subst h5
              exact absurd (by rw [HU.out, HV.out]) HNe.out
          · have g3 : decide ((j : Int) < (xd.length : Int)) = false := by simp; omega
            have h5 : xd = yd := List.ext_getElem HEL.out fun i h1 h2 => hJ.out i h1 h2 (by omega)
            have HZ : Hid ((a.take (k + 1)).map nrm = (b.take (k + 1)).map nrm) := Lib.hid (HY.out (eqN_iff.1 hk_m) (by simpa using hk_s) (by simpa using hk_n) (by simpa using hk_c) h5)
            clear h5
            go_wp2
            exact ⟨⟨k + 1, rfl, hlt, HZ, by first | exact below_drewN HBv.out _ | exact HBv.out⟩, by simp [intOf]; omega⟩
    · have g1 : decide ((k : Int) < (a.length : Int)) = false := by simp; omega
      have e1 : a.take k = a := List.take_of_length_le (by omega)
      have e2 : b.take k = b := List.take_of_length_le (by have := HL.out; omega)
      have HE : Hid (a.map nrm = b.map nrm) := Lib.hid (by have := hE.out; rwa [e1, e2] at this)
      clear e1 e2
      go_wp2
      go_ret
      exact ⟨true, rfl, ⟨fun _ => HE.out, fun _ => rfl⟩, hB0⟩
end Go.Proofs.YthdafpbmmfelpaaGreatDoor
