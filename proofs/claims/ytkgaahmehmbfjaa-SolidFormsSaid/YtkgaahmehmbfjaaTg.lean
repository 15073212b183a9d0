/- The iterator of the parts. -/
import Derived.Test.YtkgaahmehmbfjaaTf
import Derived.Test.YtkgaahmehmbfjaaTg0
import Derived.Test.YtkgaahmehmbfjaaLRb
import Derived.Test.YtkgaahmehmbfjaaTb
import Derived.Shelf.Abstract
import Derived.Shelf.RegionOpen
import Derived.RangeFuncBox
import Derived.Sort.CutIn
import Derived.LoopIn
import Derived.LoopNIn
import Derived.OwnWalkIn
import Derived.TacticsInMore
namespace Go.Proofs.Ytkgaahmehmbfjaa
open Go.ChangeShapes Go.WideShapes Go.ChangeAt Go.RowKit Go.Maps Go.Shelf
set_option linter.unusedVariables false
set_option linter.unusedSimpArgs false

attribute [local go_sem] Oper.semAt_some
theorem Kpo.below {N M : Nat} {V A B : World} (h : Below N V A) (k : Kpo (fun k => k < N ∨ M ≤ k) A B) (hN : N ≤ A.heap.size) : Below N V B :=
  ⟨k.os.trans h.os, k.tape.trans h.tape, k.output.trans h.output, Nat.le_trans h.size k.size, fun j hj => (k.block j (by omega) (.inl hj)).trans (h.block j hj)⟩
theorem Has.kps {S : Nat → Prop} {A B : World} {g : Nat} {t : TypeId} {cs : Array Value} (h : Has A g t cs) (hk : Kps S A B) (hs : S g) : Has B g t cs := by
  unfold Has; rw [hk.block g h.size_ hs]; exact h
theorem own_kps {B : Nat} {w w' : World} {e : TypeId} {s : Nat} {v : Value} {n : Nat} {xs : List Value} (h : w.ownsRow B e s v n xs) (hk : ∀ k, v.ownBlock = some k → w'.heap[k]? = w.heap[k]?) : w'.ownsRow B e s v n xs := by
  obtain ⟨hl, h0 | ⟨g, cap, cur, rfl, hB, hg, r⟩⟩ := h
  · exact ⟨hl, .inl h0⟩
  · exact ⟨hl, .inr ⟨g, cap, cur, rfl, hB, by rw [hk g rfl]; exact hg, r⟩⟩
/-- What the iterator's rounds keep. -/
structure Kp (V : World) (M al : Nat) (X Y Z : List Sx) (v0 v1 v2 : Value) (w : World) : Prop where
  arr : Has w al 110 #[v0, v1, v2]
  am : M ≤ al
  ox : Own xc 115 4 M w v0 X
  oy : Own xc 115 4 M w v1 Y
  oz : Own xc 115 4 M w v2 Z
  sz : M ≤ w.heap.size
  mv : V.heap.size ≤ M
theorem Kp.on {V : World} {M al : Nat} {X Y Z : List Sx} {v0 v1 v2 : Value} {w w' : World} (k : Kp V M al X Y Z v0 v1 v2 w) (hb : Below w.heap.size w w') : Kp V M al X Y Z v0 v1 v2 w' :=
  ⟨k.arr.on hb, k.am, k.ox.on hb, k.oy.on hb, k.oz.on hb, Nat.le_trans k.sz hb.size, k.mv⟩
theorem Kp.kpo {V : World} {M al : Nat} {X Y Z : List Sx} {v0 v1 v2 : Value} {w w' : World} (k : Kp V M al X Y Z v0 v1 v2 w) {S : Nat → Prop} (hk : Kpo (fun k => S k ∨ M ≤ k) w w') : Kp V M al X Y Z v0 v1 v2 w' := by
  have row : ∀ {v : Value} {l : List Sx}, Own xc 115 4 M w v l → Own xc 115 4 M w' v l := fun {v l} h => own_kps h fun z hz => by
    have := World.ownsRow.lt h z hz
    exact hk.block z this.2 (.inr this.1)
  exact ⟨k.arr.kps hk.toKps (.inr k.am), k.am, row k.ox, row k.oy, row k.oz, Nat.le_trans k.sz hk.size, k.mv⟩
theorem own_x {B : Nat} {w : World} {q : Option Addr} {c : Nat} {l : List Sx} (h : Own xc 115 4 B w (.slice q l.length c) l) {k : Nat} (hk : k < l.length) : ∃ g, q = some ⟨g, 0, none⟩ ∧ w.cell? ⟨g, k * 4, none⟩ = some (.int .i64 l[k].lo) ∧ w.cell? ⟨g, k * 4 + 1, none⟩ = some (.int .i64 l[k].hi) ∧ w.cell? ⟨g, k * 4 + 2, none⟩ = some (.int .u32 (l[k].bm : Int)) ∧ w.cell? ⟨g, k * 4 + 3, none⟩ = some (.int .u32 (l[k].hm : Int)) := by
  obtain ⟨q', c', e, hC⟩ := Own.rd xl h
  simp only [Value.slice.injEq, true_and] at e
  obtain ⟨rfl, rfl⟩ := e
  obtain ⟨g, e, hc⟩ := hC k hk
  exact ⟨g, e, hc 0 (by omega), hc 1 (by omega), hc 2 (by omega), hc 3 (by omega)⟩
set_option maxHeartbeats 8000000 in
set_option maxRecDepth 100000 in
theorem parts_yields (S : Nat → Prop) (n gs : Nat) (p q : Option Addr) (l h : List Bx) (c d : Nat) (V W : World) (hS : Sl V p l) (hT : Sl V q h) (hv : okS l h = true)
    (c0 : V.cell? ⟨gs, 0, none⟩ = some (.slice p l.length c)) (c1 : V.cell? ⟨gs, 1, none⟩ = some (.slice q h.length d)) (hW : Below V.heap.size V W) (hWs : W.heap.size = V.heap.size + 2) :
    YieldsB n Try.prog 78 #[] #[.pointer (some ⟨gs, 0, none⟩)] (fun _ x _ vs => vs = #[x.val]) S (parts l h) W := by
  intro y J Jx hJ hJx hY h0
  obtain ⟨⟨hl1, hl2⟩, hh, -, -⟩ := okS_i.1 hv
  rw [hWs] at hJ hY
  have HY := Lib.hid hY
  have HJ := Lib.hid hJ
  clear hY hJ hJx hv
  have cw0 := cell_later hW c0
  have cw1 := cell_later hW c1
  have hc := scut_any p q l h c d W (hS.on hW) (hT.on hW) hl2 hl1 hh
  have b0 := strs_bd (ax := 0) hl2 hh
  have b1 := strs_bd (ax := 1) hl2 hh
  have b2 := strs_bd (ax := 2) hl2 hh
  have t0 := places_len l h 0 hl2 hh
  have t1 := places_len l h 1 hl2 hh
  have t2 := places_len l h 2 hl2 hh
  have t3 := strs_len l h 0
  have t4 := strs_len l h 1
  have t5 := strs_len l h 2
  unfold sv at hc
  unfold parts at *
  generalize strs l h 0 = X at *
  generalize strs l h 1 = Y at *
  generalize strs l h 2 = Z at *
  have hx80 : X.length ≤ 80 := by omega
  have hy80 : Y.length ≤ 80 := by omega
  have hz80 : Z.length ≤ 80 := by omega
  clear t0 t1 t2 t3 t4 t5
  refine callsIn_of_wp Try.func78 rfl trivial ?_
  simp only [Try.ntmps78, List.size_toArray, List.length_cons, List.length_nil, Nat.reduceAdd, Nat.reduceSub, Array.replicate_succ, Array.replicate_zero, List.push_toArray, List.append_toArray, List.nil_append, List.cons_append]
  have hf79 : Fence.wide.fn 79 := trivial
  have h79 := (callsIn_wide (n := n - 1)).2 hc
  gi_upto_region 2 with (refine ⟨fun h => (by cases h), h79.mono ?_⟩; rintro X1 w1 ⟨v0, v1, v2, rfl, o0, o1, o2, hb1⟩; obtain ⟨q0, k0, e0, -⟩ := Own.rd xl o0; obtain ⟨q1, k1, e1, -⟩ := Own.rd xl o1; obtain ⟨q2, k2, e2, -⟩ := Own.rd xl o2; subst e0 e1 e2)
  rw [hWs] at o0 o1 o2
  have hs1 := hb1.size
  rw [hWs] at hs1
  have K0 : Kp V (V.heap.size + 2) w1.heap.size X Y Z (.slice q0 X.length k0) (.slice q1 Y.length k1) (.slice q2 Z.length k2) (w1.alloc (.cells #[.slice q0 X.length k0, .slice q1 Y.length k1, .slice q2 Z.length k2] 110)) :=
    ⟨Has.new_ _ _ _, hs1, o0.on (al1 _ _), o1.on (al1 _ _), o2.on (al1 _ _), by simp; omega, by omega⟩
  have J0 : J (prtL (X.take 0) Y Z) (w1.alloc (.cells #[.slice q0 X.length k0, .slice q1 Y.length k1, .slice q2 Z.length k2] 110)) := by
    rw [List.take_zero]
    exact HJ.out _ _ _ h0 (by omega) (Below.less (belows hb1 (al1 _ _)) (by omega))
  clear h79 h0 hb1 cw0 cw1 o0 o1 o2
  generalize w1.heap.size = al at *
  generalize w1.alloc (.cells #[.slice q0 X.length k0, .slice q1 Y.length k1, .slice q2 Z.length k2] 110) = w2 at *
  have A0 := K0.arr.read 0
  simp only [List.getElem?_toArray, List.getElem?_cons_zero] at A0
  gi_wp2
  gi_loopw [16] (fun v wr => ∃ i : Nat, v = .int .i64 (i : Int) ∧ i ≤ X.length ∧ Kp V (V.heap.size + 2) al X Y Z (.slice q0 X.length k0) (.slice q1 Y.length k1) (.slice q2 Z.length k2) wr ∧ J (prtL (X.take i) Y Z) wr) (fun v _ => X.length - (intOf v).toNat)
  case atStart => exact ⟨0, rfl, Nat.zero_le _, K0, J0⟩
  case round =>
    clear K0 J0 A0
    obtain ⟨i, rfl, hi, K, hj⟩ := hrel
    by_cases hli : i < X.length
    · have g1 : decide ((i : Int) < (X.length : Int)) = true := by simp [hli]
      have W1 : IntKind.i64.wrap ((i : Int) + 1) = ((i + 1 : Nat) : Int) := by rw [IntWalk.i64_in _ (by omega)]; omega
      obtain ⟨gx, rfl, x0, x1, x2, x3⟩ := own_x K.ox hli
      have K1 := K.on (al1 wr (.cells #[.int .i64 X[i].lo, .int .i64 X[i].hi, .int .u32 (X[i].bm : Int), .int .u32 (X[i].hm : Int)] 115))
      have HX1 := Has.new_ wr 115 #[.int .i64 X[i].lo, .int .i64 X[i].hi, .int .u32 (X[i].bm : Int), .int .u32 (X[i].hm : Int)]
      have J1 : J (prtL (X.take i) Y Z ++ rowY X[i] (Y.take 0) Z) (wr.alloc (.cells #[.int .i64 X[i].lo, .int .i64 X[i].hi, .int .u32 (X[i].bm : Int), .int .u32 (X[i].hm : Int)] 115)) := by
        rw [List.take_zero, show rowY X[i] [] Z = [] from rfl, List.append_nil]
        exact HJ.out _ _ _ hj K.sz (Below.less (al1 _ _) K.sz)
      have hxm : V.heap.size + 2 ≤ wr.heap.size := K.sz
      gi_upto_region 4 with fail
      clear x0 x1 x2 x3 K hj
      generalize wr.alloc (.cells #[.int .i64 X[i].lo, .int .i64 X[i].hi, .int .u32 (X[i].bm : Int), .int .u32 (X[i].hm : Int)] 115) = w3 at *
      generalize wr.heap.size = xb at *
      have A1 := K1.arr.read 1
      simp only [List.getElem?_toArray, List.getElem?_cons_succ, List.getElem?_cons_zero] at A1
      gi_wp2
      gi_loopw [23] (fun v wr => ∃ j : Nat, v = .int .i64 (j : Int) ∧ j ≤ Y.length ∧ Kp V (V.heap.size + 2) al X Y Z (.slice (some ⟨gx, 0, none⟩) X.length k0) (.slice q1 Y.length k1) (.slice q2 Z.length k2) wr ∧ J (prtL (X.take i) Y Z ++ rowY X[i] (Y.take j) Z) wr ∧ Has wr xb 115 #[.int .i64 X[i].lo, .int .i64 X[i].hi, .int .u32 (X[i].bm : Int), .int .u32 (X[i].hm : Int)]) (fun v _ => Y.length - (intOf v).toNat)
      case atStart => exact ⟨0, rfl, Nat.zero_le _, K1, J1, HX1⟩
      case round =>
        clear K1 J1 A1 HX1
        obtain ⟨j, rfl, hj', K, hj, HX1⟩ := hrel
        by_cases hlj : j < Y.length
        · have g2 : decide ((j : Int) < (Y.length : Int)) = true := by simp [hlj]
          have W2 : IntKind.i64.wrap ((j : Int) + 1) = ((j + 1 : Nat) : Int) := by rw [IntWalk.i64_in _ (by omega)]; omega
          obtain ⟨gy, rfl, y0, y1, y2, y3⟩ := own_x K.oy hlj
          have K2 := K.on (al1 wr (.cells #[.int .i64 Y[j].lo, .int .i64 Y[j].hi, .int .u32 (Y[j].bm : Int), .int .u32 (Y[j].hm : Int)] 115))
          have HY1 := Has.new_ wr 115 #[.int .i64 Y[j].lo, .int .i64 Y[j].hi, .int .u32 (Y[j].bm : Int), .int .u32 (Y[j].hm : Int)]
          have HX2 := HX1.on (al1 wr (.cells #[.int .i64 Y[j].lo, .int .i64 Y[j].hi, .int .u32 (Y[j].bm : Int), .int .u32 (Y[j].hm : Int)] 115))
          have J2 : J (prtL (X.take i) Y Z ++ rowY X[i] (Y.take j) Z ++ rowZ X[i] Y[j] (Z.take 0)) (wr.alloc (.cells #[.int .i64 Y[j].lo, .int .i64 Y[j].hi, .int .u32 (Y[j].bm : Int), .int .u32 (Y[j].hm : Int)] 115)) := by
            rw [List.take_zero, show rowZ X[i] Y[j] [] = [] from rfl, List.append_nil]
            exact HJ.out _ _ _ hj K.sz (Below.less (al1 _ _) K.sz)
          have hym : V.heap.size + 2 ≤ wr.heap.size := K.sz
          gi_upto_region 7 with fail
          clear y0 y1 y2 y3 K hj HX1
          generalize wr.alloc (.cells #[.int .i64 Y[j].lo, .int .i64 Y[j].hi, .int .u32 (Y[j].bm : Int), .int .u32 (Y[j].hm : Int)] 115) = w4 at *
          generalize wr.heap.size = yb at *
          have A2 := K2.arr.read 2
          simp only [List.getElem?_toArray, List.getElem?_cons_succ, List.getElem?_cons_zero] at A2
          gi_wp2
          gi_loopw [30] (fun v wr => ∃ k : Nat, v = .int .i64 (k : Int) ∧ k ≤ Z.length ∧ Kp V (V.heap.size + 2) al X Y Z (.slice (some ⟨gx, 0, none⟩) X.length k0) (.slice (some ⟨gy, 0, none⟩) Y.length k1) (.slice q2 Z.length k2) wr ∧ J (prtL (X.take i) Y Z ++ rowY X[i] (Y.take j) Z ++ rowZ X[i] Y[j] (Z.take k)) wr ∧ Has wr xb 115 #[.int .i64 X[i].lo, .int .i64 X[i].hi, .int .u32 (X[i].bm : Int), .int .u32 (X[i].hm : Int)] ∧ Has wr yb 115 #[.int .i64 Y[j].lo, .int .i64 Y[j].hi, .int .u32 (Y[j].bm : Int), .int .u32 (Y[j].hm : Int)]) (fun v _ => Z.length - (intOf v).toNat)
          case atStart => exact ⟨0, rfl, Nat.zero_le _, K2, J2, HX2, HY1⟩
          case round =>
            clear K2 J2 A2 HX2 HY1
            obtain ⟨k, rfl, hk', K, hj, HX1, HY1⟩ := hrel
            by_cases hlk : k < Z.length
            · have g3 : decide ((k : Int) < (Z.length : Int)) = true := by simp [hlk]
              have W3 : IntKind.i64.wrap ((k : Int) + 1) = ((k + 1 : Nat) : Int) := by rw [IntWalk.i64_in _ (by omega)]; omega
              obtain ⟨gz, rfl, z0, z1, z2, z3⟩ := own_x K.oz hlk
              have K3 := K.on (al1 wr (.cells #[.int .i64 Z[k].lo, .int .i64 Z[k].hi, .int .u32 (Z[k].bm : Int), .int .u32 (Z[k].hm : Int)] 115))
              have HZ3 := Has.new_ wr 115 #[.int .i64 Z[k].lo, .int .i64 Z[k].hi, .int .u32 (Z[k].bm : Int), .int .u32 (Z[k].hm : Int)]
              have HX3 := HX1.on (al1 wr (.cells #[.int .i64 Z[k].lo, .int .i64 Z[k].hi, .int .u32 (Z[k].bm : Int), .int .u32 (Z[k].hm : Int)] 115))
              have HY3 := HY1.on (al1 wr (.cells #[.int .i64 Z[k].lo, .int .i64 Z[k].hi, .int .u32 (Z[k].bm : Int), .int .u32 (Z[k].hm : Int)] 115))
              have J3 := HJ.out _ _ _ hj K.sz (Below.less (al1 wr (.cells #[.int .i64 Z[k].lo, .int .i64 Z[k].hi, .int .u32 (Z[k].bm : Int), .int .u32 (Z[k].hm : Int)] 115)) K.sz)
              have hzm : V.heap.size + 2 ≤ wr.heap.size := K.sz
              have d1 := b0 _ (List.getElem_mem hli)
              have d2 := b1 _ (List.getElem_mem hlj)
              have d3 := b2 _ (List.getElem_mem hlk)
              have X1 := u32_and X[i].bm Y[j].bm d1.1 d2.1
              have X2 := u32_and (X[i].bm &&& Y[j].bm) Z[k].bm (Nat.lt_of_le_of_lt Nat.and_le_left d1.1) d3.1
              have X3 := u32_and X[i].hm Y[j].hm d1.2 d2.2
              have X4 := u32_and (X[i].hm &&& Y[j].hm) Z[k].hm (Nat.lt_of_le_of_lt Nat.and_le_left d1.2) d3.2
              gi_upto_region 10 with fail
              clear z0 z1 z2 z3 K hj HX1 HY1 d1 d2 d3
              generalize wr.alloc (.cells #[.int .i64 Z[k].lo, .int .i64 Z[k].hi, .int .u32 (Z[k].bm : Int), .int .u32 (Z[k].hm : Int)] 115) = w5 at *
              generalize wr.heap.size = zb at *
              have P0 := HX3.read 0
              have P1 := HX3.read 1
              have P2 := HX3.read 2
              have P3 := HX3.read 3
              have R0 := HY3.read 0
              have R1 := HY3.read 1
              have R2 := HY3.read 2
              have R3 := HY3.read 3
              have S0 := HZ3.read 0
              have S1 := HZ3.read 1
              have S2 := HZ3.read 2
              have S3 := HZ3.read 3
              simp only [List.getElem?_toArray, List.getElem?_cons_succ, List.getElem?_cons_zero] at P0 P1 P2 P3 R0 R1 R2 R3 S0 S1 S2 S3
              have HKX := Lib.hid (And.intro (@rowZ_keep X[i] Y[j] Z k hlk) (And.intro (@rowZ_drop X[i] Y[j] Z k hlk) (prt_at hli hlj hlk)))
              have HKE : Hid (keepX X[i] Y[j] Z[k] = ((X[i].bm &&& Y[j].bm &&& Z[k].bm) != 0 && (X[i].hm &&& Y[j].hm &&& Z[k].hm) == 0)) := Lib.hid rfl
              have HBX : Hid (bxX X[i] Y[j] Z[k] = ⟨X[i].lo, Y[j].lo, Z[k].lo, X[i].hi, Y[j].hi, Z[k].hi⟩) := Lib.hid rfl
              have KJ := Lib.hid (And.intro K3 (And.intro J3 (And.intro HX3 (And.intro HY3 hzm))))
              have hxm' := Lib.hid hxm
              clear K3 J3 HX3 HY3 HZ3
              by_cases hbz : (X[i].bm &&& Y[j].bm &&& Z[k].bm) = 0
              · have hkp : keepX X[i] Y[j] Z[k] = false := HKE.out.trans (by rw [hbz]; rfl)
                have e := HKX.out.2.1 hkp
                rw [hbz] at X2
                clear HKX HKE HBX hbz
                gi_wp2
                go_roundw
                all_goals first | exact ⟨k + 1, rfl, hlk, KJ.out.1, by rw [e]; exact KJ.out.2.1, KJ.out.2.2.1, KJ.out.2.2.2.1⟩ | (simp [intOf]; omega)
              have q1 : (((X[i].bm &&& Y[j].bm &&& Z[k].bm : Nat) : Int) == 0) = false := beq_eq_false_iff_ne.2 (by omega)
              have q1' : decide (((X[i].bm &&& Y[j].bm &&& Z[k].bm : Nat) : Int) = 0) = false := by simp only [decide_eq_false_iff_not]; omega
              by_cases hhz : (X[i].hm &&& Y[j].hm &&& Z[k].hm) = 0
              · have hkp : keepX X[i] Y[j] Z[k] = true := HKE.out.trans (by rw [hhz]; simpa using hbz)
                have e := HKX.out.1 hkp
                have e2 := HKX.out.2.2 hkp
                rw [HBX.out] at e e2
                have E1 := Lib.hid e
                have E2 := Lib.hid e2
                rw [hhz] at X4
                clear HKX HKE hbz hhz e e2 hkp
                gi_upto_region 12 with fail
                have K6 := KJ.out.1.on (al1 w5 (.cells #[.int .i64 X[i].lo, .int .i64 Y[j].lo, .int .i64 Z[k].lo, .int .i64 X[i].hi, .int .i64 Y[j].hi, .int .i64 Z[k].hi] 30))
                have J6 := HJ.out _ _ _ KJ.out.2.1 KJ.out.1.sz (Below.less (al1 w5 (.cells #[.int .i64 X[i].lo, .int .i64 Y[j].lo, .int .i64 Z[k].lo, .int .i64 X[i].hi, .int .i64 Y[j].hi, .int .i64 Z[k].hi] 30)) KJ.out.1.sz)
                have HX6 := KJ.out.2.2.1.on (al1 w5 (.cells #[.int .i64 X[i].lo, .int .i64 Y[j].lo, .int .i64 Z[k].lo, .int .i64 X[i].hi, .int .i64 Y[j].hi, .int .i64 Z[k].hi] 30))
                have HY6 := KJ.out.2.2.2.1.on (al1 w5 (.cells #[.int .i64 X[i].lo, .int .i64 Y[j].lo, .int .i64 Z[k].lo, .int .i64 X[i].hi, .int .i64 Y[j].hi, .int .i64 Z[k].hi] 30))
                have HP := Has.new_ w5 30 #[.int .i64 X[i].lo, .int .i64 Y[j].lo, .int .i64 Z[k].lo, .int .i64 X[i].hi, .int .i64 Y[j].hi, .int .i64 Z[k].hi]
                have B0 := HP.read 0
                have B1 := HP.read 1
                have B2 := HP.read 2
                have B3 := HP.read 3
                have B4 := HP.read 4
                have B5 := HP.read 5
                simp only [List.getElem?_toArray, List.getElem?_cons_succ, List.getElem?_cons_zero] at B0 B1 B2 B3 B4 B5
                have hs6 := K6.sz
                clear KJ HP P0 P1 P2 P3 R0 R1 R2 R3 S0 S1 S2 S3 X1 X2 X3 X4 q1 q1'
                generalize w5.heap.size = pb at *
                generalize w5.alloc (.cells #[.int .i64 X[i].lo, .int .i64 Y[j].lo, .int .i64 Z[k].lo, .int .i64 X[i].hi, .int .i64 Y[j].hi, .int .i64 Z[k].hi] 30) = w6 at *
                have hY := HY.out _ _ _ w6 #[.agg #[.int .i64 X[i].lo, .int .i64 Y[j].lo, .int .i64 Z[k].lo, .int .i64 X[i].hi, .int .i64 Y[j].hi, .int .i64 Z[k].hi]] E2.out J6 K6.sz rfl
                obtain ⟨fn, tmps, assign, body, hy, hR⟩ := hY
                have KH := Lib.hid (And.intro K6 (And.intro HX6 HY6))
                clear K6 HX6 HY6 J6
                gi_wp2
                refine ⟨fun h => (by cases h), hR.mono ?_⟩
                rintro e w7 (⟨rfl, hJ7, hk7⟩ | ⟨rfl, hJx7⟩)
                · have K7 := KH.out.1.kpo hk7
                  have HX7 := KH.out.2.1.kps hk7.toKps (.inr hxm'.out)
                  have HY7 := KH.out.2.2.kps hk7.toKps (.inr hym)
                  rw [List.append_assoc, ← E1.out] at hJ7
                  clear hk7 hR hy KH
                  gi_wp2
                  go_roundw
                  all_goals first | exact ⟨k + 1, rfl, hlk, K7, hJ7, HX7, HY7⟩ | (simp [intOf]; omega)
                · gi_wp2
                  refine bodyPost_ret (results_none rfl _ _ _) rfl ⟨⟨_, rfl⟩, .inr ⟨_, _, (by rw [E2.out, List.append_cons]), hJx7⟩⟩
              · have hkp : keepX X[i] Y[j] Z[k] = false := HKE.out.trans (by simp [hhz])
                have q2 : (((X[i].hm &&& Y[j].hm &&& Z[k].hm : Nat) : Int) == 0) = false := beq_eq_false_iff_ne.2 (by omega)
                have q2' : decide (((X[i].hm &&& Y[j].hm &&& Z[k].hm : Nat) : Int) = 0) = false := by simp only [decide_eq_false_iff_not]; omega
                have e := HKX.out.2.1 hkp
                clear HKX HKE HBX hbz hhz
                gi_wp2
                go_roundw
                all_goals first | exact ⟨k + 1, rfl, hlk, KJ.out.1, by rw [e]; exact KJ.out.2.1, KJ.out.2.2.1, KJ.out.2.2.2.1⟩ | (simp [intOf]; omega)
            · have g3 : decide ((k : Int) < (Z.length : Int)) = false := by simp; omega
              have e : rowZ X[i] Y[j] (Z.take k) = rowZ X[i] Y[j] Z := by rw [List.take_of_length_le (by omega)]
              rw [e, List.append_assoc, ← rowY_take hlj] at hj
              clear e HY1
              gi_wp2
              go_roundw
              all_goals first | exact ⟨j + 1, rfl, hlj, K, hj, HX1⟩ | (simp [intOf]; omega)
        · have g2 : decide ((j : Int) < (Y.length : Int)) = false := by simp; omega
          have e : rowY X[i] (Y.take j) Z = rowY X[i] Y Z := by rw [List.take_of_length_le (by omega)]
          rw [e, ← prtL_take hli] at hj
          clear e HX1
          gi_wp2
          go_roundw
          all_goals first | exact ⟨i + 1, rfl, hli, K, hj⟩ | (simp [intOf]; omega)
    · have g1 : decide ((i : Int) < (X.length : Int)) = false := by simp; omega
      rw [List.take_of_length_le (by omega)] at hj
      clear K
      gi_wp2
      go_end0
      exact ⟨⟨_, rfl⟩, .inl hj⟩
end Go.Proofs.Ytkgaahmehmbfjaa
