/- DigraphPaths: the walk where there are nodes. -/
import Derived.Test.YteofbbakegcohaaZa
import Derived.Deep.CutBlock
namespace Go.Proofs.Yteofbbakegcohaa
open Go.ChangeShapes Go.WideShapes Go.ChangeAt Go.RowKit
set_option linter.unusedVariables false
set_option linter.unusedSimpArgs false

set_option maxHeartbeats 16000000 in
set_option maxRecDepth 100000 in
theorem paths_main (p : Option Addr) (l : List (Int × Int)) (cap : Nat) (n : Int) (q : Option Addr) (os : List Int) (c : Nat) (q2 : Option Addr) (path : List Int) (c2 : Nat) (u v m : Int) (w : World) (hS : Sl w p l) (hO : Rdz w (.slice q os.length c) os) (hR0 : Hid (Rdz w (.slice q2 path.length c2) path)) (hlg : lrg n l.length = false) (ho : os.length ≤ 100) (hk : path.length ≤ 20)
    (hn0 : 0 ≤ n) (hn20 : n ≤ 20) (hu : 0 ≤ u ∧ u ≤ 255) (hv : 0 ≤ v ∧ v ≤ 255) (hm : 0 ≤ m ∧ m ≤ 65535) (hll : l.length ≤ 60) (wr : Nat) (rv y : Int) (hru : u.tmod n = (wr : Int)) (hrv : v.tmod n = rv) (hwl : wr < os.length) (hy : Hid (os.getD wr 0 = y)) (hyb : 0 ≤ y ∧ y ≤ 1073741824)  (hn : n ≠ 0) (S : Int) (hSb : 0 ≤ S ∧ S ≤ 1000000000000) (PZ : List Int) (hPl : PZ.length ≤ 1000) (hpz : PZ.length = 0 ↔ n = 0) (hwb : ∀ x ∈ os, 0 ≤ x ∧ x ≤ 1073741824)
    (hown : wgv n os l PZ = .tuple #[.int .i64 S, .bool true]) (hg : wgv n os l path = .tuple #[.int .i64 0, .bool false] ∨ ∃ T, wgv n os l path = .tuple #[.int .i64 T, .bool true] ∧ T ≤ S)
    (h20 : ∀ W, Sl W p l → Rdz W (.slice q os.length c) os → Calls Try.prog 20 #[.int .i64 n, .slice p l.length cap, .slice q os.length c] W fun e w' => ∃ vp, e = .returned (.tuple #[.int .i64 S, vp, .int .i64 0]) ∧ Rdz w' vp PZ ∧ Below W.heap.size W w')
    (h20w : ∀ B v' W, OwnP B W v' (l ++ [((wr : Int), rv)]) → Rdz W (.slice q os.length c) os → Calls Try.prog 20 #[.int .i64 n, v', .slice q os.length c] W fun e w' => ∃ x vp f, e = .returned (.tuple #[.int .i64 x, vp, .int .i64 f]) ∧ ((f = 0 ∧ S ≤ x) ∨ f = 1 ∨ f = 23) ∧ Below W.heap.size W w')
    (h20h : ∀ B v' W, OwnI B W v' (os.set wr (y + m)) → Sl W p l → Calls Try.prog 20 #[.int .i64 n, .slice p l.length cap, v'] W fun e w' => ∃ x vp f, e = .returned (.tuple #[.int .i64 x, vp, .int .i64 f]) ∧ (f = 2 ∨ f = 0 ∧ S ≤ x ∧ x ≤ S + m) ∧ Below W.heap.size W w') :
    Calls Try.prog 5 #[.int .i64 n, .slice p l.length cap, .slice q os.length c, .slice q2 path.length c2, .int .u8 u, .int .u8 v, .int .u16 m] w fun e w' => e = .returned (.bool true) ∧ Below w.heap.size w w' := by
  have hLg := fun W => large_any p l cap n W hS.2.2.1
  obtain ⟨i0, hi, hz0, hz1, hz2⟩ := info_parts info42
  have Wu : IntKind.i64.wrap u = u := IntWalk.i64_in _ (by omega)
  have Wv : IntKind.i64.wrap v = v := IntWalk.i64_in _ (by omega)
  have Wm : IntKind.i64.wrap m = m := IntWalk.i64_in _ (by omega)
  have nn : ¬ n = 0 := hn
  have hrb : 0 ≤ (wr : Int) ∧ (wr : Int) < n := by rw [← hru, Int.tmod_eq_emod_of_nonneg hu.1]; exact ⟨Int.emod_nonneg _ hn, Int.emod_lt_of_pos _ (by omega)⟩
  have hrc : 0 ≤ rv ∧ rv < n := by rw [← hrv, Int.tmod_eq_emod_of_nonneg hv.1]; exact ⟨Int.emod_nonneg _ hn, Int.emod_lt_of_pos _ (by omega)⟩
  have Ru : IntKind.i64.wrap (wr : Int) = (wr : Int) := IntWalk.i64_in _ (by omega)
  have Rv : IntKind.i64.wrap rv = rv := IntWalk.i64_in _ (by omega)
  have Wo : IntKind.i64.wrap (y + m) = y + m := IntWalk.i64_in _ (by omega)
  have Ws : IntKind.i64.wrap (S + m) = S + m := IntWalk.i64_in _ (by omega)
  have CB := bx3_facts w (.int .i64 n) (.slice p l.length cap) (.slice q os.length c)
  obtain ⟨C0, C1, C2, C3⟩ := CB
  have hR := hR0.out.on C0
  rw [hlg] at hLg
  have m1 : decide ((100 : Int) < (os.length : Int)) = false := decide_eq_false (by omega)
  have m2 : decide ((20 : Int) < (path.length : Int)) = false := decide_eq_false (by omega)
  have n1 : decide ((0 : Int) < n) = true := decide_eq_true (by omega)
  have n2 : (n == 0) = false := beq_eq_false_iff_ne.2 hn
  have p0 : PZ.length ≠ 0 := fun e => hn (hpz.1 e)
  have p1 : ((PZ.length : Int) == 0) = false := beq_eq_false_iff_ne.2 (by omega)
  have p2 : ¬ PZ = [] := fun e => p0 (by rw [e]; rfl)
  have hw1 : ∀ W qp cp, Rdz W (.slice qp PZ.length cp) PZ → W.cell? ⟨w.heap.size, 0, none⟩ = some (.int .i64 n) → W.cell? ⟨w.heap.size + 1, 0, none⟩ = some (.slice p l.length cap) → W.cell? ⟨w.heap.size + 2, 0, none⟩ = some (.slice q os.length c) → Rdz W (.slice q os.length c) os → Sl W p l →
      Calls Try.prog 23 #[.slice qp PZ.length cp, .pointer (some ⟨w.heap.size, 0, none⟩), .pointer (some ⟨w.heap.size + 2, 0, none⟩), .pointer (some ⟨w.heap.size + 1, 0, none⟩)] W fun e w' => e = .returned (.tuple #[.int .i64 S, .bool true]) ∧ Below W.heap.size W w' := fun W qp cp a b1 b2 b3 d f => by
    have := weigh_any _ PZ w.heap.size (w.heap.size + 2) (w.heap.size + 1) n q os c p l cap W a hPl b1 b3 b2 d (by omega) hwb f
    rw [hown] at this; exact this
  clear hlg hn hpz
  rcases hg with hg | ⟨T, hg, hT⟩
  ·
    have hw2 : ∀ W, Rdz W (.slice q2 path.length c2) path → W.cell? ⟨w.heap.size, 0, none⟩ = some (.int .i64 n) → W.cell? ⟨w.heap.size + 1, 0, none⟩ = some (.slice p l.length cap) → W.cell? ⟨w.heap.size + 2, 0, none⟩ = some (.slice q os.length c) → Rdz W (.slice q os.length c) os → Sl W p l →
        Calls Try.prog 23 #[.slice q2 path.length c2, .pointer (some ⟨w.heap.size, 0, none⟩), .pointer (some ⟨w.heap.size + 2, 0, none⟩), .pointer (some ⟨w.heap.size + 1, 0, none⟩)] W fun e w' => e = .returned (.tuple #[.int .i64 0, .bool false]) ∧ Below W.heap.size W w' := fun W a b1 b2 b3 d f => by
      have := weigh_any _ path w.heap.size (w.heap.size + 2) (w.heap.size + 1) n q os c p l cap W a (by omega) b1 b3 b2 d (by omega) hwb f
      rw [hg] at this; exact this
    clear hg hown hwb
    go_enter Try.func5, Try.ntmps5
    go_wp2_with (first
      | (go_at_call 10; (with_reducible refine (awake_any _).mono ?_); rintro e w1 ⟨rfl, b1⟩; replace C1 := cell_later b1 C1; replace C2 := cell_later b1 C2; replace C3 := cell_later b1 C3; replace C0 := belows C0 b1; clear b1; have hS1 := hS.on C0; have hO1 := hO.on C0)
      | (go_at_call 11; (with_reducible refine (hLg _).mono ?_); rintro e w2 ⟨rfl, rfl⟩)
      | (go_at_call 20; (with_reducible refine (h20 _ hS1 hO1).mono ?_); rintro e w3 ⟨vp, rfl, hP, b3⟩; obtain ⟨qp, cq, rfl, kp⟩ := hP; have hP : Rdz w3 (.slice qp PZ.length cq) PZ := ⟨qp, cq, rfl, kp⟩; clear kp; replace C0 := belows C0 b3; replace C1 := cell_later b3 C1; replace C2 := cell_later b3 C2; replace C3 := cell_later b3 C3; replace hS1 := hS.on C0; replace hO1 := hO.on C0; clear b3)
      | (go_at_call 23; (with_reducible refine (hw1 _ _ _ hP C1 C2 C3 hO1 hS1).mono ?_); rintro e w4 ⟨rfl, b4⟩; replace C0 := belows C0 b4; replace C1 := cell_later b4 C1; replace C2 := cell_later b4 C2; replace C3 := cell_later b4 C3; replace hS1 := hS.on C0; replace hO1 := hO.on C0; replace hR := hR0.out.on C0; clear b4 hP)
      | (go_at_call 23; (with_reducible refine (hw2 _ hR C1 C2 C3 hO1 hS1).mono ?_); rintro e w5 ⟨rfl, b5⟩; replace C0 := belows C0 b5; replace C1 := cell_later b5 C1; replace C2 := cell_later b5 C2; replace C3 := cell_later b5 C3; replace hS1 := hS.on C0; replace hO1 := hO.on C0; clear b5 hR))
    replace C1 : w5.drew.cell? _ = _ := C1
    replace C2 : w5.drew.cell? _ = _ := C2
    replace C3 : w5.drew.cell? _ = _ := C3
    replace C0 := below_dr C0
    have hS1 := hS.on C0
    have hO1 := hO.on C0
    have E0 := C0
    have E1 := C1
    have E2 := C2
    have E3 := C3
    refine wp_region_pair 12 1 11 [(0, true), (2, true), (3, true), (4, true), (5, true), (6, true), (7, true), (8, true), (9, true), (10, true)] (fun W' => W'.cell? ⟨w.heap.size, 0, none⟩ = some (.int .i64 n) ∧ W'.cell? ⟨w.heap.size + 1, 0, none⟩ = some (.slice p l.length cap)) _ _ (by rfl) (by rfl) rfl rfl (by kernel_rfl) (by kernel_rfl) (fun _ _ d _ _ h => by cases d <;> exact h) ⟨C1, C2⟩ ?_
    simp only [List.filterMap_cons, List.filterMap_nil, List.getElem?_cons_zero, List.getElem?_cons_succ, Option.map_some, List.drop_succ_cons, List.drop_zero]
    iterate 10 (first | (refine wpPlanE_still (v := ?_) (Or.inl ⟨by rfl, ?_⟩) ?_; rotate_left; (focus (intro W hW; (try dsimp only at hW); go_split_ands; go_simp; try with_reducible rfl)); try simp only [Act.put, List.setIfInBounds_toArray, List.set_cons_zero, List.set_cons_succ]) | (refine wpPlanE_still (Or.inr ⟨by rfl, rfl⟩) ?_; try simp only [Act.put, List.setIfInBounds_toArray, List.set_cons_zero, List.set_cons_succ]))
    refine wpPlanE_end (wpPair_both (fun K hK => ?_) (fun K hK => ?_))
    · try go_simp
      (go_at_call 25; (with_reducible refine (pclone_any p l cap _ hS1 (by omega)).mono ?_); rintro e w6 ⟨vc, rfl, hP, b6⟩; replace C1 := cell_later b6 C1; replace C2 := cell_later b6 C2)
      try go_wp2_with fail
      refine hK.out _ _ ⟨C1, C2⟩ (fun K2 hK2 => ?_)
      clear hK K
      try simp only [Act.put, List.setIfInBounds_toArray, List.set_cons_zero, List.set_cons_succ]
      try go_simp
      refine hK2.out _ _ ⟨cell_later (al1 _ _) C1, cell_later (al1 _ _) C2⟩ ?_
      clear hK2 K2
      try simp only [Act.put, List.setIfInBounds_toArray, List.set_cons_zero, List.set_cons_succ]
      have NW : Hid ((w6.alloc (.cells #[.int .i64 (wr : Int), .int .i64 rv] 42)).heap[w6.heap.size]? = some (.cells #[.int .i64 (wr : Int), .int .i64 rv] 42 (0, 0))) := Lib.hid (heap_alloc_new w6 _)
      have ob := al1 w6 (.cells #[.int .i64 (wr : Int), .int .i64 rv] 42)
      go_wp2_with (at_builtin; refine wpList_append_own_at _ rfl _ _ 22 rfl w5.drew.heap.size 42 i0 _ 2 16 Try.underlying22 hi hz0 hz1 hz2 rfl (by decide) _ l.length (l.flatMap cp) rfl (own_on hP ob) ⟨w6.heap.size, 0, none⟩ 1 1 [.int .i64 (wr : Int), .int .i64 rv] rfl rfl (World.news_of_block (cs := #[.int .i64 (wr : Int), .int .i64 rv]) (t := 42) (fr := (0, 0)) NW.out) (by simp [Value.oneCell']) (by unfold maxLen; omega) (by omega) (Nat.le_trans b6.size ob.size) ?_)
      intro v' w7 p1 p2 p3 p4
      have P7 : OwnP w5.drew.heap.size w7 v' (l ++ [((wr : Int), rv)]) := by
        unfold OwnP
        rw [List.length_append, List.flatMap_append]
        simpa [cp] using p1
      have B7 : Below w5.drew.heap.size w5.drew w7 := (b6.trans (ob.mono b6.size)).grown p2 (by have := ob.size; have := b6.size; omega) (fun j hj => (World.ownsRow.lt hP _ hj).1)
      clear p1 p2 p3 p4 ob hP b6
      clear C0 C1 C2 C3 hS1 hO1
      have C0 := belows E0 B7
      have C1 := cell_later B7 E1
      have C2 := cell_later B7 E2
      have C3 := cell_later B7 E3
      have hS1 := hS.on C0
      have hO1 := hO.on C0
      clear E0 E1 E2 E3
      go_upto_region 19 with (go_at_call 20; (with_reducible refine (h20w _ _ _ P7 hO1).mono ?_); rintro e w8 ⟨x, vp, f, rfl, hf, b8⟩; replace C0 := belows C0 b8; replace C1 := cell_later b8 C1; replace C2 := cell_later b8 C2; replace C3 := cell_later b8 C3; replace hS1 := hS.on C0; replace hO1 := hO.on C0; clear b8)
      rcases hf with ⟨rfl, hx⟩ | rfl | rfl
      · have x1 : decide (x < S) = false := decide_eq_false (by omega)
        have F1 := C1
        have F2 := C2
        have F0 := C0
        go_upto_region 22 with (go_at_call 26; (with_reducible refine (zclone_any q os c _ hO1 (by omega)).mono ?_); rintro e w9 ⟨vh, rfl, hI, b9⟩; replace C0 := belows C0 b9; replace C1 := cell_later b9 C1; replace C2 := cell_later b9 C2; replace C3 := cell_later b9 C3)
        obtain ⟨g, cc, rfl, hga, hgb⟩ := ownI_fn hI (by omega)
        obtain ⟨i1, i2⟩ := ownI_cell hI hwl
        rw [hy.out] at i1
        have hI2 := ownI_put hI rfl wr (y + m)
        have B9 := b9.setCell (p := ⟨g, wr, none⟩) hga (.int .i64 (y + m))
        clear hI
        have k1 : (0 : Int) ≤ (wr : Int) := by omega
        have k2 : (wr : Int) < (os.length : Int) := by omega
        go_upto_region 23 with fail
        generalize (w9.setCell ⟨g, wr, none⟩ (.int .i64 (y + m))) = wA at *
        replace C0 := belows F0 B9
        replace C1 := cell_later B9 F1
        replace C2 := cell_later B9 F2
        replace hS1 := hS.on C0
        clear F0 F1 F2 i1 i2 B9 b9
        go_upto_region 24 with (go_at_call 20; (with_reducible refine (h20h _ _ _ hI2 hS1).mono ?_); rintro e w10 ⟨y2, vq, f2, rfl, hh, b10⟩; replace C0 := belows C0 b10)
        rcases hh with rfl | ⟨rfl, hx1, hx2⟩
        · go_wp2_with fail
          go_ret
          exact ⟨rfl, C0⟩
        · have y1 : decide (y2 ≥ S) = true := decide_eq_true hx1
          have y2' : decide (S ≤ y2) = true := decide_eq_true hx1
          have y3 : decide (y2 ≤ S + m) = true := decide_eq_true hx2
          go_wp2_with fail
          go_ret
          exact ⟨rfl, C0⟩
      · have F1 := C1
        have F2 := C2
        have F0 := C0
        go_upto_region 22 with (go_at_call 26; (with_reducible refine (zclone_any q os c _ hO1 (by omega)).mono ?_); rintro e w9 ⟨vh, rfl, hI, b9⟩; replace C0 := belows C0 b9; replace C1 := cell_later b9 C1; replace C2 := cell_later b9 C2; replace C3 := cell_later b9 C3)
        obtain ⟨g, cc, rfl, hga, hgb⟩ := ownI_fn hI (by omega)
        obtain ⟨i1, i2⟩ := ownI_cell hI hwl
        rw [hy.out] at i1
        have hI2 := ownI_put hI rfl wr (y + m)
        have B9 := b9.setCell (p := ⟨g, wr, none⟩) hga (.int .i64 (y + m))
        clear hI
        have k1 : (0 : Int) ≤ (wr : Int) := by omega
        have k2 : (wr : Int) < (os.length : Int) := by omega
        go_upto_region 23 with fail
        generalize (w9.setCell ⟨g, wr, none⟩ (.int .i64 (y + m))) = wA at *
        replace C0 := belows F0 B9
        replace C1 := cell_later B9 F1
        replace C2 := cell_later B9 F2
        replace hS1 := hS.on C0
        clear F0 F1 F2 i1 i2 B9 b9
        go_upto_region 24 with (go_at_call 20; (with_reducible refine (h20h _ _ _ hI2 hS1).mono ?_); rintro e w10 ⟨y2, vq, f2, rfl, hh, b10⟩; replace C0 := belows C0 b10)
        rcases hh with rfl | ⟨rfl, hx1, hx2⟩
        · go_wp2_with fail
          go_ret
          exact ⟨rfl, C0⟩
        · have y1 : decide (y2 ≥ S) = true := decide_eq_true hx1
          have y2' : decide (S ≤ y2) = true := decide_eq_true hx1
          have y3 : decide (y2 ≤ S + m) = true := decide_eq_true hx2
          go_wp2_with fail
          go_ret
          exact ⟨rfl, C0⟩
      · have F1 := C1
        have F2 := C2
        have F0 := C0
        go_upto_region 22 with (go_at_call 26; (with_reducible refine (zclone_any q os c _ hO1 (by omega)).mono ?_); rintro e w9 ⟨vh, rfl, hI, b9⟩; replace C0 := belows C0 b9; replace C1 := cell_later b9 C1; replace C2 := cell_later b9 C2; replace C3 := cell_later b9 C3)
        obtain ⟨g, cc, rfl, hga, hgb⟩ := ownI_fn hI (by omega)
        obtain ⟨i1, i2⟩ := ownI_cell hI hwl
        rw [hy.out] at i1
        have hI2 := ownI_put hI rfl wr (y + m)
        have B9 := b9.setCell (p := ⟨g, wr, none⟩) hga (.int .i64 (y + m))
        clear hI
        have k1 : (0 : Int) ≤ (wr : Int) := by omega
        have k2 : (wr : Int) < (os.length : Int) := by omega
        go_upto_region 23 with fail
        generalize (w9.setCell ⟨g, wr, none⟩ (.int .i64 (y + m))) = wA at *
        replace C0 := belows F0 B9
        replace C1 := cell_later B9 F1
        replace C2 := cell_later B9 F2
        replace hS1 := hS.on C0
        clear F0 F1 F2 i1 i2 B9 b9
        go_upto_region 24 with (go_at_call 20; (with_reducible refine (h20h _ _ _ hI2 hS1).mono ?_); rintro e w10 ⟨y2, vq, f2, rfl, hh, b10⟩; replace C0 := belows C0 b10)
        rcases hh with rfl | ⟨rfl, hx1, hx2⟩
        · go_wp2_with fail
          go_ret
          exact ⟨rfl, C0⟩
        · have y1 : decide (y2 ≥ S) = true := decide_eq_true hx1
          have y2' : decide (S ≤ y2) = true := decide_eq_true hx1
          have y3 : decide (y2 ≤ S + m) = true := decide_eq_true hx2
          go_wp2_with fail
          go_ret
          exact ⟨rfl, C0⟩
    · try go_simp
      have ob := al1 w5.drew (.cells #[.int .i64 (wr : Int), .int .i64 rv] 42)
      refine hK.out _ _ ⟨cell_later ob C1, cell_later ob C2⟩ (fun K2 hK2 => ?_)
      clear hK K
      try simp only [Act.put, List.setIfInBounds_toArray, List.set_cons_zero, List.set_cons_succ]
      try go_simp
      have hS2 := hS1.on ob
      (try rw [show (w5.alloc (.cells #[.int .i64 (wr : Int), .int .i64 rv] 42)).drew = w5.drew.alloc (.cells #[.int .i64 (wr : Int), .int .i64 rv] 42) from rfl])
      (go_at_call 25; (with_reducible refine (pclone_any p l cap _ hS2 (by omega)).mono ?_); rintro e w6 ⟨vc, rfl, hP, b6⟩)
      try go_wp2_with fail
      refine hK2.out _ _ ⟨cell_later b6 (cell_later ob C1), cell_later b6 (cell_later ob C2)⟩ ?_
      clear hK2 K2
      try simp only [Act.put, List.setIfInBounds_toArray, List.set_cons_zero, List.set_cons_succ]
      have NW : Hid (w6.heap[w5.drew.heap.size]? = some (.cells #[.int .i64 (wr : Int), .int .i64 rv] 42 (0, 0))) := Lib.hid (by
        have h := heap_alloc_new w5.drew (.cells #[.int .i64 (wr : Int), .int .i64 rv] 42)
        rw [← h]
        exact b6.block _ (by simp))
      go_wp2_with (at_builtin; refine wpList_append_own_at _ rfl _ _ 22 rfl (w5.drew.alloc (.cells #[.int .i64 (wr : Int), .int .i64 rv] 42)).heap.size 42 i0 _ 2 16 Try.underlying22 hi hz0 hz1 hz2 rfl (by decide) _ l.length (l.flatMap cp) rfl hP ⟨w5.drew.heap.size, 0, none⟩ 1 1 [.int .i64 (wr : Int), .int .i64 rv] rfl rfl (World.news_of_block (cs := #[.int .i64 (wr : Int), .int .i64 rv]) (t := 42) (fr := (0, 0)) NW.out) (by simp [Value.oneCell']) (by unfold maxLen; omega) (by omega) b6.size ?_)
      intro v' w7 p1 p2 p3 p4
      have P7 : OwnP (w5.drew.alloc (.cells #[.int .i64 (wr : Int), .int .i64 rv] 42)).heap.size w7 v' (l ++ [((wr : Int), rv)]) := by
        unfold OwnP
        rw [List.length_append, List.flatMap_append]
        simpa [cp] using p1
      have B7 : Below w5.drew.heap.size w5.drew w7 := (belows ob b6).grown p2 (by have := ob.size; have := b6.size; omega) (fun j hj => by have := (World.ownsRow.lt hP _ hj).1; have := ob.size; omega)
      clear p1 p2 p3 p4 ob hP b6 hS2
      clear C0 C1 C2 C3 hS1 hO1
      have C0 := belows E0 B7
      have C1 := cell_later B7 E1
      have C2 := cell_later B7 E2
      have C3 := cell_later B7 E3
      have hS1 := hS.on C0
      have hO1 := hO.on C0
      clear E0 E1 E2 E3
      go_upto_region 19 with (go_at_call 20; (with_reducible refine (h20w _ _ _ P7 hO1).mono ?_); rintro e w8 ⟨x, vp, f, rfl, hf, b8⟩; replace C0 := belows C0 b8; replace C1 := cell_later b8 C1; replace C2 := cell_later b8 C2; replace C3 := cell_later b8 C3; replace hS1 := hS.on C0; replace hO1 := hO.on C0; clear b8)
      rcases hf with ⟨rfl, hx⟩ | rfl | rfl
      · have x1 : decide (x < S) = false := decide_eq_false (by omega)
        have F1 := C1
        have F2 := C2
        have F0 := C0
        go_upto_region 22 with (go_at_call 26; (with_reducible refine (zclone_any q os c _ hO1 (by omega)).mono ?_); rintro e w9 ⟨vh, rfl, hI, b9⟩; replace C0 := belows C0 b9; replace C1 := cell_later b9 C1; replace C2 := cell_later b9 C2; replace C3 := cell_later b9 C3)
        obtain ⟨g, cc, rfl, hga, hgb⟩ := ownI_fn hI (by omega)
        obtain ⟨i1, i2⟩ := ownI_cell hI hwl
        rw [hy.out] at i1
        have hI2 := ownI_put hI rfl wr (y + m)
        have B9 := b9.setCell (p := ⟨g, wr, none⟩) hga (.int .i64 (y + m))
        clear hI
        have k1 : (0 : Int) ≤ (wr : Int) := by omega
        have k2 : (wr : Int) < (os.length : Int) := by omega
        go_upto_region 23 with fail
        generalize (w9.setCell ⟨g, wr, none⟩ (.int .i64 (y + m))) = wA at *
        replace C0 := belows F0 B9
        replace C1 := cell_later B9 F1
        replace C2 := cell_later B9 F2
        replace hS1 := hS.on C0
        clear F0 F1 F2 i1 i2 B9 b9
        go_upto_region 24 with (go_at_call 20; (with_reducible refine (h20h _ _ _ hI2 hS1).mono ?_); rintro e w10 ⟨y2, vq, f2, rfl, hh, b10⟩; replace C0 := belows C0 b10)
        rcases hh with rfl | ⟨rfl, hx1, hx2⟩
        · go_wp2_with fail
          go_ret
          exact ⟨rfl, C0⟩
        · have y1 : decide (y2 ≥ S) = true := decide_eq_true hx1
          have y2' : decide (S ≤ y2) = true := decide_eq_true hx1
          have y3 : decide (y2 ≤ S + m) = true := decide_eq_true hx2
          go_wp2_with fail
          go_ret
          exact ⟨rfl, C0⟩
      · have F1 := C1
        have F2 := C2
        have F0 := C0
        go_upto_region 22 with (go_at_call 26; (with_reducible refine (zclone_any q os c _ hO1 (by omega)).mono ?_); rintro e w9 ⟨vh, rfl, hI, b9⟩; replace C0 := belows C0 b9; replace C1 := cell_later b9 C1; replace C2 := cell_later b9 C2; replace C3 := cell_later b9 C3)
        obtain ⟨g, cc, rfl, hga, hgb⟩ := ownI_fn hI (by omega)
        obtain ⟨i1, i2⟩ := ownI_cell hI hwl
        rw [hy.out] at i1
        have hI2 := ownI_put hI rfl wr (y + m)
        have B9 := b9.setCell (p := ⟨g, wr, none⟩) hga (.int .i64 (y + m))
        clear hI
        have k1 : (0 : Int) ≤ (wr : Int) := by omega
        have k2 : (wr : Int) < (os.length : Int) := by omega
        go_upto_region 23 with fail
        generalize (w9.setCell ⟨g, wr, none⟩ (.int .i64 (y + m))) = wA at *
        replace C0 := belows F0 B9
        replace C1 := cell_later B9 F1
        replace C2 := cell_later B9 F2
        replace hS1 := hS.on C0
        clear F0 F1 F2 i1 i2 B9 b9
        go_upto_region 24 with (go_at_call 20; (with_reducible refine (h20h _ _ _ hI2 hS1).mono ?_); rintro e w10 ⟨y2, vq, f2, rfl, hh, b10⟩; replace C0 := belows C0 b10)
        rcases hh with rfl | ⟨rfl, hx1, hx2⟩
        · go_wp2_with fail
          go_ret
          exact ⟨rfl, C0⟩
        · have y1 : decide (y2 ≥ S) = true := decide_eq_true hx1
          have y2' : decide (S ≤ y2) = true := decide_eq_true hx1
          have y3 : decide (y2 ≤ S + m) = true := decide_eq_true hx2
          go_wp2_with fail
          go_ret
          exact ⟨rfl, C0⟩
      · have F1 := C1
        have F2 := C2
        have F0 := C0
        go_upto_region 22 with (go_at_call 26; (with_reducible refine (zclone_any q os c _ hO1 (by omega)).mono ?_); rintro e w9 ⟨vh, rfl, hI, b9⟩; replace C0 := belows C0 b9; replace C1 := cell_later b9 C1; replace C2 := cell_later b9 C2; replace C3 := cell_later b9 C3)
        obtain ⟨g, cc, rfl, hga, hgb⟩ := ownI_fn hI (by omega)
        obtain ⟨i1, i2⟩ := ownI_cell hI hwl
        rw [hy.out] at i1
        have hI2 := ownI_put hI rfl wr (y + m)
        have B9 := b9.setCell (p := ⟨g, wr, none⟩) hga (.int .i64 (y + m))
        clear hI
        have k1 : (0 : Int) ≤ (wr : Int) := by omega
        have k2 : (wr : Int) < (os.length : Int) := by omega
        go_upto_region 23 with fail
        generalize (w9.setCell ⟨g, wr, none⟩ (.int .i64 (y + m))) = wA at *
        replace C0 := belows F0 B9
        replace C1 := cell_later B9 F1
        replace C2 := cell_later B9 F2
        replace hS1 := hS.on C0
        clear F0 F1 F2 i1 i2 B9 b9
        go_upto_region 24 with (go_at_call 20; (with_reducible refine (h20h _ _ _ hI2 hS1).mono ?_); rintro e w10 ⟨y2, vq, f2, rfl, hh, b10⟩; replace C0 := belows C0 b10)
        rcases hh with rfl | ⟨rfl, hx1, hx2⟩
        · go_wp2_with fail
          go_ret
          exact ⟨rfl, C0⟩
        · have y1 : decide (y2 ≥ S) = true := decide_eq_true hx1
          have y2' : decide (S ≤ y2) = true := decide_eq_true hx1
          have y3 : decide (y2 ≤ S + m) = true := decide_eq_true hx2
          go_wp2_with fail
          go_ret
          exact ⟨rfl, C0⟩
  ·
    have t1 : decide (S < T) = false := decide_eq_false (by omega)
    clear hT
    have hw2 : ∀ W, Rdz W (.slice q2 path.length c2) path → W.cell? ⟨w.heap.size, 0, none⟩ = some (.int .i64 n) → W.cell? ⟨w.heap.size + 1, 0, none⟩ = some (.slice p l.length cap) → W.cell? ⟨w.heap.size + 2, 0, none⟩ = some (.slice q os.length c) → Rdz W (.slice q os.length c) os → Sl W p l →
        Calls Try.prog 23 #[.slice q2 path.length c2, .pointer (some ⟨w.heap.size, 0, none⟩), .pointer (some ⟨w.heap.size + 2, 0, none⟩), .pointer (some ⟨w.heap.size + 1, 0, none⟩)] W fun e w' => e = .returned (.tuple #[.int .i64 T, .bool true]) ∧ Below W.heap.size W w' := fun W a b1 b2 b3 d f => by
      have := weigh_any _ path w.heap.size (w.heap.size + 2) (w.heap.size + 1) n q os c p l cap W a (by omega) b1 b3 b2 d (by omega) hwb f
      rw [hg] at this; exact this
    clear hg hown hwb
    go_enter Try.func5, Try.ntmps5
    go_wp2_with (first
      | (go_at_call 10; (with_reducible refine (awake_any _).mono ?_); rintro e w1 ⟨rfl, b1⟩; replace C1 := cell_later b1 C1; replace C2 := cell_later b1 C2; replace C3 := cell_later b1 C3; replace C0 := belows C0 b1; clear b1; have hS1 := hS.on C0; have hO1 := hO.on C0)
      | (go_at_call 11; (with_reducible refine (hLg _).mono ?_); rintro e w2 ⟨rfl, rfl⟩)
      | (go_at_call 20; (with_reducible refine (h20 _ hS1 hO1).mono ?_); rintro e w3 ⟨vp, rfl, hP, b3⟩; obtain ⟨qp, cq, rfl, kp⟩ := hP; have hP : Rdz w3 (.slice qp PZ.length cq) PZ := ⟨qp, cq, rfl, kp⟩; clear kp; replace C0 := belows C0 b3; replace C1 := cell_later b3 C1; replace C2 := cell_later b3 C2; replace C3 := cell_later b3 C3; replace hS1 := hS.on C0; replace hO1 := hO.on C0; clear b3)
      | (go_at_call 23; (with_reducible refine (hw1 _ _ _ hP C1 C2 C3 hO1 hS1).mono ?_); rintro e w4 ⟨rfl, b4⟩; replace C0 := belows C0 b4; replace C1 := cell_later b4 C1; replace C2 := cell_later b4 C2; replace C3 := cell_later b4 C3; replace hS1 := hS.on C0; replace hO1 := hO.on C0; replace hR := hR0.out.on C0; clear b4 hP)
      | (go_at_call 23; (with_reducible refine (hw2 _ hR C1 C2 C3 hO1 hS1).mono ?_); rintro e w5 ⟨rfl, b5⟩; replace C0 := belows C0 b5; replace C1 := cell_later b5 C1; replace C2 := cell_later b5 C2; replace C3 := cell_later b5 C3; replace hS1 := hS.on C0; replace hO1 := hO.on C0; clear b5 hR))
    replace C1 : w5.drew.cell? _ = _ := C1
    replace C2 : w5.drew.cell? _ = _ := C2
    replace C3 : w5.drew.cell? _ = _ := C3
    replace C0 := below_dr C0
    have hS1 := hS.on C0
    have hO1 := hO.on C0
    have E0 := C0
    have E1 := C1
    have E2 := C2
    have E3 := C3
    refine wp_region_pair 12 1 11 [(0, true), (2, true), (3, true), (4, true), (5, true), (6, true), (7, true), (8, true), (9, true), (10, true)] (fun W' => W'.cell? ⟨w.heap.size, 0, none⟩ = some (.int .i64 n) ∧ W'.cell? ⟨w.heap.size + 1, 0, none⟩ = some (.slice p l.length cap)) _ _ (by rfl) (by rfl) rfl rfl (by kernel_rfl) (by kernel_rfl) (fun _ _ d _ _ h => by cases d <;> exact h) ⟨C1, C2⟩ ?_
    simp only [List.filterMap_cons, List.filterMap_nil, List.getElem?_cons_zero, List.getElem?_cons_succ, Option.map_some, List.drop_succ_cons, List.drop_zero]
    iterate 10 (first | (refine wpPlanE_still (v := ?_) (Or.inl ⟨by rfl, ?_⟩) ?_; rotate_left; (focus (intro W hW; (try dsimp only at hW); go_split_ands; go_simp; try with_reducible rfl)); try simp only [Act.put, List.setIfInBounds_toArray, List.set_cons_zero, List.set_cons_succ]) | (refine wpPlanE_still (Or.inr ⟨by rfl, rfl⟩) ?_; try simp only [Act.put, List.setIfInBounds_toArray, List.set_cons_zero, List.set_cons_succ]))
    refine wpPlanE_end (wpPair_both (fun K hK => ?_) (fun K hK => ?_))
    · try go_simp
      (go_at_call 25; (with_reducible refine (pclone_any p l cap _ hS1 (by omega)).mono ?_); rintro e w6 ⟨vc, rfl, hP, b6⟩; replace C1 := cell_later b6 C1; replace C2 := cell_later b6 C2)
      try go_wp2_with fail
      refine hK.out _ _ ⟨C1, C2⟩ (fun K2 hK2 => ?_)
      clear hK K
      try simp only [Act.put, List.setIfInBounds_toArray, List.set_cons_zero, List.set_cons_succ]
      try go_simp
      refine hK2.out _ _ ⟨cell_later (al1 _ _) C1, cell_later (al1 _ _) C2⟩ ?_
      clear hK2 K2
      try simp only [Act.put, List.setIfInBounds_toArray, List.set_cons_zero, List.set_cons_succ]
      have NW : Hid ((w6.alloc (.cells #[.int .i64 (wr : Int), .int .i64 rv] 42)).heap[w6.heap.size]? = some (.cells #[.int .i64 (wr : Int), .int .i64 rv] 42 (0, 0))) := Lib.hid (heap_alloc_new w6 _)
      have ob := al1 w6 (.cells #[.int .i64 (wr : Int), .int .i64 rv] 42)
      go_wp2_with (at_builtin; refine wpList_append_own_at _ rfl _ _ 22 rfl w5.drew.heap.size 42 i0 _ 2 16 Try.underlying22 hi hz0 hz1 hz2 rfl (by decide) _ l.length (l.flatMap cp) rfl (own_on hP ob) ⟨w6.heap.size, 0, none⟩ 1 1 [.int .i64 (wr : Int), .int .i64 rv] rfl rfl (World.news_of_block (cs := #[.int .i64 (wr : Int), .int .i64 rv]) (t := 42) (fr := (0, 0)) NW.out) (by simp [Value.oneCell']) (by unfold maxLen; omega) (by omega) (Nat.le_trans b6.size ob.size) ?_)
      intro v' w7 p1 p2 p3 p4
      have P7 : OwnP w5.drew.heap.size w7 v' (l ++ [((wr : Int), rv)]) := by
        unfold OwnP
        rw [List.length_append, List.flatMap_append]
        simpa [cp] using p1
      have B7 : Below w5.drew.heap.size w5.drew w7 := (b6.trans (ob.mono b6.size)).grown p2 (by have := ob.size; have := b6.size; omega) (fun j hj => (World.ownsRow.lt hP _ hj).1)
      clear p1 p2 p3 p4 ob hP b6
      clear C0 C1 C2 C3 hS1 hO1
      have C0 := belows E0 B7
      have C1 := cell_later B7 E1
      have C2 := cell_later B7 E2
      have C3 := cell_later B7 E3
      have hS1 := hS.on C0
      have hO1 := hO.on C0
      clear E0 E1 E2 E3
      go_upto_region 19 with (go_at_call 20; (with_reducible refine (h20w _ _ _ P7 hO1).mono ?_); rintro e w8 ⟨x, vp, f, rfl, hf, b8⟩; replace C0 := belows C0 b8; replace C1 := cell_later b8 C1; replace C2 := cell_later b8 C2; replace C3 := cell_later b8 C3; replace hS1 := hS.on C0; replace hO1 := hO.on C0; clear b8)
      rcases hf with ⟨rfl, hx⟩ | rfl | rfl
      · have x1 : decide (x < S) = false := decide_eq_false (by omega)
        have F1 := C1
        have F2 := C2
        have F0 := C0
        go_upto_region 22 with (go_at_call 26; (with_reducible refine (zclone_any q os c _ hO1 (by omega)).mono ?_); rintro e w9 ⟨vh, rfl, hI, b9⟩; replace C0 := belows C0 b9; replace C1 := cell_later b9 C1; replace C2 := cell_later b9 C2; replace C3 := cell_later b9 C3)
        obtain ⟨g, cc, rfl, hga, hgb⟩ := ownI_fn hI (by omega)
        obtain ⟨i1, i2⟩ := ownI_cell hI hwl
        rw [hy.out] at i1
        have hI2 := ownI_put hI rfl wr (y + m)
        have B9 := b9.setCell (p := ⟨g, wr, none⟩) hga (.int .i64 (y + m))
        clear hI
        have k1 : (0 : Int) ≤ (wr : Int) := by omega
        have k2 : (wr : Int) < (os.length : Int) := by omega
        go_upto_region 23 with fail
        generalize (w9.setCell ⟨g, wr, none⟩ (.int .i64 (y + m))) = wA at *
        replace C0 := belows F0 B9
        replace C1 := cell_later B9 F1
        replace C2 := cell_later B9 F2
        replace hS1 := hS.on C0
        clear F0 F1 F2 i1 i2 B9 b9
        go_upto_region 24 with (go_at_call 20; (with_reducible refine (h20h _ _ _ hI2 hS1).mono ?_); rintro e w10 ⟨y2, vq, f2, rfl, hh, b10⟩; replace C0 := belows C0 b10)
        rcases hh with rfl | ⟨rfl, hx1, hx2⟩
        · go_wp2_with fail
          go_ret
          exact ⟨rfl, C0⟩
        · have y1 : decide (y2 ≥ S) = true := decide_eq_true hx1
          have y2' : decide (S ≤ y2) = true := decide_eq_true hx1
          have y3 : decide (y2 ≤ S + m) = true := decide_eq_true hx2
          go_wp2_with fail
          go_ret
          exact ⟨rfl, C0⟩
      · have F1 := C1
        have F2 := C2
        have F0 := C0
        go_upto_region 22 with (go_at_call 26; (with_reducible refine (zclone_any q os c _ hO1 (by omega)).mono ?_); rintro e w9 ⟨vh, rfl, hI, b9⟩; replace C0 := belows C0 b9; replace C1 := cell_later b9 C1; replace C2 := cell_later b9 C2; replace C3 := cell_later b9 C3)
        obtain ⟨g, cc, rfl, hga, hgb⟩ := ownI_fn hI (by omega)
        obtain ⟨i1, i2⟩ := ownI_cell hI hwl
        rw [hy.out] at i1
        have hI2 := ownI_put hI rfl wr (y + m)
        have B9 := b9.setCell (p := ⟨g, wr, none⟩) hga (.int .i64 (y + m))
        clear hI
        have k1 : (0 : Int) ≤ (wr : Int) := by omega
        have k2 : (wr : Int) < (os.length : Int) := by omega
        go_upto_region 23 with fail
        generalize (w9.setCell ⟨g, wr, none⟩ (.int .i64 (y + m))) = wA at *
        replace C0 := belows F0 B9
        replace C1 := cell_later B9 F1
        replace C2 := cell_later B9 F2
        replace hS1 := hS.on C0
        clear F0 F1 F2 i1 i2 B9 b9
        go_upto_region 24 with (go_at_call 20; (with_reducible refine (h20h _ _ _ hI2 hS1).mono ?_); rintro e w10 ⟨y2, vq, f2, rfl, hh, b10⟩; replace C0 := belows C0 b10)
        rcases hh with rfl | ⟨rfl, hx1, hx2⟩
        · go_wp2_with fail
          go_ret
          exact ⟨rfl, C0⟩
        · have y1 : decide (y2 ≥ S) = true := decide_eq_true hx1
          have y2' : decide (S ≤ y2) = true := decide_eq_true hx1
          have y3 : decide (y2 ≤ S + m) = true := decide_eq_true hx2
          go_wp2_with fail
          go_ret
          exact ⟨rfl, C0⟩
      · have F1 := C1
        have F2 := C2
        have F0 := C0
        go_upto_region 22 with (go_at_call 26; (with_reducible refine (zclone_any q os c _ hO1 (by omega)).mono ?_); rintro e w9 ⟨vh, rfl, hI, b9⟩; replace C0 := belows C0 b9; replace C1 := cell_later b9 C1; replace C2 := cell_later b9 C2; replace C3 := cell_later b9 C3)
        obtain ⟨g, cc, rfl, hga, hgb⟩ := ownI_fn hI (by omega)
        obtain ⟨i1, i2⟩ := ownI_cell hI hwl
        rw [hy.out] at i1
        have hI2 := ownI_put hI rfl wr (y + m)
        have B9 := b9.setCell (p := ⟨g, wr, none⟩) hga (.int .i64 (y + m))
        clear hI
        have k1 : (0 : Int) ≤ (wr : Int) := by omega
        have k2 : (wr : Int) < (os.length : Int) := by omega
        go_upto_region 23 with fail
        generalize (w9.setCell ⟨g, wr, none⟩ (.int .i64 (y + m))) = wA at *
        replace C0 := belows F0 B9
        replace C1 := cell_later B9 F1
        replace C2 := cell_later B9 F2
        replace hS1 := hS.on C0
        clear F0 F1 F2 i1 i2 B9 b9
        go_upto_region 24 with (go_at_call 20; (with_reducible refine (h20h _ _ _ hI2 hS1).mono ?_); rintro e w10 ⟨y2, vq, f2, rfl, hh, b10⟩; replace C0 := belows C0 b10)
        rcases hh with rfl | ⟨rfl, hx1, hx2⟩
        · go_wp2_with fail
          go_ret
          exact ⟨rfl, C0⟩
        · have y1 : decide (y2 ≥ S) = true := decide_eq_true hx1
          have y2' : decide (S ≤ y2) = true := decide_eq_true hx1
          have y3 : decide (y2 ≤ S + m) = true := decide_eq_true hx2
          go_wp2_with fail
          go_ret
          exact ⟨rfl, C0⟩
    · try go_simp
      have ob := al1 w5.drew (.cells #[.int .i64 (wr : Int), .int .i64 rv] 42)
      refine hK.out _ _ ⟨cell_later ob C1, cell_later ob C2⟩ (fun K2 hK2 => ?_)
      clear hK K
      try simp only [Act.put, List.setIfInBounds_toArray, List.set_cons_zero, List.set_cons_succ]
      try go_simp
      have hS2 := hS1.on ob
      (try rw [show (w5.alloc (.cells #[.int .i64 (wr : Int), .int .i64 rv] 42)).drew = w5.drew.alloc (.cells #[.int .i64 (wr : Int), .int .i64 rv] 42) from rfl])
      (go_at_call 25; (with_reducible refine (pclone_any p l cap _ hS2 (by omega)).mono ?_); rintro e w6 ⟨vc, rfl, hP, b6⟩)
      try go_wp2_with fail
      refine hK2.out _ _ ⟨cell_later b6 (cell_later ob C1), cell_later b6 (cell_later ob C2)⟩ ?_
      clear hK2 K2
      try simp only [Act.put, List.setIfInBounds_toArray, List.set_cons_zero, List.set_cons_succ]
      have NW : Hid (w6.heap[w5.drew.heap.size]? = some (.cells #[.int .i64 (wr : Int), .int .i64 rv] 42 (0, 0))) := Lib.hid (by
        have h := heap_alloc_new w5.drew (.cells #[.int .i64 (wr : Int), .int .i64 rv] 42)
        rw [← h]
        exact b6.block _ (by simp))
      go_wp2_with (at_builtin; refine wpList_append_own_at _ rfl _ _ 22 rfl (w5.drew.alloc (.cells #[.int .i64 (wr : Int), .int .i64 rv] 42)).heap.size 42 i0 _ 2 16 Try.underlying22 hi hz0 hz1 hz2 rfl (by decide) _ l.length (l.flatMap cp) rfl hP ⟨w5.drew.heap.size, 0, none⟩ 1 1 [.int .i64 (wr : Int), .int .i64 rv] rfl rfl (World.news_of_block (cs := #[.int .i64 (wr : Int), .int .i64 rv]) (t := 42) (fr := (0, 0)) NW.out) (by simp [Value.oneCell']) (by unfold maxLen; omega) (by omega) b6.size ?_)
      intro v' w7 p1 p2 p3 p4
      have P7 : OwnP (w5.drew.alloc (.cells #[.int .i64 (wr : Int), .int .i64 rv] 42)).heap.size w7 v' (l ++ [((wr : Int), rv)]) := by
        unfold OwnP
        rw [List.length_append, List.flatMap_append]
        simpa [cp] using p1
      have B7 : Below w5.drew.heap.size w5.drew w7 := (belows ob b6).grown p2 (by have := ob.size; have := b6.size; omega) (fun j hj => by have := (World.ownsRow.lt hP _ hj).1; have := ob.size; omega)
      clear p1 p2 p3 p4 ob hP b6 hS2
      clear C0 C1 C2 C3 hS1 hO1
      have C0 := belows E0 B7
      have C1 := cell_later B7 E1
      have C2 := cell_later B7 E2
      have C3 := cell_later B7 E3
      have hS1 := hS.on C0
      have hO1 := hO.on C0
      clear E0 E1 E2 E3
      go_upto_region 19 with (go_at_call 20; (with_reducible refine (h20w _ _ _ P7 hO1).mono ?_); rintro e w8 ⟨x, vp, f, rfl, hf, b8⟩; replace C0 := belows C0 b8; replace C1 := cell_later b8 C1; replace C2 := cell_later b8 C2; replace C3 := cell_later b8 C3; replace hS1 := hS.on C0; replace hO1 := hO.on C0; clear b8)
      rcases hf with ⟨rfl, hx⟩ | rfl | rfl
      · have x1 : decide (x < S) = false := decide_eq_false (by omega)
        have F1 := C1
        have F2 := C2
        have F0 := C0
        go_upto_region 22 with (go_at_call 26; (with_reducible refine (zclone_any q os c _ hO1 (by omega)).mono ?_); rintro e w9 ⟨vh, rfl, hI, b9⟩; replace C0 := belows C0 b9; replace C1 := cell_later b9 C1; replace C2 := cell_later b9 C2; replace C3 := cell_later b9 C3)
        obtain ⟨g, cc, rfl, hga, hgb⟩ := ownI_fn hI (by omega)
        obtain ⟨i1, i2⟩ := ownI_cell hI hwl
        rw [hy.out] at i1
        have hI2 := ownI_put hI rfl wr (y + m)
        have B9 := b9.setCell (p := ⟨g, wr, none⟩) hga (.int .i64 (y + m))
        clear hI
        have k1 : (0 : Int) ≤ (wr : Int) := by omega
        have k2 : (wr : Int) < (os.length : Int) := by omega
        go_upto_region 23 with fail
        generalize (w9.setCell ⟨g, wr, none⟩ (.int .i64 (y + m))) = wA at *
        replace C0 := belows F0 B9
        replace C1 := cell_later B9 F1
        replace C2 := cell_later B9 F2
        replace hS1 := hS.on C0
        clear F0 F1 F2 i1 i2 B9 b9
        go_upto_region 24 with (go_at_call 20; (with_reducible refine (h20h _ _ _ hI2 hS1).mono ?_); rintro e w10 ⟨y2, vq, f2, rfl, hh, b10⟩; replace C0 := belows C0 b10)
        rcases hh with rfl | ⟨rfl, hx1, hx2⟩
        · go_wp2_with fail
          go_ret
          exact ⟨rfl, C0⟩
        · have y1 : decide (y2 ≥ S) = true := decide_eq_true hx1
          have y2' : decide (S ≤ y2) = true := decide_eq_true hx1
          have y3 : decide (y2 ≤ S + m) = true := decide_eq_true hx2
          go_wp2_with fail
          go_ret
          exact ⟨rfl, C0⟩
      · have F1 := C1
        have F2 := C2
        have F0 := C0
        go_upto_region 22 with (go_at_call 26; (with_reducible refine (zclone_any q os c _ hO1 (by omega)).mono ?_); rintro e w9 ⟨vh, rfl, hI, b9⟩; replace C0 := belows C0 b9; replace C1 := cell_later b9 C1; replace C2 := cell_later b9 C2; replace C3 := cell_later b9 C3)
        obtain ⟨g, cc, rfl, hga, hgb⟩ := ownI_fn hI (by omega)
        obtain ⟨i1, i2⟩ := ownI_cell hI hwl
        rw [hy.out] at i1
        have hI2 := ownI_put hI rfl wr (y + m)
        have B9 := b9.setCell (p := ⟨g, wr, none⟩) hga (.int .i64 (y + m))
        clear hI
        have k1 : (0 : Int) ≤ (wr : Int) := by omega
        have k2 : (wr : Int) < (os.length : Int) := by omega
        go_upto_region 23 with fail
        generalize (w9.setCell ⟨g, wr, none⟩ (.int .i64 (y + m))) = wA at *
        replace C0 := belows F0 B9
        replace C1 := cell_later B9 F1
        replace C2 := cell_later B9 F2
        replace hS1 := hS.on C0
        clear F0 F1 F2 i1 i2 B9 b9
        go_upto_region 24 with (go_at_call 20; (with_reducible refine (h20h _ _ _ hI2 hS1).mono ?_); rintro e w10 ⟨y2, vq, f2, rfl, hh, b10⟩; replace C0 := belows C0 b10)
        rcases hh with rfl | ⟨rfl, hx1, hx2⟩
        · go_wp2_with fail
          go_ret
          exact ⟨rfl, C0⟩
        · have y1 : decide (y2 ≥ S) = true := decide_eq_true hx1
          have y2' : decide (S ≤ y2) = true := decide_eq_true hx1
          have y3 : decide (y2 ≤ S + m) = true := decide_eq_true hx2
          go_wp2_with fail
          go_ret
          exact ⟨rfl, C0⟩
      · have F1 := C1
        have F2 := C2
        have F0 := C0
        go_upto_region 22 with (go_at_call 26; (with_reducible refine (zclone_any q os c _ hO1 (by omega)).mono ?_); rintro e w9 ⟨vh, rfl, hI, b9⟩; replace C0 := belows C0 b9; replace C1 := cell_later b9 C1; replace C2 := cell_later b9 C2; replace C3 := cell_later b9 C3)
        obtain ⟨g, cc, rfl, hga, hgb⟩ := ownI_fn hI (by omega)
        obtain ⟨i1, i2⟩ := ownI_cell hI hwl
        rw [hy.out] at i1
        have hI2 := ownI_put hI rfl wr (y + m)
        have B9 := b9.setCell (p := ⟨g, wr, none⟩) hga (.int .i64 (y + m))
        clear hI
        have k1 : (0 : Int) ≤ (wr : Int) := by omega
        have k2 : (wr : Int) < (os.length : Int) := by omega
        go_upto_region 23 with fail
        generalize (w9.setCell ⟨g, wr, none⟩ (.int .i64 (y + m))) = wA at *
        replace C0 := belows F0 B9
        replace C1 := cell_later B9 F1
        replace C2 := cell_later B9 F2
        replace hS1 := hS.on C0
        clear F0 F1 F2 i1 i2 B9 b9
        go_upto_region 24 with (go_at_call 20; (with_reducible refine (h20h _ _ _ hI2 hS1).mono ?_); rintro e w10 ⟨y2, vq, f2, rfl, hh, b10⟩; replace C0 := belows C0 b10)
        rcases hh with rfl | ⟨rfl, hx1, hx2⟩
        · go_wp2_with fail
          go_ret
          exact ⟨rfl, C0⟩
        · have y1 : decide (y2 ≥ S) = true := decide_eq_true hx1
          have y2' : decide (S ≤ y2) = true := decide_eq_true hx1
          have y3 : decide (y2 ≤ S + m) = true := decide_eq_true hx2
          go_wp2_with fail
          go_ret
          exact ⟨rfl, C0⟩
end Go.Proofs.Yteofbbakegcohaa
