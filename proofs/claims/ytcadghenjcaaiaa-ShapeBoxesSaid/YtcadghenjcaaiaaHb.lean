/- ShapeBoxes. -/
import Derived.Test.YtcadghenjcaaiaaSp
import Derived.Test.YtcadghenjcaaiaaHa
namespace Go.Proofs.Ytcadghenjcaaiaa
open Go.ChangeShapes Go.WideShapes Go.ChangeAt Go.RowKit
set_option linter.unusedVariables false
set_option linter.unusedSimpArgs false

set_option maxHeartbeats 8000000 in
set_option maxRecDepth 100000 in
theorem boxes_s (b : Bar) (w : World) (hk : b.Ok w) (h1 : (decide (b.ds.length ≤ 8) && decide (b.mark.size ≤ 60)) = false) : Calls Try.prog 9 #[b.val] w fun e w' => e = .returned (.bool true) ∧ Below w.heap.size w w' := by
  have h16 := fun W => Short_any b W
  rw [h1] at h16
  have E := (Env.nil w).add w.heap.size 32 b.cs rfl
  clear hk h1
  simp only [Bar.val, Bar.cs] at *
  have C := E.cells
  simp [BC, CF] at C
  go_enter Try.func9, Try.ntmps9
  go_wp2_with (first
    | (go_at_call 10; (with_reducible refine (awake_any _).mono ?_); rintro X w1 ⟨rfl, hb⟩; replace E := E.on hb; replace C := E.cells; simp [BC, CF] at C; clear hb)
    | (go_at_call 16; (with_reducible refine (h16 _).mono ?_); rintro X w2 ⟨rfl, hb⟩; replace E := E.on hb; replace C := E.cells; simp [BC, CF] at C; clear hb))
  go_ret
  exact ⟨rfl, envb E⟩
set_option maxHeartbeats 8000000 in
set_option maxRecDepth 100000 in
theorem boxes_n (b : Bar) (w : World) (hk : b.Ok w) (h1 : (decide (b.ds.length ≤ 8) && decide (b.mark.size ≤ 60)) = true) (hv : barB b = false) : Calls Try.prog 9 #[b.val] w fun e w' => e = .returned (.bool true) ∧ Below w.heap.size w w' := by
  have h16 := fun W => Short_any b W
  have h18 := fun W (h : Below w.heap.size w W) => Path_no b W (hk.on h) hv
  have h19 := fun W (h : Below w.heap.size w W) => Box_no b W (hk.on h) hv
  rw [h1] at h16
  have E := (Env.nil w).add w.heap.size 32 b.cs rfl
  clear hk h1 hv
  simp only [Bar.val, Bar.cs] at *
  have hq := eq42_zero
  have C := E.cells
  simp [BC, CF] at C
  go_enter Try.func9, Try.ntmps9
  go_wp2_with (first
    | (go_at_call 10; (with_reducible refine (awake_any _).mono ?_); rintro X w1 ⟨rfl, hb⟩; replace E := E.on hb; replace C := E.cells; simp [BC, CF] at C; clear hb)
    | (go_at_call 16; (with_reducible refine (h16 _).mono ?_); rintro X w2 ⟨rfl, hb⟩; replace E := E.on hb; replace C := E.cells; simp [BC, CF] at C; clear hb)
    | (go_at_call 18; (with_reducible refine (h18 _ (envb E)).mono ?_); rintro X w3 ⟨rfl, hb⟩; replace E := E.on hb; replace C := E.cells; simp [BC, CF] at C; clear hb)
    | (go_at_call 19; (with_reducible refine (h19 _ (envb E)).mono ?_); rintro X w3 ⟨rfl, hb⟩; replace E := E.on hb; replace E := E.add w3.heap.size 42 #[.int .i64 0, .int .i64 0, .int .i64 0, .int .i64 0, .int .i64 0, .int .i64 0] rfl; replace C := E.cells; simp [BC, CF] at C; clear hb))
  go_ret
  exact ⟨by simp, envb E⟩
set_option maxHeartbeats 32000000 in
set_option maxRecDepth 100000 in
theorem boxes_v (b : Bar) (w : World) (hk : b.Ok w) (h1 : (decide (b.ds.length ≤ 8) && decide (b.mark.size ≤ 60)) = true) (hv : barB b = true) : Calls Try.prog 9 #[b.val] w fun e w' => e = .returned (.bool true) ∧ Below w.heap.size w w' := by
  have h16 := fun W => Short_any b W
  have h18 := fun W (h : Below w.heap.size w W) => Path_ok b W (hk.on h) hv
  have h19 := fun W (h : Below w.heap.size w W) => Box_ok b W (hk.on h) hv
  have n6 := nl_le (barB_and hv).1
  have HIN := Lib.hid (fun k (h : k < (pts b).length) => hull_in h)
  have HTO := Lib.hid (fun j => hull_tou (PS := pts b) (by rw [pts_len]; omega) j)
  have HPL := Lib.hid (pts_len b)
  rw [h1] at h16
  have E := (Env.nil w).add w.heap.size 32 b.cs rfl
  clear hk h1 hv
  simp only [Bar.val, Bar.cs] at h16 h18 h19 E ⊢
  generalize hullL ((pts b).map bxp) = RES at *
  generalize pts b = PS at *
  generalize nl b.code = n at *
  unfold Bx.val at h19
  have C := E.cells
  simp [BC, CF] at C
  go_enter Try.func9, Try.ntmps9
  go_upto_region 9 with (first
    | (go_at_call 10; (with_reducible refine (awake_any _).mono ?_); rintro X w1 ⟨rfl, hb⟩; replace E := E.on hb; replace C := E.cells; simp [BC, CF] at C; clear hb)
    | (go_at_call 16; (with_reducible refine (h16 _).mono ?_); rintro X w2 ⟨rfl, hb⟩; replace E := E.on hb; replace C := E.cells; simp [BC, CF] at C; clear hb)
    | (go_at_call 19; (with_reducible refine (h19 _ (envb E)).mono ?_); rintro X w5 ⟨rfl, hb⟩; replace E := (E.on hb).add w5.heap.size 42 #[.int .i64 RES.a, .int .i64 RES.b, .int .i64 RES.c, .int .i64 RES.d, .int .i64 RES.e, .int .i64 RES.f] rfl; replace C := E.cells; simp [BC, CF] at C; clear hb)
    | (go_at_call 18; (with_reducible refine (h18 _ (envb E)).mono ?_); rintro X w3 ⟨vp, rfl, hO, hb⟩; replace E := E.on hb; obtain ⟨gp, cap2, rfl, hP⟩ := ownf hO HPL.out; replace C := E.cells; simp [BC, CF] at C; clear hb))
  generalize w5.heap.size = gx at *
  have HPc := Lib.hid hP
  have EW := envb E
  have HX := Lib.hid C
  have E1 := (Env.nil w3).add w3.heap.size 57 #[.bool false, .bool false, .bool false, .bool false, .bool false, .bool false] rfl
  clear hP hO E h16 h18 h19 C
  go_wp2_with fail
  go_loopw [44] (fun v wr => ∃ (k : Nat) (b0 b1 b2 b3 b4 b5 : Bool), v = .int .i64 k ∧ k ≤ n + 1 ∧ Hid (b0 = touA RES (PS.take k) 0 ∧ b1 = touA RES (PS.take k) 1 ∧ b2 = touA RES (PS.take k) 2 ∧ b3 = touA RES (PS.take k) 3 ∧ b4 = touA RES (PS.take k) 4 ∧ b5 = touA RES (PS.take k) 5) ∧ Env w3 wr [⟨w3.heap.size, 57, #[.bool b0, .bool b1, .bool b2, .bool b3, .bool b4, .bool b5]⟩]) (fun v _ => n + 1 - (intOf v).toNat)
  case atStart => exact ⟨0, false, false, false, false, false, false, rfl, Nat.zero_le _, Lib.hid ⟨rfl, rfl, rfl, rfl, rfl, rfl⟩, E1⟩
  case round =>
    clear E1
    obtain ⟨k, b0, b1, b2, b3, b4, b5, rfl, hk, hT, E⟩ := hrel
    have X0 := HX.out
    by_cases hlt : k < n + 1
    · have g1 : decide ((k : Int) < ((n + 1 : Nat) : Int)) = true := by simp; omega
      have g2 : decide ((k : Int) < (n : Int) + 1) = true := by simp; omega
      have W1 : IntKind.i64.wrap ((k : Int) + 1) = ((k + 1 : Nat) : Int) := by rw [IntWalk.i64_in _ (by omega)]; omega
      have p1 : (0 : Int) ≤ (k : Int) := by omega
      have p2 : (k : Int) < (n : Int) + 1 := by omega
      have p3 : k < n + 1 := hlt
      have hkl : k < PS.length := by rw [HPL.out]; exact hlt
      obtain ⟨a0, a1, a2⟩ := HPc.out k hkl
      have hin := HIN.out k hkl
      have hst := fun j => touA_step (R := RES) hkl j
      generalize PS[k] = p at *
      obtain ⟨x0, y0, z0⟩ := p
      dsimp only at a0 a1 a2 hin
      obtain ⟨⟨i1, i2⟩, ⟨i3, i4⟩, i5, i6⟩ := hin
      have HST := Lib.hid hst
      clear hst
      replace a0 := cell_later (envb E) a0
      replace a1 := cell_later (envb E) a1
      replace a2 := cell_later (envb E) a2
      have lx := Nat.lt_of_lt_of_le X0.1.1 E.1.size
      have lt1 := E.lt 0 (by simp)
      simp only [numB] at lt1
      obtain ⟨⟨-, ⟨c0, -⟩, ⟨c1, -⟩, ⟨c2, -⟩, ⟨c3, -⟩, ⟨c4, -⟩, c5, -⟩, -⟩ := X0
      replace c0 := cell_later (envb E) c0
      replace c1 := cell_later (envb E) c1
      replace c2 := cell_later (envb E) c2
      replace c3 := cell_later (envb E) c3
      replace c4 := cell_later (envb E) c4
      replace c5 := cell_later (envb E) c5
      have l1 : decide (x0 < RES.a) = false := by simp; omega
      have l2 : decide (y0 < RES.b) = false := by simp; omega
      have l3 : decide (z0 < RES.c) = false := by simp; omega
      have u1 : decide (RES.d < x0) = false := by simp; omega
      have u2 : decide (RES.e < y0) = false := by simp; omega
      have u3 : decide (RES.f < z0) = false := by simp; omega
      have j0 := fun W => nine_at RES.a x0 RES.d RES.b y0 RES.e RES.c z0 RES.f W 0 (by omega)
      have j1 := fun W => nine_at RES.a x0 RES.d RES.b y0 RES.e RES.c z0 RES.f W 1 (by omega)
      have j2 := fun W => nine_at RES.a x0 RES.d RES.b y0 RES.e RES.c z0 RES.f W 2 (by omega)
      simp at j0 j1 j2
      clear i1 i2 i3 i4 i5 i6
      have E5 := E.more (.cells #[.int .i64 x0, .int .i64 y0, .int .i64 z0] 40)
      go_wp2_with fail
      clear c0 c1 c2 c3 c4 c5 a0 a1 a2 E
      go_loopw [76] (fun v wq => ∃ (i : Nat) (d0 d1 d2 d3 d4 d5 : Bool), v = .int .i64 i ∧ i ≤ 3 ∧ Hid (d0 = (if 0 < i then b0 || (x0 == RES.a) else b0) ∧ d1 = (if 1 < i then b1 || (y0 == RES.b) else b1) ∧ d2 = (if 2 < i then b2 || (z0 == RES.c) else b2) ∧ d3 = (if 0 < i then b3 || (x0 == RES.d) else b3) ∧ d4 = (if 1 < i then b4 || (y0 == RES.e) else b4) ∧ d5 = (if 2 < i then b5 || (z0 == RES.f) else b5)) ∧ Env w3 wq [⟨w3.heap.size, 57, #[.bool d0, .bool d1, .bool d2, .bool d3, .bool d4, .bool d5]⟩]) (fun v _ => 3 - (intOf v).toNat)
      case atStart => exact ⟨0, b0, b1, b2, b3, b4, b5, rfl, by omega, Lib.hid ⟨rfl, rfl, rfl, rfl, rfl, rfl⟩, E5⟩
      case round =>
        clear E5
        obtain ⟨i, d0, d1, d2, d3, d4, d5, rfl, hi, hD, E⟩ := hrel
        have C := E.cells
        simp [BC, CF] at C
        rcases (by omega : i = 0 ∨ i = 1 ∨ i = 2 ∨ i = 3) with rfl | rfl | rfl | rfl
        · have HE := hD
          clear hD
          cases d0
          · cases d3
            · go_wp2
              obtain ⟨e0, e1, e2, e3, e4, e5⟩ := HE.out
              exact ⟨⟨1, (x0 == RES.a), d1, d2, (x0 == RES.d), d4, d5, rfl, by omega, Lib.hid ⟨(by have e := e0; simp at e; simp [e]), (by simpa using e1), (by simpa using e2), (by have e := e3; simp at e; simp [e]), (by simpa using e4), (by simpa using e5)⟩, ((E.put 0 0 (.bool (x0 == RES.a)) rfl).put 0 3 (.bool (x0 == RES.d)) rfl).more _⟩, by simp [intOf]⟩
            · go_wp2
              obtain ⟨e0, e1, e2, e3, e4, e5⟩ := HE.out
              exact ⟨⟨1, (x0 == RES.a), d1, d2, true, d4, d5, rfl, by omega, Lib.hid ⟨(by have e := e0; simp at e; simp [e]), (by simpa using e1), (by simpa using e2), (by have e := e3; simp at e; simp [e]), (by simpa using e4), (by simpa using e5)⟩, ((E.put 0 0 (.bool (x0 == RES.a)) rfl).put 0 3 (.bool true) rfl).more _⟩, by simp [intOf]⟩
          · cases d3
            · go_wp2
              obtain ⟨e0, e1, e2, e3, e4, e5⟩ := HE.out
              exact ⟨⟨1, true, d1, d2, (x0 == RES.d), d4, d5, rfl, by omega, Lib.hid ⟨(by have e := e0; simp at e; simp [e]), (by simpa using e1), (by simpa using e2), (by have e := e3; simp at e; simp [e]), (by simpa using e4), (by simpa using e5)⟩, ((E.put 0 0 (.bool true) rfl).put 0 3 (.bool (x0 == RES.d)) rfl).more _⟩, by simp [intOf]⟩
            · go_wp2
              obtain ⟨e0, e1, e2, e3, e4, e5⟩ := HE.out
              exact ⟨⟨1, true, d1, d2, true, d4, d5, rfl, by omega, Lib.hid ⟨(by have e := e0; simp at e; simp [e]), (by simpa using e1), (by simpa using e2), (by have e := e3; simp at e; simp [e]), (by simpa using e4), (by simpa using e5)⟩, ((E.put 0 0 (.bool true) rfl).put 0 3 (.bool true) rfl).more _⟩, by simp [intOf]⟩
        · have HE := hD
          clear hD
          cases d1
          · cases d4
            · go_wp2
              obtain ⟨e0, e1, e2, e3, e4, e5⟩ := HE.out
              exact ⟨⟨2, d0, (y0 == RES.b), d2, d3, (y0 == RES.e), d5, rfl, by omega, Lib.hid ⟨(by simpa using e0), (by have e := e1; simp at e; simp [e]), (by simpa using e2), (by simpa using e3), (by have e := e4; simp at e; simp [e]), (by simpa using e5)⟩, ((E.put 0 1 (.bool (y0 == RES.b)) rfl).put 0 4 (.bool (y0 == RES.e)) rfl).more _⟩, by simp [intOf]⟩
            · go_wp2
              obtain ⟨e0, e1, e2, e3, e4, e5⟩ := HE.out
              exact ⟨⟨2, d0, (y0 == RES.b), d2, d3, true, d5, rfl, by omega, Lib.hid ⟨(by simpa using e0), (by have e := e1; simp at e; simp [e]), (by simpa using e2), (by simpa using e3), (by have e := e4; simp at e; simp [e]), (by simpa using e5)⟩, ((E.put 0 1 (.bool (y0 == RES.b)) rfl).put 0 4 (.bool true) rfl).more _⟩, by simp [intOf]⟩
          · cases d4
            · go_wp2
              obtain ⟨e0, e1, e2, e3, e4, e5⟩ := HE.out
              exact ⟨⟨2, d0, true, d2, d3, (y0 == RES.e), d5, rfl, by omega, Lib.hid ⟨(by simpa using e0), (by have e := e1; simp at e; simp [e]), (by simpa using e2), (by simpa using e3), (by have e := e4; simp at e; simp [e]), (by simpa using e5)⟩, ((E.put 0 1 (.bool true) rfl).put 0 4 (.bool (y0 == RES.e)) rfl).more _⟩, by simp [intOf]⟩
            · go_wp2
              obtain ⟨e0, e1, e2, e3, e4, e5⟩ := HE.out
              exact ⟨⟨2, d0, true, d2, d3, true, d5, rfl, by omega, Lib.hid ⟨(by simpa using e0), (by have e := e1; simp at e; simp [e]), (by simpa using e2), (by simpa using e3), (by have e := e4; simp at e; simp [e]), (by simpa using e5)⟩, ((E.put 0 1 (.bool true) rfl).put 0 4 (.bool true) rfl).more _⟩, by simp [intOf]⟩
        · have HE := hD
          clear hD
          cases d2
          · cases d5
            · go_wp2
              obtain ⟨e0, e1, e2, e3, e4, e5⟩ := HE.out
              exact ⟨⟨3, d0, d1, (z0 == RES.c), d3, d4, (z0 == RES.f), rfl, by omega, Lib.hid ⟨(by simpa using e0), (by simpa using e1), (by have e := e2; simp at e; simp [e]), (by simpa using e3), (by simpa using e4), (by have e := e5; simp at e; simp [e])⟩, ((E.put 0 2 (.bool (z0 == RES.c)) rfl).put 0 5 (.bool (z0 == RES.f)) rfl).more _⟩, by simp [intOf]⟩
            · go_wp2
              obtain ⟨e0, e1, e2, e3, e4, e5⟩ := HE.out
              exact ⟨⟨3, d0, d1, (z0 == RES.c), d3, d4, true, rfl, by omega, Lib.hid ⟨(by simpa using e0), (by simpa using e1), (by have e := e2; simp at e; simp [e]), (by simpa using e3), (by simpa using e4), (by have e := e5; simp at e; simp [e])⟩, ((E.put 0 2 (.bool (z0 == RES.c)) rfl).put 0 5 (.bool true) rfl).more _⟩, by simp [intOf]⟩
          · cases d5
            · go_wp2
              obtain ⟨e0, e1, e2, e3, e4, e5⟩ := HE.out
              exact ⟨⟨3, d0, d1, true, d3, d4, (z0 == RES.f), rfl, by omega, Lib.hid ⟨(by simpa using e0), (by simpa using e1), (by have e := e2; simp at e; simp [e]), (by simpa using e3), (by simpa using e4), (by have e := e5; simp at e; simp [e])⟩, ((E.put 0 2 (.bool true) rfl).put 0 5 (.bool (z0 == RES.f)) rfl).more _⟩, by simp [intOf]⟩
            · go_wp2
              obtain ⟨e0, e1, e2, e3, e4, e5⟩ := HE.out
              exact ⟨⟨3, d0, d1, true, d3, d4, true, rfl, by omega, Lib.hid ⟨(by simpa using e0), (by simpa using e1), (by have e := e2; simp at e; simp [e]), (by simpa using e3), (by simpa using e4), (by have e := e5; simp at e; simp [e])⟩, ((E.put 0 2 (.bool true) rfl).put 0 5 (.bool true) rfl).more _⟩, by simp [intOf]⟩
        · go_wp2
          obtain ⟨e0, e1, e2, e3, e4, e5⟩ := hD.out
          obtain ⟨t0, t1, t2, t3, t4, t5⟩ := hT.out
          exact ⟨⟨k + 1, d0, d1, d2, d3, d4, d5, rfl, hlt, Lib.hid ⟨by rw [HST.out, ← t0]; simpa [tou] using e0, by rw [HST.out, ← t1]; simpa [tou] using e1, by rw [HST.out, ← t2]; simpa [tou] using e2, by rw [HST.out, ← t3]; simpa [tou] using e3, by rw [HST.out, ← t4]; simpa [tou] using e4, by rw [HST.out, ← t5]; simpa [tou] using e5⟩, E⟩, by simp [intOf]; omega⟩
    · have g1 : decide ((k : Int) < ((n + 1 : Nat) : Int)) = false := by simp; omega
      have g2 : decide ((k : Int) < (n : Int) + 1) = false := by simp; omega
      obtain ⟨t0, t1, t2, t3, t4, t5⟩ := hT.out
      rw [List.take_of_length_le (by rw [HPL.out]; omega), HTO.out] at t0 t1 t2 t3 t4 t5
      subst t0 t1 t2 t3 t4 t5
      have hc := contains_true w3.heap.size wr (fun j hj => by
        have h := (E.2.2.1).read j
        rw [h]
        rcases (by omega : j = 0 ∨ j = 1 ∨ j = 2 ∨ j = 3 ∨ j = 4 ∨ j = 5) with rfl | rfl | rfl | rfl | rfl | rfl <;> rfl)
      have EB := envb E
      clear E
      go_wp2_with (go_at_call 30; (with_reducible refine hc.mono ?_); rintro X w6 ⟨rfl, rfl⟩)
      go_ret
      exact ⟨rfl, belows EW EB⟩
theorem boxes_walk (b : Bar) (w : World) (hk : b.Ok w) : Calls Try.prog 9 #[b.val] w fun e w' => e = .returned (.bool true) ∧ Below w.heap.size w w' := by
  cases h1 : (decide (b.ds.length ≤ 8) && decide (b.mark.size ≤ 60))
  · exact boxes_s b w hk h1
  cases hv : barB b
  · exact boxes_n b w hk h1 hv
  · exact boxes_v b w hk h1 hv
end Go.Proofs.Ytcadghenjcaaiaa
