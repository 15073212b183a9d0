/- ShapeScales. -/
import Derived.Test.YtcadghenjcaaiaaS0
import Derived.Test.YtcadghenjcaaiaaPl
import Derived.Deep.CutBlock
namespace Go.Proofs.Ytcadghenjcaaiaa
open Go.ChangeShapes Go.WideShapes Go.ChangeAt Go.RowKit
set_option linter.unusedVariables false
set_option linter.unusedSimpArgs false

theorem pt_same {b c : Bar} (hc : c.code = b.code) (hd : c.ds = b.ds) : ∀ j, pt c j = pt b j
  | 0 => rfl
  | j + 1 => by
    have e1 : pt c (j + 1) = mv (pt c j) (way c.code j) (legF c j) := rfl
    have e2 : pt b (j + 1) = mv (pt b j) (way b.code j) (legF b j) := rfl
    rw [e1, e2, pt_same hc hd j, hc, show legF c j = legF b j by unfold legF; rw [hd, hc]]
theorem pts_same {b c : Bar} (hc : c.code = b.code) (hd : c.ds = b.ds) : pts c = pts b := by
  unfold pts
  rw [hc]
  exact List.map_congr_left fun j _ => pt_same hc hd j
theorem ne40_same (x y z : Int) (W : World) : (binOp .neq 40 (.agg #[.int .i64 x, .int .i64 y, .int .i64 z]) (.agg #[.int .i64 x, .int .i64 y, .int .i64 z])).run Try.prog W = .ok (.bool false) W := by
  have h := ne40 ⟨x, y, z⟩ ⟨x, y, z⟩ W
  rw [decide_eq_true (show (⟨x, y, z⟩ : Pt) = ⟨x, y, z⟩ from rfl)] at h
  exact h
theorem kb {k x : Int} (h : 0 ≤ k ∧ k ≤ 255) (hx : -524288 ≤ x ∧ x ≤ 524288) : -133693440 ≤ k * x ∧ k * x ≤ 133693440 := by
  have h1 : k * x ≤ k * 524288 := Int.mul_le_mul_of_nonneg_left hx.2 h.1
  have h2 : k * (-524288) ≤ k * x := Int.mul_le_mul_of_nonneg_left hx.1 h.1
  omega
set_option maxHeartbeats 8000000 in
set_option maxRecDepth 100000 in
theorem scales_s (b : Bar) (k : Int) (s : ByteArray) (u : Int) (w : World) (hk : b.Ok w) (h1 : (decide (b.ds.length ≤ 8) && decide (b.mark.size ≤ 60)) = false) : Calls Try.prog 8 #[b.val, .int .u8 k, .string s, .int .u16 u] w fun e w' => e = .returned (.bool true) ∧ Below w.heap.size w w' := by
  have h16 := fun W => Short_any b W
  rw [h1] at h16
  clear h1
  have E := (Env.nil w).add w.heap.size 32 b.cs rfl
  clear hk
  simp only [Bar.val, Bar.cs] at *
  have C := E.cells
  simp [BC, CF] at C
  go_enter Try.func8, Try.ntmps8
  go_wp2_with (first
    | (go_at_call 10; (with_reducible refine (awake_any _).mono ?_); rintro X w1 ⟨rfl, hb⟩; replace E := E.on hb; replace C := E.cells; simp [BC, CF] at C; clear hb)
    | (go_at_call 16; (with_reducible refine (h16 _).mono ?_); rintro X w2 ⟨rfl, hb⟩; replace E := E.on hb; replace C := E.cells; simp [BC, CF] at C; clear hb))
  go_ret
  exact ⟨by simp, envb E⟩
set_option maxHeartbeats 8000000 in
set_option maxRecDepth 100000 in
theorem scales_z (b : Bar) (k : Int) (s : ByteArray) (u : Int) (w : World) (hk : b.Ok w) (h1 : (decide (b.ds.length ≤ 8) && decide (b.mark.size ≤ 60)) = true) (h2 : k = 0) : Calls Try.prog 8 #[b.val, .int .u8 k, .string s, .int .u16 u] w fun e w' => e = .returned (.bool true) ∧ Below w.heap.size w w' := by
  have h16 := fun W => Short_any b W
  rw [h1] at h16
  clear h1
  subst h2
  have E := (Env.nil w).add w.heap.size 32 b.cs rfl
  clear hk
  simp only [Bar.val, Bar.cs] at *
  have C := E.cells
  simp [BC, CF] at C
  go_enter Try.func8, Try.ntmps8
  go_wp2_with (first
    | (go_at_call 10; (with_reducible refine (awake_any _).mono ?_); rintro X w1 ⟨rfl, hb⟩; replace E := E.on hb; replace C := E.cells; simp [BC, CF] at C; clear hb)
    | (go_at_call 16; (with_reducible refine (h16 _).mono ?_); rintro X w2 ⟨rfl, hb⟩; replace E := E.on hb; replace C := E.cells; simp [BC, CF] at C; clear hb))
  go_ret
  exact ⟨by simp, envb E⟩
set_option maxHeartbeats 8000000 in
set_option maxRecDepth 100000 in
theorem scales_l (b : Bar) (k : Int) (s : ByteArray) (u : Int) (w : World) (hk : b.Ok w) (h1 : (decide (b.ds.length ≤ 8) && decide (b.mark.size ≤ 60)) = true) (h2 : (k == 0) = false) (h3 : 60 < s.size) : Calls Try.prog 8 #[b.val, .int .u8 k, .string s, .int .u16 u] w fun e w' => e = .returned (.bool true) ∧ Below w.heap.size w w' := by
  have h16 := fun W => Short_any b W
  rw [h1] at h16
  clear h1
  have h4 : decide (60 < (s.size : Int)) = true := by simp; omega
  have h5 : (60 : Int) < s.size := by omega
  have E := (Env.nil w).add w.heap.size 32 b.cs rfl
  clear hk
  simp only [Bar.val, Bar.cs] at *
  have C := E.cells
  simp [BC, CF] at C
  go_enter Try.func8, Try.ntmps8
  go_wp2_with (first
    | (go_at_call 10; (with_reducible refine (awake_any _).mono ?_); rintro X w1 ⟨rfl, hb⟩; replace E := E.on hb; replace C := E.cells; simp [BC, CF] at C; clear hb)
    | (go_at_call 16; (with_reducible refine (h16 _).mono ?_); rintro X w2 ⟨rfl, hb⟩; replace E := E.on hb; replace C := E.cells; simp [BC, CF] at C; clear hb))
  go_ret
  exact ⟨by simp, envb E⟩
set_option maxHeartbeats 8000000 in
set_option maxRecDepth 100000 in
theorem scales_n (b : Bar) (k : Int) (s : ByteArray) (u : Int) (w : World) (hk : b.Ok w) (h1 : (decide (b.ds.length ≤ 8) && decide (b.mark.size ≤ 60)) = true) (h2 : (k == 0) = false) (h3 : s.size ≤ 60) (hv : barB b = false) : Calls Try.prog 8 #[b.val, .int .u8 k, .string s, .int .u16 u] w fun e w' => e = .returned (.bool true) ∧ Below w.heap.size w w' := by
  have h16 := fun W => Short_any b W
  have h18 := fun W (h : Below w.heap.size w W) => Path_no b W (hk.on h) hv
  rw [h1] at h16
  clear h1 hv
  have h4 : decide (60 < (s.size : Int)) = false := by simp; omega
  have h5 : ¬ (60 : Int) < s.size := by omega
  have E := (Env.nil w).add w.heap.size 32 b.cs rfl
  clear hk
  simp only [Bar.val, Bar.cs] at *
  have C := E.cells
  simp [BC, CF] at C
  go_enter Try.func8, Try.ntmps8
  go_wp2_with (first
    | (go_at_call 10; (with_reducible refine (awake_any _).mono ?_); rintro X w1 ⟨rfl, hb⟩; replace E := E.on hb; replace C := E.cells; simp [BC, CF] at C; clear hb)
    | (go_at_call 16; (with_reducible refine (h16 _).mono ?_); rintro X w2 ⟨rfl, hb⟩; replace E := E.on hb; replace C := E.cells; simp [BC, CF] at C; clear hb)
    | (go_at_call 18; (with_reducible refine (h18 _ (envb E)).mono ?_); rintro X w3 ⟨rfl, hb⟩; replace E := E.on hb; replace C := E.cells; simp [BC, CF] at C; clear hb))
  go_ret
  exact ⟨by simp, envb E⟩
set_option maxHeartbeats 32000000 in
set_option maxRecDepth 100000 in
theorem scales_true (b : Bar) (k : Int) (s : ByteArray) (u q : Int) (w : World) (hk : b.Ok w) (h1 : (decide (b.ds.length ≤ 8) && decide (b.mark.size ≤ 60)) = true) (h2 : (k == 0) = false) (h3 : s.size ≤ 60) (hv : barB b = true) (hk1 : 0 ≤ k ∧ k ≤ 255) (hq : u.tmod 1000 = q) (hq2 : 0 ≤ q ∧ q < 1000) (hu : 0 ≤ u ∧ u ≤ 65535)
    (hA : barB ⟨s, b.size, 1 + q, b.code, b.p, b.ds, b.cap⟩ = true) : Calls Try.prog 8 #[b.val, .int .u8 k, .string s, .int .u16 u] w fun e w' => e = .returned (.bool true) ∧ Below w.heap.size w w' := by
  have h16 := fun W => Short_any b W
  have h18 := fun W (h : Below w.heap.size w W) => Path_ok b W (hk.on h) hv
  have hk2 : ∀ W, Below w.heap.size w W → Bar.Ok ⟨s, b.size, 1 + q, b.code, b.p, b.ds, b.cap⟩ W := fun W h => ⟨by unfold maxLen; dsimp only; omega, hk.ln, hk.rd.on h⟩
  have h26 := fun W (h : Below w.heap.size w W) => Same_ok b ⟨s, b.size, 1 + q, b.code, b.p, b.ds, b.cap⟩ W (hk.on h) (hk2 W h) hv hA
  have hsm : smB b ⟨s, b.size, 1 + q, b.code, b.p, b.ds, b.cap⟩ = true := by simp [smB]
  rw [hsm] at h26
  have h18c := fun W (h : Below w.heap.size w W) => Path_ok ⟨s, b.size, 1 + q, b.code, b.p, b.ds, b.cap⟩ W (hk2 W h) hA
  rw [pts_same (b := b) (c := ⟨s, b.size, 1 + q, b.code, b.p, b.ds, b.cap⟩) rfl rfl] at h18c
  have h23 : ∀ v v' W, Rd pc 3 W v (pts b) → Rd pc 3 W v' (pts b) → Calls Try.prog 23 #[v, v'] W fun e w' => e = .returned (.bool true) ∧ Below W.heap.size W w' := fun v v' W a c => by
    have := equalp_any v v' _ _ W a c (by rw [pts_len]; have := nl_le (barB_and hv).1; omega)
    rw [decide_eq_true rfl] at this; exact this
  have hlen := (barB_and hv).2.1
  have hn5 := ndim_le b.code
  have hn0 := ndim_pos (barB_and hv).1
  have hbd := fitB_mem _ _ (barB_and hv).2.2.1 (by omega)
  have h29 := fun W (h : Below w.heap.size w W) => zclone_any b.p b.ds b.cap W (hk.on h).rd (by omega)
  have h18s := fun (p : Option Addr) (cap : Nat) W (h : Rdz W (.slice p b.ds.length cap) (b.ds.map (· * k))) (hs : barB (scB b k p cap) = true) => Path_ok (scB b k p cap) W ⟨hk.nm, by show (b.ds.map (· * k)).length ≤ _; rw [List.length_map]; exact hk.ln, by unfold Bar.sv scB; dsimp only; rw [List.length_map]; exact h⟩ hs
  have h18t := fun (p : Option Addr) (cap : Nat) W (h : Rdz W (.slice p b.ds.length cap) (b.ds.map (· * k))) (hs : barB (scB b k p cap) = false) => Path_no (scB b k p cap) W ⟨hk.nm, by show (b.ds.map (· * k)).length ≤ _; rw [List.length_map]; exact hk.ln, by unfold Bar.sv scB; dsimp only; rw [List.length_map]; exact h⟩ hs
  have hsp : ∀ p cap, pts (scB b k p cap) = (pts b).map (scP k) := fun p cap => by
    unfold pts
    rw [List.map_map, show (scB b k p cap).code = b.code from rfl]
    exact List.map_congr_left fun j _ => pt_sc b k p cap j
  have hone : ∀ p cap, barB (scB b k p cap) = false → 1 < k := fun p cap h => by
    have h0 : k ≠ 0 := by simpa using h2
    by_cases h1 : k = 1
    · subst h1; rw [barB_one p cap hv] at h; cases h
    · omega
  have hbp : ∀ j (h : j < (pts b).length), ((pts b)[j]).bd 524288 := fun j h => by
    have e : (pts b)[j] = pt b j := by simp [pts]
    rw [e]; exact pt_near hv (by rw [pts_len] at h; omega)
  have HLEN := Lib.hid (show 0 < b.ds.length ∧ b.ds.length ≤ 5 by omega)
  have HSP := Lib.hid hsp
  have HONE := Lib.hid hone
  have HBP := Lib.hid hbp
  have HBD := Lib.hid hbd
  have HPL := Lib.hid (pts_len b)
  have HPLL := Lib.hid (show (pts b).length ≤ 1000 by rw [pts_len]; have := nl_le (barB_and hv).1; omega)
  rw [h1] at h16
  have h4 : decide (60 < (s.size : Int)) = false := by simp; omega
  have h5 : ¬ (60 : Int) < s.size := by omega
  have V1 : IntKind.i64.wrap q = q := IntWalk.i64_in _ (by omega)
  have V2 : IntKind.i64.wrap (1 + q) = 1 + q := IntWalk.i64_in _ (by omega)
  have V3 : IntKind.i64.wrap u = u := IntWalk.i64_in _ (by omega)
  have V4 : IntKind.i64.wrap k = k := IntWalk.i64_in _ (by omega)
  have E := (Env.nil w).add w.heap.size 32 b.cs rfl
  have h18p : ∀ p cap, (scB b k p cap).val = .agg #[.string b.mark, .int .i64 b.size, .int .i64 b.count, .int .i64 b.code, .slice p b.ds.length cap] := fun p cap => by simp [scB, Bar.val, Bar.cs]
  clear hk h1 hk2 hv hA hsp hone hbp hbd hu hlen hn5 hn0
  try clear hsm
  simp only [h18p] at h18s h18t
  simp only [Bar.val, Bar.cs] at *
  have C := E.cells
  simp [BC, CF] at C
  go_enter Try.func8, Try.ntmps8
  go_upto_region 10 with (first
    | (go_at_call 10; (with_reducible refine (awake_any _).mono ?_); rintro X w1 ⟨rfl, hb⟩; replace E := E.on hb; replace C := E.cells; simp [BC, CF] at C; clear hb)
    | (go_at_call 16; (with_reducible refine (h16 _).mono ?_); rintro X w2 ⟨rfl, hb⟩; replace E := E.on hb; replace C := E.cells; simp [BC, CF] at C; clear hb)
    | (go_at_call 18; (with_reducible refine (h18 _ (envb E)).mono ?_); rintro X w3 ⟨v0, rfl, hO, hb⟩; replace E := E.on hb; replace C := E.cells; simp [BC, CF] at C; clear hb))
  obtain ⟨gp0, cap0, rfl, hP0⟩ := hO.fn (by rw [HPL.out]; omega)
  have HP0 := Lib.hid hP0
  have hRd := Own.rd pl hO
  have HRD := Lib.hid hRd
  have lt3 := E.lt 0 (by simp)
  simp only [numB] at lt3
  have B3 := al1 w3 (.cells #[.string s, .int .i64 b.size, .int .i64 (1 + q), .int .i64 b.code, .slice b.p b.ds.length b.cap] 32)
  replace E := E.add w3.heap.size 32 #[.string s, .int .i64 b.size, .int .i64 (1 + q), .int .i64 b.code, .slice b.p b.ds.length b.cap] rfl
  replace C := E.cells
  simp [BC, CF] at C
  have e3 := (envb E).size
  clear hO hRd hP0
  generalize hgc : w3.heap.size = gc at *
  have B3' : Below gc w3 (w3.alloc (.cells #[.string s, .int .i64 b.size, .int .i64 (1 + q), .int .i64 b.code, .slice b.p b.ds.length b.cap] 32)) := B3
  clear B3
  go_upto_region 18 with (first
    | (go_at_call 26; (with_reducible refine (h26 _ (envb E)).mono ?_); rintro X w4 ⟨rfl, hb⟩; replace E := E.on hb; replace B3' := B3'.trans (hb.mono (by rw [← hgc]; simp)); replace C := E.cells; simp [BC, CF] at C; clear hb)
    | (go_at_call 18; (with_reducible refine (h18c _ (envb E)).mono ?_); rintro X w5 ⟨v1, rfl, hO1, hb⟩; replace E := E.on hb; replace B3' := B3'.trans (hb.mono (Nat.le_trans (by rw [← hgc]; simp) B3'.size)); replace C := E.cells; simp [BC, CF] at C; clear hb)
    | (go_at_call 23; (with_reducible refine (h23 _ _ _ (Rd.on pl HRD.out (by rw [hgc]; exact B3')) (Own.rd pl hO1)).mono ?_); rintro X w6 ⟨rfl, hb⟩; replace E := E.on hb; replace B3' := B3'.trans (hb.mono (Nat.le_trans (by rw [← hgc]; simp) B3'.size)); replace C := E.cells; simp [BC, CF] at C; clear hb))
  have hK := hk1
  replace E := E.five (u0 := .string b.mark) (u1 := .int .i64 b.size) (u2 := .int .i64 b.count) (u3 := .int .i64 b.code) (u4 := .slice b.p b.ds.length b.cap) 0 rfl
  simp only [numB] at E
  replace B3' := ((((B3'.setCell (p := ⟨gc, 0, none⟩) (Nat.le_refl _) (.string b.mark)).setCell (p := ⟨gc, 1, none⟩) (Nat.le_refl _) (.int .i64 b.size)).setCell (p := ⟨gc, 2, none⟩) (Nat.le_refl _) (.int .i64 b.count)).setCell (p := ⟨gc, 3, none⟩) (Nat.le_refl _) (.int .i64 b.code)).setCell (p := ⟨gc, 4, none⟩) (Nat.le_refl _) (.slice b.p b.ds.length b.cap)
  generalize (((((w6.setCell ⟨gc, 0, none⟩ (.string b.mark)).setCell ⟨gc, 1, none⟩ (.int .i64 b.size)).setCell ⟨gc, 2, none⟩ (.int .i64 b.count)).setCell ⟨gc, 3, none⟩ (.int .i64 b.code)).setCell ⟨gc, 4, none⟩ (.slice b.p b.ds.length b.cap)) = w7 at *
  replace E : Env w w7 [⟨gc, 32, #[.string b.mark, .int .i64 b.size, .int .i64 b.count, .int .i64 b.code, .slice b.p b.ds.length b.cap]⟩, ⟨w.heap.size, 32, #[.string b.mark, .int .i64 b.size, .int .i64 b.count, .int .i64 b.code, .slice b.p b.ds.length b.cap]⟩] := E
  replace C := E.cells
  simp [BC, CF] at C
  go_upto_region 19 with (go_at_call 29; (with_reducible refine (h29 _ (envb E)).mono ?_); rintro X w8 ⟨v2, rfl, hI, hb⟩; replace E := E.on hb; replace B3' := B3'.trans (hb.mono (Nat.le_of_lt C.1.1)); have s7 := C.1.1; obtain ⟨g, cap, rfl, hg1, hg2⟩ := hI.fn rfl HLEN.out.1; replace C := E.cells; simp [BC, CF] at C; clear hb)
  replace E := E.put 0 4 (.slice (some ⟨g, 0, none⟩) b.ds.length cap) rfl
  simp only [numB] at E
  replace hI := hI.at (at_put w8 gc 4 (.slice (some ⟨g, 0, none⟩) b.ds.length cap)) (by omega)
  replace B3' := B3'.setCell (p := ⟨gc, 4, none⟩) (Nat.le_refl _) (.slice (some ⟨g, 0, none⟩) b.ds.length cap)
  have hgg : gc < g := by omega
  generalize (w8.setCell ⟨gc, 4, none⟩ (.slice (some ⟨g, 0, none⟩) b.ds.length cap)) = w9 at *
  replace E : Env w w9 [⟨gc, 32, #[.string b.mark, .int .i64 b.size, .int .i64 b.count, .int .i64 b.code, .slice (some ⟨g, 0, none⟩) b.ds.length cap]⟩, ⟨w.heap.size, 32, #[.string b.mark, .int .i64 b.size, .int .i64 b.count, .int .i64 b.code, .slice b.p b.ds.length b.cap]⟩] := E
  replace C := E.cells
  simp [BC, CF] at C
  go_wp2_with fail
  go_loopw [88] (fun v wr => ∃ i : Nat, v = .int .i64 i ∧ i ≤ b.ds.length ∧ Env w wr [⟨gc, 32, #[.string b.mark, .int .i64 b.size, .int .i64 b.count, .int .i64 b.code, .slice (some ⟨g, 0, none⟩) b.ds.length cap]⟩, ⟨w.heap.size, 32, #[.string b.mark, .int .i64 b.size, .int .i64 b.count, .int .i64 b.code, .slice b.p b.ds.length b.cap]⟩] ∧ OwnI w7.heap.size wr (.slice (some ⟨g, 0, none⟩) b.ds.length cap) (scZ k b.ds i) ∧ Below gc w3 wr) (fun v _ => b.ds.length - (intOf v).toNat)
  case atStart => exact ⟨0, rfl, Nat.zero_le _, E, (by simpa [scZ] using hI), B3'⟩
  case round =>
    clear E C hI B3'
    obtain ⟨i, rfl, hi, E, hI, B3'⟩ := hrel
    have C := E.cells
    simp [BC, CF] at C
    by_cases hlt : i < b.ds.length
    · have g1 : decide ((i : Int) < (b.ds.length : Int)) = true := by simp [hlt]
      have hl5 := HLEN.out.2
      have W1 : IntKind.i64.wrap ((i : Int) + 1) = ((i + 1 : Nat) : Int) := by rw [IntWalk.i64_in _ (by omega)]; omega
      have p1 : (0 : Int) ≤ (i : Int) := by omega
      have p2 : (i : Int) < (b.ds.length : Int) := by omega
      obtain ⟨c0, o0⟩ := hI.cell (i := i) (by rw [scZ_len]; exact hlt)
      rw [scZ_get hlt] at c0
      have hbd := HBD.out b.ds[i] (List.getElem_mem hlt)
      have m1 : 0 ≤ b.ds[i] * k := Int.mul_nonneg (by omega) hK.1
      have m2 : b.ds[i] * k ≤ 262144 * 255 := Int.mul_le_mul hbd.2 hK.2 hK.1 (by omega)
      have W2 : IntKind.i64.wrap (b.ds[i] * k) = b.ds[i] * k := IntWalk.i64_in _ (by omega)
      have hI2 := hI.put rfl hlt
      have E2 : Env w (wr.setCell ⟨g, i, none⟩ (.int .i64 (b.ds[i] * k))) [⟨gc, 32, #[.string b.mark, .int .i64 b.size, .int .i64 b.count, .int .i64 b.code, .slice (some ⟨g, 0, none⟩) b.ds.length cap]⟩, ⟨w.heap.size, 32, #[.string b.mark, .int .i64 b.size, .int .i64 b.count, .int .i64 b.code, .slice b.p b.ds.length b.cap]⟩] := ⟨E.1.setCell (by dsimp only; omega) _, E.2.far _ (by simp; omega)⟩
      have B2 := B3'.setCell (p := ⟨g, i, none⟩) (by dsimp only; omega) (.int .i64 (b.ds[i] * k))
      have HI2 := Lib.hid hI2
      have HE2 := Lib.hid E2
      clear hI2 hI hl5 E2 E m1 m2 hbd
      go_wp2
      exact ⟨⟨i + 1, rfl, hlt, HE2.out, HI2.out, B2⟩, by simp [intOf]; omega⟩
    · have g1 : decide ((i : Int) < (b.ds.length : Int)) = false := by simp; omega
      have hfull : scZ k b.ds i = b.ds.map (· * k) := by
        unfold scZ
        rw [List.take_of_length_le (by omega), List.drop_eq_nil_of_le (by omega), List.append_nil]
      rw [hfull] at hI
      have hR2 := hI.rdz
      rw [show Value.slice (some ⟨g, 0, none⟩) b.ds.length cap = .slice (some ⟨g, 0, none⟩) b.ds.length cap from rfl] at hR2
      clear hfull
      cases hB : barB (scB b k (some ⟨g, 0, none⟩) cap)
      · have h1k := HONE.out _ _ hB
        have t1 : decide (1 < k) = true := decide_eq_true h1k
        have t2 : decide (k > 1) = true := t1
        have h18f := h18t (some ⟨g, 0, none⟩) cap wr hR2 hB
        clear hB h1k
        go_wp2_with (go_at_call 18; (with_reducible refine h18f.mono ?_); rintro X wa ⟨rfl, hb⟩; replace E := E.on hb; replace C := E.cells; simp [BC, CF] at C; clear hb)
        go_ret
        exact ⟨rfl, envb E⟩
      · have h18f := h18s (some ⟨g, 0, none⟩) cap wr hR2 hB
        rw [HSP.out] at h18f
        have HB2 := Lib.hid hB
        clear hB
        go_wp2_with (go_at_call 18; (with_reducible refine h18f.mono ?_); rintro X wa ⟨v3, rfl, hO3, hb⟩; replace E := E.on hb; replace B3' := B3'.trans (hb.mono (Nat.le_of_lt C.1.1)); replace C := E.cells; simp [BC, CF] at C; clear hb; obtain ⟨gq, cap3, rfl, hQ⟩ := hO3.fn (by rw [List.length_map, HPL.out]; omega); rw [List.length_map])
        have HQ := Lib.hid hQ
        have Bw := Below.refl wa.heap.size wa
        have EB := envb E
        clear hO3 hQ hI hR2 E C
        go_wp2_with fail
        go_loopw [121] (fun v wr' => ∃ i : Nat, v = .int .i64 i ∧ i ≤ (pts b).length ∧ Below wa.heap.size wa wr') (fun v _ => (pts b).length - (intOf v).toNat)
        case atStart => exact ⟨0, rfl, Nat.zero_le _, Bw⟩
        case round =>
          clear Bw
          obtain ⟨i, rfl, hi, Bw⟩ := hrel
          by_cases hlt2 : i < (pts b).length
          · have g2 : decide ((i : Int) < ((pts b).length : Int)) = true := by simp [hlt2]
            have hl7 : (pts b).length ≤ 1000 := HPLL.out
            have W1 : IntKind.i64.wrap ((i : Int) + 1) = ((i + 1 : Nat) : Int) := by rw [IntWalk.i64_in _ (by omega)]; omega
            have p1 : (0 : Int) ≤ (i : Int) := by omega
            have p2 : (i : Int) < ((pts b).length : Int) := by omega
            obtain ⟨a0, a1, a2⟩ := HP0.out i hlt2
            obtain ⟨b0, b1, b2⟩ := HQ.out i (by rw [List.length_map]; exact hlt2)
            have hb9 := HBP.out i hlt2
            simp only [List.getElem_map] at b0 b1 b2
            obtain ⟨⟨x0, y0, z0⟩, hP2⟩ : ∃ p : Pt, Hid ((pts b)[i]'hlt2 = p) := ⟨_, Lib.hid rfl⟩
            rw [hP2.out] at a0 a1 a2 b0 b1 b2 hb9
            unfold scP at b0 b1 b2
            obtain ⟨hx, hy, hz⟩ := hb9
            dsimp only at a0 a1 a2 b0 b1 b2 hx hy hz
            have kx := kb hK hx
            have ky := kb hK hy
            have kz := kb hK hz
            have Wx : IntKind.i64.wrap (k * x0) = k * x0 := IntWalk.i64_in _ (by omega)
            have Wy : IntKind.i64.wrap (k * y0) = k * y0 := IntWalk.i64_in _ (by omega)
            have Wz : IntKind.i64.wrap (k * z0) = k * z0 := IntWalk.i64_in _ (by omega)
            have hne := fun W => ne40_same (k * x0) (k * y0) (k * z0) W
            replace a0 := cell_later (belows (show Below w3.heap.size w3 wa by rw [hgc]; exact B3') Bw) a0
            replace a1 := cell_later (belows (show Below w3.heap.size w3 wa by rw [hgc]; exact B3') Bw) a1
            replace a2 := cell_later (belows (show Below w3.heap.size w3 wa by rw [hgc]; exact B3') Bw) a2
            replace b0 := cell_later (belows Bw (al1 _ (.cells #[.int .i64 x0, .int .i64 y0, .int .i64 z0] 40))) b0
            replace b1 := cell_later (belows Bw (al1 _ (.cells #[.int .i64 x0, .int .i64 y0, .int .i64 z0] 40))) b1
            replace b2 := cell_later (belows Bw (al1 _ (.cells #[.int .i64 x0, .int .i64 y0, .int .i64 z0] 40))) b2
            have H9 := Has.new_ wr 40 #[.int .i64 x0, .int .i64 y0, .int .i64 z0]
            have q0 : (wr.alloc (.cells #[.int .i64 x0, .int .i64 y0, .int .i64 z0] 40)).cell? ⟨wr.heap.size, 0, none⟩ = some (.int .i64 x0) := (H9.read 0).trans rfl
            have q1 : (wr.alloc (.cells #[.int .i64 x0, .int .i64 y0, .int .i64 z0] 40)).cell? ⟨wr.heap.size, 1, none⟩ = some (.int .i64 y0) := (H9.read 1).trans rfl
            have q2 : (wr.alloc (.cells #[.int .i64 x0, .int .i64 y0, .int .i64 z0] 40)).cell? ⟨wr.heap.size, 2, none⟩ = some (.int .i64 z0) := (H9.read 2).trans rfl
            have B9 := belows Bw (al1 wr (.cells #[.int .i64 x0, .int .i64 y0, .int .i64 z0] 40))
            go_upto_region 32 with fail
            refine wp_region_plan 20 [(0, true), (1, true), (2, true), (3, true), (4, true), (5, true), (6, true), (7, true), (8, true), (9, true), (10, true), (11, true), (12, true), (13, true), (14, true), (15, true), (16, true), (17, true), (18, true), (19, true)] (fun W' => W'.cell? ⟨gq, i * 3, none⟩ = some (.int .i64 (k * x0)) ∧ W'.cell? ⟨gq, i * 3 + 1, none⟩ = some (.int .i64 (k * y0)) ∧ W'.cell? ⟨gq, i * 3 + 2, none⟩ = some (.int .i64 (k * z0)) ∧ W'.cell? ⟨wr.heap.size, 0, none⟩ = some (.int .i64 x0) ∧ W'.cell? ⟨wr.heap.size, 1, none⟩ = some (.int .i64 y0) ∧ W'.cell? ⟨wr.heap.size, 2, none⟩ = some (.int .i64 z0)) (by kernel_rfl) (by kernel_rfl) (fun _ _ d _ _ h => by cases d <;> exact h) ⟨b0, b1, b2, q0, q1, q2⟩ ?_
            simp only [List.filterMap_cons, List.filterMap_nil, List.getElem?_cons_zero, List.getElem?_cons_succ, Option.map_some, List.drop_succ_cons, List.drop_zero]
            iterate 20 (first | (refine wpPlan_still (v := ?_) (Or.inl ⟨by rfl, ?_⟩) ?_; rotate_left; (focus (intro W hW; (try dsimp only at hW); go_split_ands; go_simp; try with_reducible rfl)); try simp only [Act.put, List.setIfInBounds_toArray, List.set_cons_zero, List.set_cons_succ]) | (refine wpPlan_still (Or.inr ⟨by rfl, rfl⟩) ?_; try simp only [Act.put, List.setIfInBounds_toArray, List.set_cons_zero, List.set_cons_succ]))
            refine wpPlan_end ?_
            clear a0 a1 a2 b0 b1 b2 q0 q1 q2 H9
            go_wp2_with fail
            exact ⟨⟨i + 1, rfl, hlt2, by first | exact B9 | exact below_dr B9⟩, by simp [intOf]; omega⟩
          · have g2 : decide ((i : Int) < ((pts b).length : Int)) = false := by simp; omega
            go_wp2
            go_ret
            exact ⟨rfl, belows EB Bw⟩
set_option maxHeartbeats 32000000 in
set_option maxRecDepth 100000 in
theorem scales_false (b : Bar) (k : Int) (s : ByteArray) (u q : Int) (w : World) (hk : b.Ok w) (h1 : (decide (b.ds.length ≤ 8) && decide (b.mark.size ≤ 60)) = true) (h2 : (k == 0) = false) (h3 : s.size ≤ 60) (hv : barB b = true) (hk1 : 0 ≤ k ∧ k ≤ 255) (hq : u.tmod 1000 = q) (hq2 : 0 ≤ q ∧ q < 1000) (hu : 0 ≤ u ∧ u ≤ 65535)
    (hA : barB ⟨s, b.size, 1 + q, b.code, b.p, b.ds, b.cap⟩ = false) : Calls Try.prog 8 #[b.val, .int .u8 k, .string s, .int .u16 u] w fun e w' => e = .returned (.bool true) ∧ Below w.heap.size w w' := by
  have h16 := fun W => Short_any b W
  have h18 := fun W (h : Below w.heap.size w W) => Path_ok b W (hk.on h) hv
  have hk2 : ∀ W, Below w.heap.size w W → Bar.Ok ⟨s, b.size, 1 + q, b.code, b.p, b.ds, b.cap⟩ W := fun W h => ⟨by unfold maxLen; dsimp only; omega, hk.ln, hk.rd.on h⟩
  have h26 := fun W (h : Below w.heap.size w W) => Same_no b ⟨s, b.size, 1 + q, b.code, b.p, b.ds, b.cap⟩ W (hk.on h) (hk2 W h) (.inr hA)
  have hlen := (barB_and hv).2.1
  have hn5 := ndim_le b.code
  have hn0 := ndim_pos (barB_and hv).1
  have hbd := fitB_mem _ _ (barB_and hv).2.2.1 (by omega)
  have h29 := fun W (h : Below w.heap.size w W) => zclone_any b.p b.ds b.cap W (hk.on h).rd (by omega)
  have h18s := fun (p : Option Addr) (cap : Nat) W (h : Rdz W (.slice p b.ds.length cap) (b.ds.map (· * k))) (hs : barB (scB b k p cap) = true) => Path_ok (scB b k p cap) W ⟨hk.nm, by show (b.ds.map (· * k)).length ≤ _; rw [List.length_map]; exact hk.ln, by unfold Bar.sv scB; dsimp only; rw [List.length_map]; exact h⟩ hs
  have h18t := fun (p : Option Addr) (cap : Nat) W (h : Rdz W (.slice p b.ds.length cap) (b.ds.map (· * k))) (hs : barB (scB b k p cap) = false) => Path_no (scB b k p cap) W ⟨hk.nm, by show (b.ds.map (· * k)).length ≤ _; rw [List.length_map]; exact hk.ln, by unfold Bar.sv scB; dsimp only; rw [List.length_map]; exact h⟩ hs
  have hsp : ∀ p cap, pts (scB b k p cap) = (pts b).map (scP k) := fun p cap => by
    unfold pts
    rw [List.map_map, show (scB b k p cap).code = b.code from rfl]
    exact List.map_congr_left fun j _ => pt_sc b k p cap j
  have hone : ∀ p cap, barB (scB b k p cap) = false → 1 < k := fun p cap h => by
    have h0 : k ≠ 0 := by simpa using h2
    by_cases h1 : k = 1
    · subst h1; rw [barB_one p cap hv] at h; cases h
    · omega
  have hbp : ∀ j (h : j < (pts b).length), ((pts b)[j]).bd 524288 := fun j h => by
    have e : (pts b)[j] = pt b j := by simp [pts]
    rw [e]; exact pt_near hv (by rw [pts_len] at h; omega)
  have HLEN := Lib.hid (show 0 < b.ds.length ∧ b.ds.length ≤ 5 by omega)
  have HSP := Lib.hid hsp
  have HONE := Lib.hid hone
  have HBP := Lib.hid hbp
  have HBD := Lib.hid hbd
  have HPL := Lib.hid (pts_len b)
  have HPLL := Lib.hid (show (pts b).length ≤ 1000 by rw [pts_len]; have := nl_le (barB_and hv).1; omega)
  rw [h1] at h16
  have h4 : decide (60 < (s.size : Int)) = false := by simp; omega
  have h5 : ¬ (60 : Int) < s.size := by omega
  have V1 : IntKind.i64.wrap q = q := IntWalk.i64_in _ (by omega)
  have V2 : IntKind.i64.wrap (1 + q) = 1 + q := IntWalk.i64_in _ (by omega)
  have V3 : IntKind.i64.wrap u = u := IntWalk.i64_in _ (by omega)
  have V4 : IntKind.i64.wrap k = k := IntWalk.i64_in _ (by omega)
  have E := (Env.nil w).add w.heap.size 32 b.cs rfl
  have h18p : ∀ p cap, (scB b k p cap).val = .agg #[.string b.mark, .int .i64 b.size, .int .i64 b.count, .int .i64 b.code, .slice p b.ds.length cap] := fun p cap => by simp [scB, Bar.val, Bar.cs]
  clear hk h1 hk2 hv hA hsp hone hbp hbd hu hlen hn5 hn0
  try clear hsm
  simp only [h18p] at h18s h18t
  simp only [Bar.val, Bar.cs] at *
  have C := E.cells
  simp [BC, CF] at C
  go_enter Try.func8, Try.ntmps8
  go_upto_region 10 with (first
    | (go_at_call 10; (with_reducible refine (awake_any _).mono ?_); rintro X w1 ⟨rfl, hb⟩; replace E := E.on hb; replace C := E.cells; simp [BC, CF] at C; clear hb)
    | (go_at_call 16; (with_reducible refine (h16 _).mono ?_); rintro X w2 ⟨rfl, hb⟩; replace E := E.on hb; replace C := E.cells; simp [BC, CF] at C; clear hb)
    | (go_at_call 18; (with_reducible refine (h18 _ (envb E)).mono ?_); rintro X w3 ⟨v0, rfl, hO, hb⟩; replace E := E.on hb; replace C := E.cells; simp [BC, CF] at C; clear hb))
  obtain ⟨gp0, cap0, rfl, hP0⟩ := hO.fn (by rw [HPL.out]; omega)
  have HP0 := Lib.hid hP0
  have hRd := Own.rd pl hO
  have HRD := Lib.hid hRd
  have lt3 := E.lt 0 (by simp)
  simp only [numB] at lt3
  have B3 := al1 w3 (.cells #[.string s, .int .i64 b.size, .int .i64 (1 + q), .int .i64 b.code, .slice b.p b.ds.length b.cap] 32)
  replace E := E.add w3.heap.size 32 #[.string s, .int .i64 b.size, .int .i64 (1 + q), .int .i64 b.code, .slice b.p b.ds.length b.cap] rfl
  replace C := E.cells
  simp [BC, CF] at C
  have e3 := (envb E).size
  clear hO hRd hP0
  generalize hgc : w3.heap.size = gc at *
  have B3' : Below gc w3 (w3.alloc (.cells #[.string s, .int .i64 b.size, .int .i64 (1 + q), .int .i64 b.code, .slice b.p b.ds.length b.cap] 32)) := B3
  clear B3
  go_upto_region 18 with (first
    | (go_at_call 26; (with_reducible refine (h26 _ (envb E)).mono ?_); rintro X w4 ⟨rfl, hb⟩; replace E := E.on hb; replace B3' := B3'.trans (hb.mono (by rw [← hgc]; simp)); replace C := E.cells; simp [BC, CF] at C; clear hb))
  have hK := hk1
  replace E := E.five (u0 := .string b.mark) (u1 := .int .i64 b.size) (u2 := .int .i64 b.count) (u3 := .int .i64 b.code) (u4 := .slice b.p b.ds.length b.cap) 0 rfl
  simp only [numB] at E
  replace B3' := ((((B3'.setCell (p := ⟨gc, 0, none⟩) (Nat.le_refl _) (.string b.mark)).setCell (p := ⟨gc, 1, none⟩) (Nat.le_refl _) (.int .i64 b.size)).setCell (p := ⟨gc, 2, none⟩) (Nat.le_refl _) (.int .i64 b.count)).setCell (p := ⟨gc, 3, none⟩) (Nat.le_refl _) (.int .i64 b.code)).setCell (p := ⟨gc, 4, none⟩) (Nat.le_refl _) (.slice b.p b.ds.length b.cap)
  generalize (((((w4.setCell ⟨gc, 0, none⟩ (.string b.mark)).setCell ⟨gc, 1, none⟩ (.int .i64 b.size)).setCell ⟨gc, 2, none⟩ (.int .i64 b.count)).setCell ⟨gc, 3, none⟩ (.int .i64 b.code)).setCell ⟨gc, 4, none⟩ (.slice b.p b.ds.length b.cap)) = w7 at *
  replace E : Env w w7 [⟨gc, 32, #[.string b.mark, .int .i64 b.size, .int .i64 b.count, .int .i64 b.code, .slice b.p b.ds.length b.cap]⟩, ⟨w.heap.size, 32, #[.string b.mark, .int .i64 b.size, .int .i64 b.count, .int .i64 b.code, .slice b.p b.ds.length b.cap]⟩] := E
  replace C := E.cells
  simp [BC, CF] at C
  go_upto_region 19 with (go_at_call 29; (with_reducible refine (h29 _ (envb E)).mono ?_); rintro X w8 ⟨v2, rfl, hI, hb⟩; replace E := E.on hb; replace B3' := B3'.trans (hb.mono (Nat.le_of_lt C.1.1)); have s7 := C.1.1; obtain ⟨g, cap, rfl, hg1, hg2⟩ := hI.fn rfl HLEN.out.1; replace C := E.cells; simp [BC, CF] at C; clear hb)
  replace E := E.put 0 4 (.slice (some ⟨g, 0, none⟩) b.ds.length cap) rfl
  simp only [numB] at E
  replace hI := hI.at (at_put w8 gc 4 (.slice (some ⟨g, 0, none⟩) b.ds.length cap)) (by omega)
  replace B3' := B3'.setCell (p := ⟨gc, 4, none⟩) (Nat.le_refl _) (.slice (some ⟨g, 0, none⟩) b.ds.length cap)
  have hgg : gc < g := by omega
  generalize (w8.setCell ⟨gc, 4, none⟩ (.slice (some ⟨g, 0, none⟩) b.ds.length cap)) = w9 at *
  replace E : Env w w9 [⟨gc, 32, #[.string b.mark, .int .i64 b.size, .int .i64 b.count, .int .i64 b.code, .slice (some ⟨g, 0, none⟩) b.ds.length cap]⟩, ⟨w.heap.size, 32, #[.string b.mark, .int .i64 b.size, .int .i64 b.count, .int .i64 b.code, .slice b.p b.ds.length b.cap]⟩] := E
  replace C := E.cells
  simp [BC, CF] at C
  go_wp2_with fail
  go_loopw [88] (fun v wr => ∃ i : Nat, v = .int .i64 i ∧ i ≤ b.ds.length ∧ Env w wr [⟨gc, 32, #[.string b.mark, .int .i64 b.size, .int .i64 b.count, .int .i64 b.code, .slice (some ⟨g, 0, none⟩) b.ds.length cap]⟩, ⟨w.heap.size, 32, #[.string b.mark, .int .i64 b.size, .int .i64 b.count, .int .i64 b.code, .slice b.p b.ds.length b.cap]⟩] ∧ OwnI w7.heap.size wr (.slice (some ⟨g, 0, none⟩) b.ds.length cap) (scZ k b.ds i) ∧ Below gc w3 wr) (fun v _ => b.ds.length - (intOf v).toNat)
  case atStart => exact ⟨0, rfl, Nat.zero_le _, E, (by simpa [scZ] using hI), B3'⟩
  case round =>
    clear E C hI B3'
    obtain ⟨i, rfl, hi, E, hI, B3'⟩ := hrel
    have C := E.cells
    simp [BC, CF] at C
    by_cases hlt : i < b.ds.length
    · have g1 : decide ((i : Int) < (b.ds.length : Int)) = true := by simp [hlt]
      have hl5 := HLEN.out.2
      have W1 : IntKind.i64.wrap ((i : Int) + 1) = ((i + 1 : Nat) : Int) := by rw [IntWalk.i64_in _ (by omega)]; omega
      have p1 : (0 : Int) ≤ (i : Int) := by omega
      have p2 : (i : Int) < (b.ds.length : Int) := by omega
      obtain ⟨c0, o0⟩ := hI.cell (i := i) (by rw [scZ_len]; exact hlt)
      rw [scZ_get hlt] at c0
      have hbd := HBD.out b.ds[i] (List.getElem_mem hlt)
      have m1 : 0 ≤ b.ds[i] * k := Int.mul_nonneg (by omega) hK.1
      have m2 : b.ds[i] * k ≤ 262144 * 255 := Int.mul_le_mul hbd.2 hK.2 hK.1 (by omega)
      have W2 : IntKind.i64.wrap (b.ds[i] * k) = b.ds[i] * k := IntWalk.i64_in _ (by omega)
      have hI2 := hI.put rfl hlt
      have E2 : Env w (wr.setCell ⟨g, i, none⟩ (.int .i64 (b.ds[i] * k))) [⟨gc, 32, #[.string b.mark, .int .i64 b.size, .int .i64 b.count, .int .i64 b.code, .slice (some ⟨g, 0, none⟩) b.ds.length cap]⟩, ⟨w.heap.size, 32, #[.string b.mark, .int .i64 b.size, .int .i64 b.count, .int .i64 b.code, .slice b.p b.ds.length b.cap]⟩] := ⟨E.1.setCell (by dsimp only; omega) _, E.2.far _ (by simp; omega)⟩
      have B2 := B3'.setCell (p := ⟨g, i, none⟩) (by dsimp only; omega) (.int .i64 (b.ds[i] * k))
      have HI2 := Lib.hid hI2
      have HE2 := Lib.hid E2
      clear hI2 hI hl5 E2 E m1 m2 hbd
      go_wp2
      exact ⟨⟨i + 1, rfl, hlt, HE2.out, HI2.out, B2⟩, by simp [intOf]; omega⟩
    · have g1 : decide ((i : Int) < (b.ds.length : Int)) = false := by simp; omega
      have hfull : scZ k b.ds i = b.ds.map (· * k) := by
        unfold scZ
        rw [List.take_of_length_le (by omega), List.drop_eq_nil_of_le (by omega), List.append_nil]
      rw [hfull] at hI
      have hR2 := hI.rdz
      rw [show Value.slice (some ⟨g, 0, none⟩) b.ds.length cap = .slice (some ⟨g, 0, none⟩) b.ds.length cap from rfl] at hR2
      clear hfull
      cases hB : barB (scB b k (some ⟨g, 0, none⟩) cap)
      · have h1k := HONE.out _ _ hB
        have t1 : decide (1 < k) = true := decide_eq_true h1k
        have t2 : decide (k > 1) = true := t1
        have h18f := h18t (some ⟨g, 0, none⟩) cap wr hR2 hB
        clear hB h1k
        go_wp2_with (go_at_call 18; (with_reducible refine h18f.mono ?_); rintro X wa ⟨rfl, hb⟩; replace E := E.on hb; replace C := E.cells; simp [BC, CF] at C; clear hb)
        go_ret
        exact ⟨rfl, envb E⟩
      · have h18f := h18s (some ⟨g, 0, none⟩) cap wr hR2 hB
        rw [HSP.out] at h18f
        have HB2 := Lib.hid hB
        clear hB
        go_wp2_with (go_at_call 18; (with_reducible refine h18f.mono ?_); rintro X wa ⟨v3, rfl, hO3, hb⟩; replace E := E.on hb; replace B3' := B3'.trans (hb.mono (Nat.le_of_lt C.1.1)); replace C := E.cells; simp [BC, CF] at C; clear hb; obtain ⟨gq, cap3, rfl, hQ⟩ := hO3.fn (by rw [List.length_map, HPL.out]; omega); rw [List.length_map])
        have HQ := Lib.hid hQ
        have Bw := Below.refl wa.heap.size wa
        have EB := envb E
        clear hO3 hQ hI hR2 E C
        go_wp2_with fail
        go_loopw [121] (fun v wr' => ∃ i : Nat, v = .int .i64 i ∧ i ≤ (pts b).length ∧ Below wa.heap.size wa wr') (fun v _ => (pts b).length - (intOf v).toNat)
        case atStart => exact ⟨0, rfl, Nat.zero_le _, Bw⟩
        case round =>
          clear Bw
          obtain ⟨i, rfl, hi, Bw⟩ := hrel
          by_cases hlt2 : i < (pts b).length
          · have g2 : decide ((i : Int) < ((pts b).length : Int)) = true := by simp [hlt2]
            have hl7 : (pts b).length ≤ 1000 := HPLL.out
            have W1 : IntKind.i64.wrap ((i : Int) + 1) = ((i + 1 : Nat) : Int) := by rw [IntWalk.i64_in _ (by omega)]; omega
            have p1 : (0 : Int) ≤ (i : Int) := by omega
            have p2 : (i : Int) < ((pts b).length : Int) := by omega
            obtain ⟨a0, a1, a2⟩ := HP0.out i hlt2
            obtain ⟨b0, b1, b2⟩ := HQ.out i (by rw [List.length_map]; exact hlt2)
            have hb9 := HBP.out i hlt2
            simp only [List.getElem_map] at b0 b1 b2
            obtain ⟨⟨x0, y0, z0⟩, hP2⟩ : ∃ p : Pt, Hid ((pts b)[i]'hlt2 = p) := ⟨_, Lib.hid rfl⟩
            rw [hP2.out] at a0 a1 a2 b0 b1 b2 hb9
            unfold scP at b0 b1 b2
            obtain ⟨hx, hy, hz⟩ := hb9
            dsimp only at a0 a1 a2 b0 b1 b2 hx hy hz
            have kx := kb hK hx
            have ky := kb hK hy
            have kz := kb hK hz
            have Wx : IntKind.i64.wrap (k * x0) = k * x0 := IntWalk.i64_in _ (by omega)
            have Wy : IntKind.i64.wrap (k * y0) = k * y0 := IntWalk.i64_in _ (by omega)
            have Wz : IntKind.i64.wrap (k * z0) = k * z0 := IntWalk.i64_in _ (by omega)
            have hne := fun W => ne40_same (k * x0) (k * y0) (k * z0) W
            replace a0 := cell_later (belows (show Below w3.heap.size w3 wa by rw [hgc]; exact B3') Bw) a0
            replace a1 := cell_later (belows (show Below w3.heap.size w3 wa by rw [hgc]; exact B3') Bw) a1
            replace a2 := cell_later (belows (show Below w3.heap.size w3 wa by rw [hgc]; exact B3') Bw) a2
            replace b0 := cell_later (belows Bw (al1 _ (.cells #[.int .i64 x0, .int .i64 y0, .int .i64 z0] 40))) b0
            replace b1 := cell_later (belows Bw (al1 _ (.cells #[.int .i64 x0, .int .i64 y0, .int .i64 z0] 40))) b1
            replace b2 := cell_later (belows Bw (al1 _ (.cells #[.int .i64 x0, .int .i64 y0, .int .i64 z0] 40))) b2
            have H9 := Has.new_ wr 40 #[.int .i64 x0, .int .i64 y0, .int .i64 z0]
            have q0 : (wr.alloc (.cells #[.int .i64 x0, .int .i64 y0, .int .i64 z0] 40)).cell? ⟨wr.heap.size, 0, none⟩ = some (.int .i64 x0) := (H9.read 0).trans rfl
            have q1 : (wr.alloc (.cells #[.int .i64 x0, .int .i64 y0, .int .i64 z0] 40)).cell? ⟨wr.heap.size, 1, none⟩ = some (.int .i64 y0) := (H9.read 1).trans rfl
            have q2 : (wr.alloc (.cells #[.int .i64 x0, .int .i64 y0, .int .i64 z0] 40)).cell? ⟨wr.heap.size, 2, none⟩ = some (.int .i64 z0) := (H9.read 2).trans rfl
            have B9 := belows Bw (al1 wr (.cells #[.int .i64 x0, .int .i64 y0, .int .i64 z0] 40))
            go_upto_region 32 with fail
            refine wp_region_plan 20 [(0, true), (1, true), (2, true), (3, true), (4, true), (5, true), (6, true), (7, true), (8, true), (9, true), (10, true), (11, true), (12, true), (13, true), (14, true), (15, true), (16, true), (17, true), (18, true), (19, true)] (fun W' => W'.cell? ⟨gq, i * 3, none⟩ = some (.int .i64 (k * x0)) ∧ W'.cell? ⟨gq, i * 3 + 1, none⟩ = some (.int .i64 (k * y0)) ∧ W'.cell? ⟨gq, i * 3 + 2, none⟩ = some (.int .i64 (k * z0)) ∧ W'.cell? ⟨wr.heap.size, 0, none⟩ = some (.int .i64 x0) ∧ W'.cell? ⟨wr.heap.size, 1, none⟩ = some (.int .i64 y0) ∧ W'.cell? ⟨wr.heap.size, 2, none⟩ = some (.int .i64 z0)) (by kernel_rfl) (by kernel_rfl) (fun _ _ d _ _ h => by cases d <;> exact h) ⟨b0, b1, b2, q0, q1, q2⟩ ?_
            simp only [List.filterMap_cons, List.filterMap_nil, List.getElem?_cons_zero, List.getElem?_cons_succ, Option.map_some, List.drop_succ_cons, List.drop_zero]
            iterate 20 (first | (refine wpPlan_still (v := ?_) (Or.inl ⟨by rfl, ?_⟩) ?_; rotate_left; (focus (intro W hW; (try dsimp only at hW); go_split_ands; go_simp; try with_reducible rfl)); try simp only [Act.put, List.setIfInBounds_toArray, List.set_cons_zero, List.set_cons_succ]) | (refine wpPlan_still (Or.inr ⟨by rfl, rfl⟩) ?_; try simp only [Act.put, List.setIfInBounds_toArray, List.set_cons_zero, List.set_cons_succ]))
            refine wpPlan_end ?_
            clear a0 a1 a2 b0 b1 b2 q0 q1 q2 H9
            go_wp2_with fail
            exact ⟨⟨i + 1, rfl, hlt2, by first | exact B9 | exact below_dr B9⟩, by simp [intOf]; omega⟩
          · have g2 : decide ((i : Int) < ((pts b).length : Int)) = false := by simp; omega
            go_wp2
            go_ret
            exact ⟨rfl, belows EB Bw⟩
theorem scales_walk (b : Bar) (k : Int) (s : ByteArray) (u : Int) (w : World) (hk : b.Ok w) (hk1 : 0 ≤ k ∧ k ≤ 255) (hs : s.size ≤ maxLen) (hu : 0 ≤ u ∧ u ≤ 65535) : Calls Try.prog 8 #[b.val, .int .u8 k, .string s, .int .u16 u] w fun e w' => e = .returned (.bool true) ∧ Below w.heap.size w w' := by
  cases h1 : (decide (b.ds.length ≤ 8) && decide (b.mark.size ≤ 60))
  · exact scales_s b k s u w hk h1
  by_cases h2 : k = 0
  · exact scales_z b k s u w hk h1 h2
  have h2' : (k == 0) = false := beq_eq_false_iff_ne.2 h2
  by_cases h3 : 60 < s.size
  · exact scales_l b k s u w hk h1 h2' h3
  cases hv : barB b
  · exact scales_n b k s u w hk h1 h2' (by omega) hv
  have hq2 : 0 ≤ u.tmod 1000 ∧ u.tmod 1000 < 1000 := ⟨Int.tmod_nonneg _ hu.1, Int.tmod_lt_of_pos _ (by omega)⟩
  cases hA : barB ⟨s, b.size, 1 + u.tmod 1000, b.code, b.p, b.ds, b.cap⟩
  · exact scales_false b k s u _ w hk h1 h2' (by omega) hv hk1 rfl hq2 hu hA
  · exact scales_true b k s u _ w hk h1 h2' (by omega) hv hk1 rfl hq2 hu hA
end Go.Proofs.Ytcadghenjcaaiaa
