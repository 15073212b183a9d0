/- BendCuts. -/
import Derived.Test.YthphgppgdlimeaaLh
import Derived.Deep.CutBlock
namespace Go.Proofs.Ythphgppgdlimeaa
open Go.ChangeShapes Go.WideShapes Go.ChangeAt Go.RowKit
set_option linter.unusedVariables false
set_option linter.unusedSimpArgs false

def dbl (b : Bar) : Bar := ⟨b.mark, b.size, b.count * 2, b.code, b.p, b.ds, b.cap⟩
theorem dbl_ok {b : Bar} {w : World} (h : b.Ok w) : (dbl b).Ok w := ⟨h.nm, h.ln, h.rd⟩
theorem dbl_val {b : Bar} (h : barB b = true) : barB (dbl b) = decide (b.count * 2 ≤ 1000) := by
  obtain ⟨h1, h2, h3, h4, h5, h6, h7⟩ := barB_and h
  have e1 : isC (dbl b).code = true := h1
  have e2 : (dbl b).ds.length = ndim (dbl b).code := h2
  have e3 : fitB 262144 (dbl b).ds = true := h3
  have e4 : nmB (dbl b) = true := h4
  have e5 : isz (dbl b).size = true := h5
  have e6 : decide (1 ≤ (dbl b).count) = true := by
    have : (dbl b).count = b.count * 2 := rfl
    rw [this]; simp; omega
  unfold barB
  rw [e1, e2, e3, e4, e5, e6]
  simp
  rfl
theorem dbl_mass (b : Bar) : massB (dbl b) = 2 * massB b := by
  have e1 : cutB (dbl b) = cutB b := rfl
  have e2 : massB (dbl b) = b.count * 2 * ms b.size (cutB b) := rfl
  rw [e2]
  unfold massB
  rw [Int.mul_comm b.count 2, Int.mul_assoc]
theorem cut_f {b : Bar} (h : barB b = true) : Int.tmod (cutB b) 5 = 0 ∧ devH b ≤ 1000 * cutB b ∧ (5 < cutB b → 1000 * (cutB b - 5) < devH b) := by
  have := dev_bd h
  rw [cut_e]
  refine ⟨?_, by omega, by omega⟩
  rw [Int.tmod_eq_emod_of_nonneg (by omega)]
  omega
set_option maxHeartbeats 8000000 in
set_option maxRecDepth 100000 in
theorem cuts_not (b : Bar) (w : World) (hk : b.Ok w) (hr : rightB b = false) : Calls Try.prog 7 #[b.val] w fun e w' => e = .returned (.bool true) ∧ Below w.heap.size w w' := by
  have h10 := fun W => awake_any W
  have h29 := fun W (h : Below w.heap.size w W) => right_any b W (hk.on h)
  have E := (Env.nil w).add w.heap.size 32 b.cs rfl
  have hcs : b.cs = #[.string b.mark, .int .i64 b.size, .int .i64 b.count, .int .i64 b.code, .slice b.p b.ds.length b.cap] := rfl
  have hvv : b.val = .agg b.cs := rfl
  rw [hcs] at E hvv
  rw [hr] at h29
  rw [hvv] at h29 ⊢
  clear hr hk hcs hvv
  have C := E.cells
  simp [BC, CF] at C
  go_enter Try.func7, Try.ntmps7
  go_wp2_with (first
    | (go_at_call 10; (with_reducible refine (h10 _).mono ?_); rintro X wq ⟨rfl, hb⟩; replace E := E.on hb; replace C := E.cells; simp [BC, CF] at C; clear hb)
    | (go_at_call 29; (with_reducible refine (h29 _ (envb E)).mono ?_); rintro X wq ⟨rfl, hb⟩; replace E := E.on hb; replace C := E.cells; simp [BC, CF] at C; clear hb))
  go_ret
  exact ⟨rfl, envb E⟩
set_option maxHeartbeats 8000000 in
set_option maxRecDepth 100000 in
theorem cuts_a (b : Bar) (w : World) (hk : b.Ok w) (hr : rightB b = true) (h5 : cutB b = 5) (h6 : barB (dbl b) = true) : Calls Try.prog 7 #[b.val] w fun e w' => e = .returned (.bool true) ∧ Below w.heap.size w w' := by
  have hv : barB b = true := by
    unfold rightB at hr
    simp only [Bool.and_eq_true] at hr
    exact hr.2
  have hs := (barB_and hv).2.2.2.2.1
  have hc := cut_bd hv
  have hf := cut_f hv
  have h10 := fun W => awake_any W
  have h29 := fun W (h : Below w.heap.size w W) => right_any b W (hk.on h)
  have h18 := fun W (h : Below w.heap.size w W) => Dev_ok b W (hk.on h) hv
  have h19 := fun W (h : Below w.heap.size w W) => Cut_ok b W (hk.on h) hv
  have h20 := fun W (h : Below w.heap.size w W) => Mass_ok b W (hk.on h) hv
  have h33 := fun W => mass_ok b.size (cutB b) hs (by omega) hc.2 W
  have h20b := fun W (h : Below w.heap.size w W) => Mass_ok (dbl b) W (dbl_ok (hk.on h)) h6
  have hn := (barB_and hv).2.2.2.2.2
  have W1 : IntKind.i64.wrap (b.count * ms b.size (cutB b)) = massB b := IntWalk.i64_in (massB b) (by have := mass_bd hv; omega)
  have W2 : IntKind.i64.wrap (b.count * 2) = b.count * 2 := IntWalk.i64_in _ (by omega)
  have W3 : IntKind.i64.wrap (1000 * cutB b) = 1000 * cutB b := IntWalk.i64_in _ (by omega)
  have W4 : IntKind.i64.wrap (Int.tmod (cutB b) 5) = 0 := by rw [hf.1]; decide
  have W5 : Int.tmod (cutB b) 5 = 0 := hf.1
  have t1 : decide (cutB b < 5) = false := by simp; omega
  have t2 : decide (1000 * cutB b < devH b) = false := by have := hf.2.1; simp; omega
  have g0 : decide (cutB b > 5) = false := by simp; omega
  have g1 : decide (5 < cutB b) = false := by simp; omega
  rw [dbl_mass] at h20b
  have Wm : IntKind.i64.wrap (2 * massB b) = 2 * massB b := IntWalk.i64_in _ (by have := mass_bd hv; omega)
  have E := (Env.nil w).add w.heap.size 32 b.cs rfl
  have hcs : b.cs = #[.string b.mark, .int .i64 b.size, .int .i64 b.count, .int .i64 b.code, .slice b.p b.ds.length b.cap] := rfl
  have hvv : b.val = .agg b.cs := rfl
  rw [hcs] at E hvv
  have hv2 : (dbl b).val = .agg #[.string b.mark, .int .i64 b.size, .int .i64 (b.count * 2), .int .i64 b.code, .slice b.p b.ds.length b.cap] := rfl
  rw [hr] at h29
  rw [hv2] at h20b
  rw [hvv] at h29 h18 h19 h20 ⊢
  unfold two at *
  clear hr hk hcs hvv hv hs hc hf h5 h6 hv2 hn
  generalize devL b = vx at *
  generalize devH b = vy at *
  generalize massB b = vm at *
  generalize ms b.size (cutB b) = v1 at *
  generalize cutB b = vc at *
  have C := E.cells
  simp [BC, CF] at C
  go_enter Try.func7, Try.ntmps7
  go_upto_region 14 with (first
    | (go_at_call 10; (with_reducible refine (h10 _).mono ?_); rintro X wq ⟨rfl, hb⟩; replace E := E.on hb; replace C := E.cells; simp [BC, CF] at C; clear hb)
    | (go_at_call 29; (with_reducible refine (h29 _ (envb E)).mono ?_); rintro X wq ⟨rfl, hb⟩; replace E := E.on hb; replace C := E.cells; simp [BC, CF] at C; clear hb)
    | (go_at_call 18; (with_reducible refine (h18 _ (envb E)).mono ?_); rintro X w1 ⟨rfl, hb⟩; replace E := (E.on hb).add w1.heap.size 24 #[.int .i64 vx, .int .i64 vy] rfl; replace C := E.cells; simp [BC, CF] at C; clear hb)
    | (go_at_call 19; (with_reducible refine (h19 _ (envb E)).mono ?_); rintro X wq ⟨rfl, hb⟩; replace E := E.on hb; replace C := E.cells; simp [BC, CF] at C; clear hb)
    | (go_at_call 20; (with_reducible refine (h20 _ (envb E)).mono ?_); rintro X wq ⟨rfl, hb⟩; replace E := E.on hb; replace C := E.cells; simp [BC, CF] at C; clear hb)
    | (go_at_call 33; (with_reducible refine (h33 _).mono ?_); rintro X w2 ⟨rfl, hb⟩; replace E := E.on hb; replace C := E.cells; simp [BC, CF] at C; clear hb))
  have E2 := E.add w2.heap.size 32 #[.string b.mark, .int .i64 b.size, .int .i64 (b.count * 2), .int .i64 b.code, .slice b.p b.ds.length b.cap] rfl
  replace E := E.add w2.heap.size 32 #[.string b.mark, .int .i64 b.size, .int .i64 b.count, .int .i64 b.code, .slice b.p b.ds.length b.cap] rfl
  replace C := E.cells
  simp [BC, CF] at C
  go_upto_region 15 with fail
  replace E := E2
  clear E2
  replace C := E.cells
  simp [BC, CF] at C
  go_wp2_with (first
    | (go_at_call 20; (with_reducible refine (h20b _ (envb E)).mono ?_); rintro X wq ⟨rfl, hb⟩; replace E := E.on hb; replace C := E.cells; simp [BC, CF] at C; clear hb))
  go_ret
  exact ⟨by simp, envb E⟩
set_option maxHeartbeats 8000000 in
set_option maxRecDepth 100000 in
theorem cuts_b (b : Bar) (w : World) (hk : b.Ok w) (hr : rightB b = true) (h5 : cutB b = 5) (h6 : barB (dbl b) = false) : Calls Try.prog 7 #[b.val] w fun e w' => e = .returned (.bool true) ∧ Below w.heap.size w w' := by
  have hv : barB b = true := by
    unfold rightB at hr
    simp only [Bool.and_eq_true] at hr
    exact hr.2
  have hs := (barB_and hv).2.2.2.2.1
  have hc := cut_bd hv
  have hf := cut_f hv
  have h10 := fun W => awake_any W
  have h29 := fun W (h : Below w.heap.size w W) => right_any b W (hk.on h)
  have h18 := fun W (h : Below w.heap.size w W) => Dev_ok b W (hk.on h) hv
  have h19 := fun W (h : Below w.heap.size w W) => Cut_ok b W (hk.on h) hv
  have h20 := fun W (h : Below w.heap.size w W) => Mass_ok b W (hk.on h) hv
  have h33 := fun W => mass_ok b.size (cutB b) hs (by omega) hc.2 W
  have h20b := fun W (h : Below w.heap.size w W) => Mass_no (dbl b) W (dbl_ok (hk.on h)) h6
  have hn := (barB_and hv).2.2.2.2.2
  have W1 : IntKind.i64.wrap (b.count * ms b.size (cutB b)) = massB b := IntWalk.i64_in (massB b) (by have := mass_bd hv; omega)
  have W2 : IntKind.i64.wrap (b.count * 2) = b.count * 2 := IntWalk.i64_in _ (by omega)
  have W3 : IntKind.i64.wrap (1000 * cutB b) = 1000 * cutB b := IntWalk.i64_in _ (by omega)
  have W4 : IntKind.i64.wrap (Int.tmod (cutB b) 5) = 0 := by rw [hf.1]; decide
  have W5 : Int.tmod (cutB b) 5 = 0 := hf.1
  have t1 : decide (cutB b < 5) = false := by simp; omega
  have t2 : decide (1000 * cutB b < devH b) = false := by have := hf.2.1; simp; omega
  have g0 : decide (cutB b > 5) = false := by simp; omega
  have g1 : decide (5 < cutB b) = false := by simp; omega
  have g6 : decide (b.count * 2 > 1000) = true := by rw [dbl_val hv] at h6; simp at h6 ⊢; omega
  have g7 : decide (1000 < b.count * 2) = true := by rw [dbl_val hv] at h6; simp at h6 ⊢; omega
  have E := (Env.nil w).add w.heap.size 32 b.cs rfl
  have hcs : b.cs = #[.string b.mark, .int .i64 b.size, .int .i64 b.count, .int .i64 b.code, .slice b.p b.ds.length b.cap] := rfl
  have hvv : b.val = .agg b.cs := rfl
  rw [hcs] at E hvv
  have hv2 : (dbl b).val = .agg #[.string b.mark, .int .i64 b.size, .int .i64 (b.count * 2), .int .i64 b.code, .slice b.p b.ds.length b.cap] := rfl
  rw [hr] at h29
  rw [hv2] at h20b
  rw [hvv] at h29 h18 h19 h20 ⊢
  unfold two at *
  clear hr hk hcs hvv hv hs hc hf h5 h6 hv2 hn
  generalize devL b = vx at *
  generalize devH b = vy at *
  generalize massB b = vm at *
  generalize ms b.size (cutB b) = v1 at *
  generalize cutB b = vc at *
  have C := E.cells
  simp [BC, CF] at C
  go_enter Try.func7, Try.ntmps7
  go_upto_region 14 with (first
    | (go_at_call 10; (with_reducible refine (h10 _).mono ?_); rintro X wq ⟨rfl, hb⟩; replace E := E.on hb; replace C := E.cells; simp [BC, CF] at C; clear hb)
    | (go_at_call 29; (with_reducible refine (h29 _ (envb E)).mono ?_); rintro X wq ⟨rfl, hb⟩; replace E := E.on hb; replace C := E.cells; simp [BC, CF] at C; clear hb)
    | (go_at_call 18; (with_reducible refine (h18 _ (envb E)).mono ?_); rintro X w1 ⟨rfl, hb⟩; replace E := (E.on hb).add w1.heap.size 24 #[.int .i64 vx, .int .i64 vy] rfl; replace C := E.cells; simp [BC, CF] at C; clear hb)
    | (go_at_call 19; (with_reducible refine (h19 _ (envb E)).mono ?_); rintro X wq ⟨rfl, hb⟩; replace E := E.on hb; replace C := E.cells; simp [BC, CF] at C; clear hb)
    | (go_at_call 20; (with_reducible refine (h20 _ (envb E)).mono ?_); rintro X wq ⟨rfl, hb⟩; replace E := E.on hb; replace C := E.cells; simp [BC, CF] at C; clear hb)
    | (go_at_call 33; (with_reducible refine (h33 _).mono ?_); rintro X w2 ⟨rfl, hb⟩; replace E := E.on hb; replace C := E.cells; simp [BC, CF] at C; clear hb))
  have E2 := E.add w2.heap.size 32 #[.string b.mark, .int .i64 b.size, .int .i64 (b.count * 2), .int .i64 b.code, .slice b.p b.ds.length b.cap] rfl
  replace E := E.add w2.heap.size 32 #[.string b.mark, .int .i64 b.size, .int .i64 b.count, .int .i64 b.code, .slice b.p b.ds.length b.cap] rfl
  replace C := E.cells
  simp [BC, CF] at C
  go_upto_region 15 with fail
  replace E := E2
  clear E2
  replace C := E.cells
  simp [BC, CF] at C
  go_wp2_with (first
    | (go_at_call 20; (with_reducible refine (h20b _ (envb E)).mono ?_); rintro X wq ⟨rfl, hb⟩; replace E := E.on hb; replace C := E.cells; simp [BC, CF] at C; clear hb))
  go_ret
  exact ⟨by simp, envb E⟩
set_option maxHeartbeats 8000000 in
set_option maxRecDepth 100000 in
theorem cuts_c (b : Bar) (w : World) (hk : b.Ok w) (hr : rightB b = true) (h5 : 5 < cutB b) (h6 : barB (dbl b) = true) : Calls Try.prog 7 #[b.val] w fun e w' => e = .returned (.bool true) ∧ Below w.heap.size w w' := by
  have hv : barB b = true := by
    unfold rightB at hr
    simp only [Bool.and_eq_true] at hr
    exact hr.2
  have hs := (barB_and hv).2.2.2.2.1
  have hc := cut_bd hv
  have hf := cut_f hv
  have h10 := fun W => awake_any W
  have h29 := fun W (h : Below w.heap.size w W) => right_any b W (hk.on h)
  have h18 := fun W (h : Below w.heap.size w W) => Dev_ok b W (hk.on h) hv
  have h19 := fun W (h : Below w.heap.size w W) => Cut_ok b W (hk.on h) hv
  have h20 := fun W (h : Below w.heap.size w W) => Mass_ok b W (hk.on h) hv
  have h33 := fun W => mass_ok b.size (cutB b) hs (by omega) hc.2 W
  have h20b := fun W (h : Below w.heap.size w W) => Mass_ok (dbl b) W (dbl_ok (hk.on h)) h6
  have hn := (barB_and hv).2.2.2.2.2
  have W1 : IntKind.i64.wrap (b.count * ms b.size (cutB b)) = massB b := IntWalk.i64_in (massB b) (by have := mass_bd hv; omega)
  have W2 : IntKind.i64.wrap (b.count * 2) = b.count * 2 := IntWalk.i64_in _ (by omega)
  have W3 : IntKind.i64.wrap (1000 * cutB b) = 1000 * cutB b := IntWalk.i64_in _ (by omega)
  have W4 : IntKind.i64.wrap (Int.tmod (cutB b) 5) = 0 := by rw [hf.1]; decide
  have W5 : Int.tmod (cutB b) 5 = 0 := hf.1
  have t1 : decide (cutB b < 5) = false := by simp; omega
  have t2 : decide (1000 * cutB b < devH b) = false := by have := hf.2.1; simp; omega
  have g0 : decide (cutB b > 5) = true := by simp; omega
  have g1 : decide (5 < cutB b) = true := by simp; omega
  have Wg : IntKind.i64.wrap (cutB b - 5) = cutB b - 5 := IntWalk.i64_in _ (by omega)
  have Wh : IntKind.i64.wrap (1000 * (cutB b - 5)) = 1000 * (cutB b - 5) := IntWalk.i64_in _ (by omega)
  have g2 : decide (1000 * (cutB b - 5) ≥ devH b) = false := by have := hf.2.2 h5; simp; omega
  have g3 : decide (devH b ≤ 1000 * (cutB b - 5)) = false := by have := hf.2.2 h5; simp; omega
  rw [dbl_mass] at h20b
  have Wm : IntKind.i64.wrap (2 * massB b) = 2 * massB b := IntWalk.i64_in _ (by have := mass_bd hv; omega)
  have E := (Env.nil w).add w.heap.size 32 b.cs rfl
  have hcs : b.cs = #[.string b.mark, .int .i64 b.size, .int .i64 b.count, .int .i64 b.code, .slice b.p b.ds.length b.cap] := rfl
  have hvv : b.val = .agg b.cs := rfl
  rw [hcs] at E hvv
  have hv2 : (dbl b).val = .agg #[.string b.mark, .int .i64 b.size, .int .i64 (b.count * 2), .int .i64 b.code, .slice b.p b.ds.length b.cap] := rfl
  rw [hr] at h29
  rw [hv2] at h20b
  rw [hvv] at h29 h18 h19 h20 ⊢
  unfold two at *
  clear hr hk hcs hvv hv hs hc hf h5 h6 hv2 hn
  generalize devL b = vx at *
  generalize devH b = vy at *
  generalize massB b = vm at *
  generalize ms b.size (cutB b) = v1 at *
  generalize cutB b = vc at *
  have C := E.cells
  simp [BC, CF] at C
  go_enter Try.func7, Try.ntmps7
  go_upto_region 14 with (first
    | (go_at_call 10; (with_reducible refine (h10 _).mono ?_); rintro X wq ⟨rfl, hb⟩; replace E := E.on hb; replace C := E.cells; simp [BC, CF] at C; clear hb)
    | (go_at_call 29; (with_reducible refine (h29 _ (envb E)).mono ?_); rintro X wq ⟨rfl, hb⟩; replace E := E.on hb; replace C := E.cells; simp [BC, CF] at C; clear hb)
    | (go_at_call 18; (with_reducible refine (h18 _ (envb E)).mono ?_); rintro X w1 ⟨rfl, hb⟩; replace E := (E.on hb).add w1.heap.size 24 #[.int .i64 vx, .int .i64 vy] rfl; replace C := E.cells; simp [BC, CF] at C; clear hb)
    | (go_at_call 19; (with_reducible refine (h19 _ (envb E)).mono ?_); rintro X wq ⟨rfl, hb⟩; replace E := E.on hb; replace C := E.cells; simp [BC, CF] at C; clear hb)
    | (go_at_call 20; (with_reducible refine (h20 _ (envb E)).mono ?_); rintro X wq ⟨rfl, hb⟩; replace E := E.on hb; replace C := E.cells; simp [BC, CF] at C; clear hb)
    | (go_at_call 33; (with_reducible refine (h33 _).mono ?_); rintro X w2 ⟨rfl, hb⟩; replace E := E.on hb; replace C := E.cells; simp [BC, CF] at C; clear hb))
  have E2 := E.add w2.heap.size 32 #[.string b.mark, .int .i64 b.size, .int .i64 (b.count * 2), .int .i64 b.code, .slice b.p b.ds.length b.cap] rfl
  replace E := E.add w2.heap.size 32 #[.string b.mark, .int .i64 b.size, .int .i64 b.count, .int .i64 b.code, .slice b.p b.ds.length b.cap] rfl
  replace C := E.cells
  simp [BC, CF] at C
  go_upto_region 15 with fail
  replace E := E2
  clear E2
  replace C := E.cells
  simp [BC, CF] at C
  go_wp2_with (first
    | (go_at_call 20; (with_reducible refine (h20b _ (envb E)).mono ?_); rintro X wq ⟨rfl, hb⟩; replace E := E.on hb; replace C := E.cells; simp [BC, CF] at C; clear hb))
  go_ret
  exact ⟨by simp, envb E⟩
set_option maxHeartbeats 8000000 in
set_option maxRecDepth 100000 in
theorem cuts_d (b : Bar) (w : World) (hk : b.Ok w) (hr : rightB b = true) (h5 : 5 < cutB b) (h6 : barB (dbl b) = false) : Calls Try.prog 7 #[b.val] w fun e w' => e = .returned (.bool true) ∧ Below w.heap.size w w' := by
  have hv : barB b = true := by
    unfold rightB at hr
    simp only [Bool.and_eq_true] at hr
    exact hr.2
  have hs := (barB_and hv).2.2.2.2.1
  have hc := cut_bd hv
  have hf := cut_f hv
  have h10 := fun W => awake_any W
  have h29 := fun W (h : Below w.heap.size w W) => right_any b W (hk.on h)
  have h18 := fun W (h : Below w.heap.size w W) => Dev_ok b W (hk.on h) hv
  have h19 := fun W (h : Below w.heap.size w W) => Cut_ok b W (hk.on h) hv
  have h20 := fun W (h : Below w.heap.size w W) => Mass_ok b W (hk.on h) hv
  have h33 := fun W => mass_ok b.size (cutB b) hs (by omega) hc.2 W
  have h20b := fun W (h : Below w.heap.size w W) => Mass_no (dbl b) W (dbl_ok (hk.on h)) h6
  have hn := (barB_and hv).2.2.2.2.2
  have W1 : IntKind.i64.wrap (b.count * ms b.size (cutB b)) = massB b := IntWalk.i64_in (massB b) (by have := mass_bd hv; omega)
  have W2 : IntKind.i64.wrap (b.count * 2) = b.count * 2 := IntWalk.i64_in _ (by omega)
  have W3 : IntKind.i64.wrap (1000 * cutB b) = 1000 * cutB b := IntWalk.i64_in _ (by omega)
  have W4 : IntKind.i64.wrap (Int.tmod (cutB b) 5) = 0 := by rw [hf.1]; decide
  have W5 : Int.tmod (cutB b) 5 = 0 := hf.1
  have t1 : decide (cutB b < 5) = false := by simp; omega
  have t2 : decide (1000 * cutB b < devH b) = false := by have := hf.2.1; simp; omega
  have g0 : decide (cutB b > 5) = true := by simp; omega
  have g1 : decide (5 < cutB b) = true := by simp; omega
  have Wg : IntKind.i64.wrap (cutB b - 5) = cutB b - 5 := IntWalk.i64_in _ (by omega)
  have Wh : IntKind.i64.wrap (1000 * (cutB b - 5)) = 1000 * (cutB b - 5) := IntWalk.i64_in _ (by omega)
  have g2 : decide (1000 * (cutB b - 5) ≥ devH b) = false := by have := hf.2.2 h5; simp; omega
  have g3 : decide (devH b ≤ 1000 * (cutB b - 5)) = false := by have := hf.2.2 h5; simp; omega
  have g6 : decide (b.count * 2 > 1000) = true := by rw [dbl_val hv] at h6; simp at h6 ⊢; omega
  have g7 : decide (1000 < b.count * 2) = true := by rw [dbl_val hv] at h6; simp at h6 ⊢; omega
  have E := (Env.nil w).add w.heap.size 32 b.cs rfl
  have hcs : b.cs = #[.string b.mark, .int .i64 b.size, .int .i64 b.count, .int .i64 b.code, .slice b.p b.ds.length b.cap] := rfl
  have hvv : b.val = .agg b.cs := rfl
  rw [hcs] at E hvv
  have hv2 : (dbl b).val = .agg #[.string b.mark, .int .i64 b.size, .int .i64 (b.count * 2), .int .i64 b.code, .slice b.p b.ds.length b.cap] := rfl
  rw [hr] at h29
  rw [hv2] at h20b
  rw [hvv] at h29 h18 h19 h20 ⊢
  unfold two at *
  clear hr hk hcs hvv hv hs hc hf h5 h6 hv2 hn
  generalize devL b = vx at *
  generalize devH b = vy at *
  generalize massB b = vm at *
  generalize ms b.size (cutB b) = v1 at *
  generalize cutB b = vc at *
  have C := E.cells
  simp [BC, CF] at C
  go_enter Try.func7, Try.ntmps7
  go_upto_region 14 with (first
    | (go_at_call 10; (with_reducible refine (h10 _).mono ?_); rintro X wq ⟨rfl, hb⟩; replace E := E.on hb; replace C := E.cells; simp [BC, CF] at C; clear hb)
    | (go_at_call 29; (with_reducible refine (h29 _ (envb E)).mono ?_); rintro X wq ⟨rfl, hb⟩; replace E := E.on hb; replace C := E.cells; simp [BC, CF] at C; clear hb)
    | (go_at_call 18; (with_reducible refine (h18 _ (envb E)).mono ?_); rintro X w1 ⟨rfl, hb⟩; replace E := (E.on hb).add w1.heap.size 24 #[.int .i64 vx, .int .i64 vy] rfl; replace C := E.cells; simp [BC, CF] at C; clear hb)
    | (go_at_call 19; (with_reducible refine (h19 _ (envb E)).mono ?_); rintro X wq ⟨rfl, hb⟩; replace E := E.on hb; replace C := E.cells; simp [BC, CF] at C; clear hb)
    | (go_at_call 20; (with_reducible refine (h20 _ (envb E)).mono ?_); rintro X wq ⟨rfl, hb⟩; replace E := E.on hb; replace C := E.cells; simp [BC, CF] at C; clear hb)
    | (go_at_call 33; (with_reducible refine (h33 _).mono ?_); rintro X w2 ⟨rfl, hb⟩; replace E := E.on hb; replace C := E.cells; simp [BC, CF] at C; clear hb))
  have E2 := E.add w2.heap.size 32 #[.string b.mark, .int .i64 b.size, .int .i64 (b.count * 2), .int .i64 b.code, .slice b.p b.ds.length b.cap] rfl
  replace E := E.add w2.heap.size 32 #[.string b.mark, .int .i64 b.size, .int .i64 b.count, .int .i64 b.code, .slice b.p b.ds.length b.cap] rfl
  replace C := E.cells
  simp [BC, CF] at C
  go_upto_region 15 with fail
  replace E := E2
  clear E2
  replace C := E.cells
  simp [BC, CF] at C
  go_wp2_with (first
    | (go_at_call 20; (with_reducible refine (h20b _ (envb E)).mono ?_); rintro X wq ⟨rfl, hb⟩; replace E := E.on hb; replace C := E.cells; simp [BC, CF] at C; clear hb))
  go_ret
  exact ⟨by simp, envb E⟩
theorem cuts_walk (b : Bar) (w : World) (hk : b.Ok w) : Calls Try.prog 7 #[b.val] w fun e w' => e = .returned (.bool true) ∧ Below w.heap.size w w' := by
  cases hr : rightB b
  · exact cuts_not b w hk hr
  · have hv : barB b = true := by
      unfold rightB at hr
      simp only [Bool.and_eq_true] at hr
      exact hr.2
    have := (cut_bd hv).1
    by_cases h : cutB b = 5
    · cases h6 : barB (dbl b)
      · exact cuts_b b w hk hr h h6
      · exact cuts_a b w hk hr h h6
    · cases h6 : barB (dbl b)
      · exact cuts_d b w hk hr (by omega) h6
      · exact cuts_c b w hk hr (by omega) h6
end Go.Proofs.Ythphgppgdlimeaa
