/- SpanInside: walks. -/
import Derived.Test.YtplepbaafamjfaaV20
namespace Go.Proofs.Ytplepbaafamjfaa
open Go.ChangeShapes Go.WideShapes Go.ChangeAt Go.RowKit
set_option linter.unusedVariables false
set_option linter.unusedSimpArgs false

set_option maxRecDepth 100000 in
set_option maxHeartbeats 8000000 in
theorem inside_0011 (al ah bl bh i k x y : Int) (w : World) (va : SV al ah) (vb : SV bl bh) (hi : 0 ≤ i ∧ i ≤ 18446744073709551615) (hk : 0 ≤ k ∧ k ≤ 18446744073709551615) (hx : atN al ah i = x) (hy : atN bl bh k = y) (x1 : al ≤ x) (x2 : x ≤ ah) (y1 : bl ≤ y) (y2 : y ≤ bh) (h1 : addR al ah bl bh = (0, 0, 5)) (h2 : subR al ah bl bh = (0, 0, 5)) (ps pt n : Int) (h3 : mulR al ah bl bh = (ps, pt, 0)) (k3 : partR x y 1 false = (n, true)) (k3' : hasB ps pt n = true) (qs qt f c : Int) (h4 : divR al ah bl bh = (qs, qt, 0)) (k4 : hasB bl bh 0 = false) (z : y ≠ 0) (hf : fl x y = f) (hc : ce x y = c) (k5 : qs ≤ f) (k6 : c ≤ qt) :
    Calls Try.prog 6 #[.agg #[.int .i64 al, .int .i64 ah], .agg #[.int .i64 bl, .int .i64 bh], .int .u64 i, .int .u64 k] w (Yes w) := by
  have hA := sB_t.2 va
  have hB := sB_t.2 vb
  have g1 := fun W => at_any al ah i W va hi.1 hi.2
  have g2 := fun W => at_any bl bh k W vb hk.1 hk.2
  rw [hx] at g1
  rw [hy] at g2
  have f1 := fun W => hRa _ _ _ _ _ _ _ h1 W
  have f2 := fun W => hRs _ _ _ _ _ _ _ h2 W
  have f3 := fun W => hRp _ _ _ _ _ _ _ h3 W
  have f4 := fun W => hRd _ _ _ _ _ _ _ h4 W
  have f5 := fun W => hHas _ _ _ _ k4 W
  obtain ⟨a1, a2, a3⟩ := va
  obtain ⟨b1, b2, b3⟩ := vb
  have W1 : IntKind.i64.wrap (x + y) = x + y := IntWalk.i64_in _ (by omega)
  have W2 : IntKind.i64.wrap (x - y) = x - y := IntWalk.i64_in _ (by omega)
  have f8 := fun W => hHas _ _ _ _ k3' W
  have f9 := fun W => hPart _ _ _ _ _ _ k3 W (by omega) (by omega) (by omega) (by omega) (by omega) (by omega) (by omega)
  have fA := fun W => floor_any x y W (by omega) (by omega) (by omega) (by omega) z
  have fB := fun W => ceil_any x y W (by omega) (by omega) (by omega) (by omega) z
  rw [hf] at fA
  rw [hc] at fB
  clear hi hk hx hy h1 h2 h3 h4 k4 k3 k3' z hf hc
  go_enter Try.func6, Try.ntmps6
  go_wp2_with (first | (go_at_call 11; refine (awake_any _).mono ?_; rintro e w0 ⟨rfl, hb⟩; have E := (env_two w al ah bl bh 23 23).on hb; have C := E.cells; simp only [BC] at C; clear hb) | (go_at_call 17; refine (rsvalid_any _ _ _).mono ?_; first | (rw [hA]; rintro e w1 ⟨rfl, hb⟩; replace E := E.on hb; replace C := E.cells; simp only [BC] at C; clear hb) | (rw [hB]; rintro e w1 ⟨rfl, hb⟩; replace E := E.on hb; replace C := E.cells; simp only [BC] at C; clear hb)))
  go_region_held3 (fun w' => w'.cell? ⟨w.heap.size, 0, none⟩ = some (.int .i64 al) ∧ w'.cell? ⟨w.heap.size, 1, none⟩ = some (.int .i64 ah) ∧ w'.cell? ⟨w.heap.size + 1, 0, none⟩ = some (.int .i64 bl) ∧ w'.cell? ⟨w.heap.size + 1, 1, none⟩ = some (.int .i64 bh) ∧ Env w w' [⟨w.heap.size + 1, 23, bl, bh⟩, ⟨w.heap.size, 23, al, ah⟩])
    (first | with_reducible exact two_k (Env.dr E ⟨1, rfl⟩) | with_reducible exact two_k (Env.on (by go_split_ands; assumption) hb) | exact two_k (Env.dr E ⟨1, rfl⟩))
    (first | (go_at_call 34; first | ((with_reducible refine (g1 _).mono ?_); rintro e w2 ⟨rfl, hb⟩) | ((with_reducible refine (g2 _).mono ?_); rintro e w3 ⟨rfl, hb⟩)))
  rename_i hH
  replace E := hH.2.2.2.2
  clear hH
  replace C := E.cells
  simp only [BC] at C
  go_wp2_with (first | (go_at_call 12; ((with_reducible refine (f1 _).mono ?_); rintro e wa ⟨rfl, hb⟩; replace E := (E.on hb).add 0 0 23; replace C := E.cells; simp only [BC] at C; clear hb)) | (go_at_call 13; ((with_reducible refine (f2 _).mono ?_); rintro e wb ⟨rfl, hb⟩; replace E := (E.on hb).add 0 0 23; replace C := E.cells; simp only [BC] at C; clear hb)) | (go_at_call 23; ((with_reducible refine (f3 _).mono ?_); rintro e wc ⟨rfl, hb⟩; replace E := (E.on hb).add ps pt 23; replace C := E.cells; simp only [BC] at C; clear hb)) | (go_at_call 24; ((with_reducible refine (f4 _).mono ?_); rintro e wd ⟨rfl, hb⟩; replace E := (E.on hb).add qs qt 23; replace C := E.cells; simp only [BC] at C; clear hb)) | (go_at_call 35; first | ((with_reducible refine (f5 _).mono ?_); rintro e w9 ⟨rfl, hb⟩; replace E := E.on hb; replace C := E.cells; simp only [BC] at C; clear hb) | ((with_reducible refine (f8 _).mono ?_); rintro e w9 ⟨rfl, hb⟩; replace E := E.on hb; replace C := E.cells; simp only [BC] at C; clear hb)) | (go_at_call 36; ((with_reducible refine (f9 _).mono ?_); rintro e w9 ⟨rfl, hb⟩; replace E := E.on hb; replace C := E.cells; simp only [BC] at C; clear hb)))
  obtain ⟨g, hg⟩ : ∃ g, wd.heap.size = g := ⟨_, rfl⟩
  rw [hg] at E C ⊢
  have E' : Qen w _ g qs qt := qen_of E
  clear hg E C
  go_region_held3 (fun w' => w'.cell? ⟨g, 0, none⟩ = some (.int .i64 qs) ∧ w'.cell? ⟨g, 1, none⟩ = some (.int .i64 qt) ∧ Qen w w' g qs qt)
    (first | with_reducible exact Qen.two (Qen.drew E') | with_reducible exact Qen.two (Qen.next (by go_split_ands; assumption) hb) | exact Qen.two (Qen.drew E'))
    (first | (go_at_call 37; (with_reducible refine (fA _).mono ?_); rintro e w4 ⟨rfl, hb⟩) | (go_at_call 38; (with_reducible refine (fB _).mono ?_); rintro e w5 ⟨rfl, hb⟩))
  all_goals rename_i hH
  all_goals have Z := hH.2.2.1
  all_goals clear hH
  all_goals go_wp2
  all_goals go_ret
  all_goals exact ⟨by first | rfl | simp_all, Z⟩

set_option maxRecDepth 100000 in
set_option maxHeartbeats 8000000 in
theorem inside_0010 (al ah bl bh i k x y : Int) (w : World) (va : SV al ah) (vb : SV bl bh) (hi : 0 ≤ i ∧ i ≤ 18446744073709551615) (hk : 0 ≤ k ∧ k ≤ 18446744073709551615) (hx : atN al ah i = x) (hy : atN bl bh k = y) (x1 : al ≤ x) (x2 : x ≤ ah) (y1 : bl ≤ y) (y2 : y ≤ bh) (h1 : addR al ah bl bh = (0, 0, 5)) (h2 : subR al ah bl bh = (0, 0, 5)) (ps pt n : Int) (h3 : mulR al ah bl bh = (ps, pt, 0)) (k3 : partR x y 1 false = (n, true)) (k3' : hasB ps pt n = true) (h4 : divR al ah bl bh = (0, 0, 16)) (k4 : hasB bl bh 0 = true) :
    Calls Try.prog 6 #[.agg #[.int .i64 al, .int .i64 ah], .agg #[.int .i64 bl, .int .i64 bh], .int .u64 i, .int .u64 k] w (Yes w) := by
  have hA := sB_t.2 va
  have hB := sB_t.2 vb
  have g1 := fun W => at_any al ah i W va hi.1 hi.2
  have g2 := fun W => at_any bl bh k W vb hk.1 hk.2
  rw [hx] at g1
  rw [hy] at g2
  have f1 := fun W => hRa _ _ _ _ _ _ _ h1 W
  have f2 := fun W => hRs _ _ _ _ _ _ _ h2 W
  have f3 := fun W => hRp _ _ _ _ _ _ _ h3 W
  have f4 := fun W => hRd _ _ _ _ _ _ _ h4 W
  have f5 := fun W => hHas _ _ _ _ k4 W
  obtain ⟨a1, a2, a3⟩ := va
  obtain ⟨b1, b2, b3⟩ := vb
  have W1 : IntKind.i64.wrap (x + y) = x + y := IntWalk.i64_in _ (by omega)
  have W2 : IntKind.i64.wrap (x - y) = x - y := IntWalk.i64_in _ (by omega)
  have f8 := fun W => hHas _ _ _ _ k3' W
  have f9 := fun W => hPart _ _ _ _ _ _ k3 W (by omega) (by omega) (by omega) (by omega) (by omega) (by omega) (by omega)
  clear hi hk hx hy h1 h2 h3 h4 k4 k3 k3'
  go_enter Try.func6, Try.ntmps6
  go_wp2_with (first | (go_at_call 11; refine (awake_any _).mono ?_; rintro e w0 ⟨rfl, hb⟩; have E := (env_two w al ah bl bh 23 23).on hb; have C := E.cells; simp only [BC] at C; clear hb) | (go_at_call 17; refine (rsvalid_any _ _ _).mono ?_; first | (rw [hA]; rintro e w1 ⟨rfl, hb⟩; replace E := E.on hb; replace C := E.cells; simp only [BC] at C; clear hb) | (rw [hB]; rintro e w1 ⟨rfl, hb⟩; replace E := E.on hb; replace C := E.cells; simp only [BC] at C; clear hb)))
  go_region_held3 (fun w' => w'.cell? ⟨w.heap.size, 0, none⟩ = some (.int .i64 al) ∧ w'.cell? ⟨w.heap.size, 1, none⟩ = some (.int .i64 ah) ∧ w'.cell? ⟨w.heap.size + 1, 0, none⟩ = some (.int .i64 bl) ∧ w'.cell? ⟨w.heap.size + 1, 1, none⟩ = some (.int .i64 bh) ∧ Env w w' [⟨w.heap.size + 1, 23, bl, bh⟩, ⟨w.heap.size, 23, al, ah⟩])
    (first | with_reducible exact two_k (Env.dr E ⟨1, rfl⟩) | with_reducible exact two_k (Env.on (by go_split_ands; assumption) hb) | exact two_k (Env.dr E ⟨1, rfl⟩))
    (first | (go_at_call 34; first | ((with_reducible refine (g1 _).mono ?_); rintro e w2 ⟨rfl, hb⟩) | ((with_reducible refine (g2 _).mono ?_); rintro e w3 ⟨rfl, hb⟩)))
  rename_i hH
  replace E := hH.2.2.2.2
  clear hH
  replace C := E.cells
  simp only [BC] at C
  go_wp2_with (first | (go_at_call 12; ((with_reducible refine (f1 _).mono ?_); rintro e wa ⟨rfl, hb⟩; replace E := (E.on hb).add 0 0 23; replace C := E.cells; simp only [BC] at C; clear hb)) | (go_at_call 13; ((with_reducible refine (f2 _).mono ?_); rintro e wb ⟨rfl, hb⟩; replace E := (E.on hb).add 0 0 23; replace C := E.cells; simp only [BC] at C; clear hb)) | (go_at_call 23; ((with_reducible refine (f3 _).mono ?_); rintro e wc ⟨rfl, hb⟩; replace E := (E.on hb).add ps pt 23; replace C := E.cells; simp only [BC] at C; clear hb)) | (go_at_call 24; ((with_reducible refine (f4 _).mono ?_); rintro e wd ⟨rfl, hb⟩; replace E := (E.on hb).add 0 0 23; replace C := E.cells; simp only [BC] at C; clear hb)) | (go_at_call 35; first | ((with_reducible refine (f5 _).mono ?_); rintro e w9 ⟨rfl, hb⟩; replace E := E.on hb; replace C := E.cells; simp only [BC] at C; clear hb) | ((with_reducible refine (f8 _).mono ?_); rintro e w9 ⟨rfl, hb⟩; replace E := E.on hb; replace C := E.cells; simp only [BC] at C; clear hb)) | (go_at_call 36; ((with_reducible refine (f9 _).mono ?_); rintro e w9 ⟨rfl, hb⟩; replace E := E.on hb; replace C := E.cells; simp only [BC] at C; clear hb)))
  all_goals go_ret
  all_goals exact ⟨by first | rfl | simp_all, E.1⟩

set_option maxRecDepth 100000 in
set_option maxHeartbeats 8000000 in
theorem inside_0001 (al ah bl bh i k x y : Int) (w : World) (va : SV al ah) (vb : SV bl bh) (hi : 0 ≤ i ∧ i ≤ 18446744073709551615) (hk : 0 ≤ k ∧ k ≤ 18446744073709551615) (hx : atN al ah i = x) (hy : atN bl bh k = y) (x1 : al ≤ x) (x2 : x ≤ ah) (y1 : bl ≤ y) (y2 : y ≤ bh) (h1 : addR al ah bl bh = (0, 0, 5)) (h2 : subR al ah bl bh = (0, 0, 5)) (h3 : mulR al ah bl bh = (0, 0, 5)) (qs qt f c : Int) (h4 : divR al ah bl bh = (qs, qt, 0)) (k4 : hasB bl bh 0 = false) (z : y ≠ 0) (hf : fl x y = f) (hc : ce x y = c) (k5 : qs ≤ f) (k6 : c ≤ qt) :
    Calls Try.prog 6 #[.agg #[.int .i64 al, .int .i64 ah], .agg #[.int .i64 bl, .int .i64 bh], .int .u64 i, .int .u64 k] w (Yes w) := by
  have hA := sB_t.2 va
  have hB := sB_t.2 vb
  have g1 := fun W => at_any al ah i W va hi.1 hi.2
  have g2 := fun W => at_any bl bh k W vb hk.1 hk.2
  rw [hx] at g1
  rw [hy] at g2
  have f1 := fun W => hRa _ _ _ _ _ _ _ h1 W
  have f2 := fun W => hRs _ _ _ _ _ _ _ h2 W
  have f3 := fun W => hRp _ _ _ _ _ _ _ h3 W
  have f4 := fun W => hRd _ _ _ _ _ _ _ h4 W
  have f5 := fun W => hHas _ _ _ _ k4 W
  obtain ⟨a1, a2, a3⟩ := va
  obtain ⟨b1, b2, b3⟩ := vb
  have W1 : IntKind.i64.wrap (x + y) = x + y := IntWalk.i64_in _ (by omega)
  have W2 : IntKind.i64.wrap (x - y) = x - y := IntWalk.i64_in _ (by omega)
  have fA := fun W => floor_any x y W (by omega) (by omega) (by omega) (by omega) z
  have fB := fun W => ceil_any x y W (by omega) (by omega) (by omega) (by omega) z
  rw [hf] at fA
  rw [hc] at fB
  clear hi hk hx hy h1 h2 h3 h4 k4 z hf hc
  go_enter Try.func6, Try.ntmps6
  go_wp2_with (first | (go_at_call 11; refine (awake_any _).mono ?_; rintro e w0 ⟨rfl, hb⟩; have E := (env_two w al ah bl bh 23 23).on hb; have C := E.cells; simp only [BC] at C; clear hb) | (go_at_call 17; refine (rsvalid_any _ _ _).mono ?_; first | (rw [hA]; rintro e w1 ⟨rfl, hb⟩; replace E := E.on hb; replace C := E.cells; simp only [BC] at C; clear hb) | (rw [hB]; rintro e w1 ⟨rfl, hb⟩; replace E := E.on hb; replace C := E.cells; simp only [BC] at C; clear hb)))
  go_region_held3 (fun w' => w'.cell? ⟨w.heap.size, 0, none⟩ = some (.int .i64 al) ∧ w'.cell? ⟨w.heap.size, 1, none⟩ = some (.int .i64 ah) ∧ w'.cell? ⟨w.heap.size + 1, 0, none⟩ = some (.int .i64 bl) ∧ w'.cell? ⟨w.heap.size + 1, 1, none⟩ = some (.int .i64 bh) ∧ Env w w' [⟨w.heap.size + 1, 23, bl, bh⟩, ⟨w.heap.size, 23, al, ah⟩])
    (first | with_reducible exact two_k (Env.dr E ⟨1, rfl⟩) | with_reducible exact two_k (Env.on (by go_split_ands; assumption) hb) | exact two_k (Env.dr E ⟨1, rfl⟩))
    (first | (go_at_call 34; first | ((with_reducible refine (g1 _).mono ?_); rintro e w2 ⟨rfl, hb⟩) | ((with_reducible refine (g2 _).mono ?_); rintro e w3 ⟨rfl, hb⟩)))
  rename_i hH
  replace E := hH.2.2.2.2
  clear hH
  replace C := E.cells
  simp only [BC] at C
  go_wp2_with (first | (go_at_call 12; ((with_reducible refine (f1 _).mono ?_); rintro e wa ⟨rfl, hb⟩; replace E := (E.on hb).add 0 0 23; replace C := E.cells; simp only [BC] at C; clear hb)) | (go_at_call 13; ((with_reducible refine (f2 _).mono ?_); rintro e wb ⟨rfl, hb⟩; replace E := (E.on hb).add 0 0 23; replace C := E.cells; simp only [BC] at C; clear hb)) | (go_at_call 23; ((with_reducible refine (f3 _).mono ?_); rintro e wc ⟨rfl, hb⟩; replace E := (E.on hb).add 0 0 23; replace C := E.cells; simp only [BC] at C; clear hb)) | (go_at_call 24; ((with_reducible refine (f4 _).mono ?_); rintro e wd ⟨rfl, hb⟩; replace E := (E.on hb).add qs qt 23; replace C := E.cells; simp only [BC] at C; clear hb)) | (go_at_call 35; first | ((with_reducible refine (f5 _).mono ?_); rintro e w9 ⟨rfl, hb⟩; replace E := E.on hb; replace C := E.cells; simp only [BC] at C; clear hb)))
  obtain ⟨g, hg⟩ : ∃ g, wd.heap.size = g := ⟨_, rfl⟩
  rw [hg] at E C ⊢
  have E' : Qen w _ g qs qt := qen_of E
  clear hg E C
  go_region_held3 (fun w' => w'.cell? ⟨g, 0, none⟩ = some (.int .i64 qs) ∧ w'.cell? ⟨g, 1, none⟩ = some (.int .i64 qt) ∧ Qen w w' g qs qt)
    (first | with_reducible exact Qen.two (Qen.drew E') | with_reducible exact Qen.two (Qen.next (by go_split_ands; assumption) hb) | exact Qen.two (Qen.drew E'))
    (first | (go_at_call 37; (with_reducible refine (fA _).mono ?_); rintro e w4 ⟨rfl, hb⟩) | (go_at_call 38; (with_reducible refine (fB _).mono ?_); rintro e w5 ⟨rfl, hb⟩))
  all_goals rename_i hH
  all_goals have Z := hH.2.2.1
  all_goals clear hH
  all_goals go_wp2
  all_goals go_ret
  all_goals exact ⟨by first | rfl | simp_all, Z⟩

set_option maxRecDepth 100000 in
set_option maxHeartbeats 8000000 in
theorem inside_0000 (al ah bl bh i k x y : Int) (w : World) (va : SV al ah) (vb : SV bl bh) (hi : 0 ≤ i ∧ i ≤ 18446744073709551615) (hk : 0 ≤ k ∧ k ≤ 18446744073709551615) (hx : atN al ah i = x) (hy : atN bl bh k = y) (x1 : al ≤ x) (x2 : x ≤ ah) (y1 : bl ≤ y) (y2 : y ≤ bh) (h1 : addR al ah bl bh = (0, 0, 5)) (h2 : subR al ah bl bh = (0, 0, 5)) (h3 : mulR al ah bl bh = (0, 0, 5)) (h4 : divR al ah bl bh = (0, 0, 16)) (k4 : hasB bl bh 0 = true) :
    Calls Try.prog 6 #[.agg #[.int .i64 al, .int .i64 ah], .agg #[.int .i64 bl, .int .i64 bh], .int .u64 i, .int .u64 k] w (Yes w) := by
  have hA := sB_t.2 va
  have hB := sB_t.2 vb
  have g1 := fun W => at_any al ah i W va hi.1 hi.2
  have g2 := fun W => at_any bl bh k W vb hk.1 hk.2
  rw [hx] at g1
  rw [hy] at g2
  have f1 := fun W => hRa _ _ _ _ _ _ _ h1 W
  have f2 := fun W => hRs _ _ _ _ _ _ _ h2 W
  have f3 := fun W => hRp _ _ _ _ _ _ _ h3 W
  have f4 := fun W => hRd _ _ _ _ _ _ _ h4 W
  have f5 := fun W => hHas _ _ _ _ k4 W
  obtain ⟨a1, a2, a3⟩ := va
  obtain ⟨b1, b2, b3⟩ := vb
  have W1 : IntKind.i64.wrap (x + y) = x + y := IntWalk.i64_in _ (by omega)
  have W2 : IntKind.i64.wrap (x - y) = x - y := IntWalk.i64_in _ (by omega)
  clear hi hk hx hy h1 h2 h3 h4 k4
  go_enter Try.func6, Try.ntmps6
  go_wp2_with (first | (go_at_call 11; refine (awake_any _).mono ?_; rintro e w0 ⟨rfl, hb⟩; have E := (env_two w al ah bl bh 23 23).on hb; have C := E.cells; simp only [BC] at C; clear hb) | (go_at_call 17; refine (rsvalid_any _ _ _).mono ?_; first | (rw [hA]; rintro e w1 ⟨rfl, hb⟩; replace E := E.on hb; replace C := E.cells; simp only [BC] at C; clear hb) | (rw [hB]; rintro e w1 ⟨rfl, hb⟩; replace E := E.on hb; replace C := E.cells; simp only [BC] at C; clear hb)))
  go_region_held3 (fun w' => w'.cell? ⟨w.heap.size, 0, none⟩ = some (.int .i64 al) ∧ w'.cell? ⟨w.heap.size, 1, none⟩ = some (.int .i64 ah) ∧ w'.cell? ⟨w.heap.size + 1, 0, none⟩ = some (.int .i64 bl) ∧ w'.cell? ⟨w.heap.size + 1, 1, none⟩ = some (.int .i64 bh) ∧ Env w w' [⟨w.heap.size + 1, 23, bl, bh⟩, ⟨w.heap.size, 23, al, ah⟩])
    (first | with_reducible exact two_k (Env.dr E ⟨1, rfl⟩) | with_reducible exact two_k (Env.on (by go_split_ands; assumption) hb) | exact two_k (Env.dr E ⟨1, rfl⟩))
    (first | (go_at_call 34; first | ((with_reducible refine (g1 _).mono ?_); rintro e w2 ⟨rfl, hb⟩) | ((with_reducible refine (g2 _).mono ?_); rintro e w3 ⟨rfl, hb⟩)))
  rename_i hH
  replace E := hH.2.2.2.2
  clear hH
  replace C := E.cells
  simp only [BC] at C
  go_wp2_with (first | (go_at_call 12; ((with_reducible refine (f1 _).mono ?_); rintro e wa ⟨rfl, hb⟩; replace E := (E.on hb).add 0 0 23; replace C := E.cells; simp only [BC] at C; clear hb)) | (go_at_call 13; ((with_reducible refine (f2 _).mono ?_); rintro e wb ⟨rfl, hb⟩; replace E := (E.on hb).add 0 0 23; replace C := E.cells; simp only [BC] at C; clear hb)) | (go_at_call 23; ((with_reducible refine (f3 _).mono ?_); rintro e wc ⟨rfl, hb⟩; replace E := (E.on hb).add 0 0 23; replace C := E.cells; simp only [BC] at C; clear hb)) | (go_at_call 24; ((with_reducible refine (f4 _).mono ?_); rintro e wd ⟨rfl, hb⟩; replace E := (E.on hb).add 0 0 23; replace C := E.cells; simp only [BC] at C; clear hb)) | (go_at_call 35; first | ((with_reducible refine (f5 _).mono ?_); rintro e w9 ⟨rfl, hb⟩; replace E := E.on hb; replace C := E.cells; simp only [BC] at C; clear hb)))
  all_goals go_ret
  all_goals exact ⟨by first | rfl | simp_all, E.1⟩

end Go.Proofs.Ytplepbaafamjfaa
