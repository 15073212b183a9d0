/- Contains. -/
import Derived.Test.YtffigpkkdljaiaaVa
import Derived.Test.YtffigpkkdljaiaaTw
namespace Go.Proofs.Ytffigpkkdljaiaa
open Go.ChangeShapes Go.WideShapes Go.ChangeAt Go.RowKit
set_option linter.unusedVariables false
set_option linter.unusedSimpArgs false

set_option maxHeartbeats 8000000 in
set_option maxRecDepth 100000 in
theorem con_ok (a b c d e f a' b' c' d' e' f' : Int) (w : World) (hv1 : vB a b c d e f = true) (hv2 : vB a' b' c' d' e' f' = true) :
    Calls Try.prog 20 #[.agg #[.int .i64 a, .int .i64 b, .int .i64 c, .int .i64 d, .int .i64 e, .int .i64 f], .agg #[.int .i64 a', .int .i64 b', .int .i64 c', .int .i64 d', .int .i64 e', .int .i64 f']] w fun E w' => E = .returned (.tuple #[.bool (conS a d a' d' && conS b e b' e' && conS c f c' f'), .int .i64 0]) ∧ Below w.heap.size w w' := by
  have E := ((Env.nil w).add w.heap.size 25 #[.int .i64 a, .int .i64 b, .int .i64 c, .int .i64 d, .int .i64 e, .int .i64 f] rfl).add (w.heap.size + 1) 25 #[.int .i64 a', .int .i64 b', .int .i64 c', .int .i64 d', .int .i64 e', .int .i64 f'] (by simp)
  have h1 := fun W => sides_any a b c d e f W
  have h2 := fun W => sides_any a' b' c' d' e' f' W
  have k0 := fun W => sdcon_any a d a' d' W
  have k1 := fun W => sdcon_any b e b' e' W
  have k2 := fun W => sdcon_any c f c' f' W
  generalize conS a d a' d' = x at *
  generalize conS b e b' e' = y at *
  generalize conS c f c' f' = z at *
  have v1 := fun W => valid_any a b c d e f W
  have v2 := fun W => valid_any a' b' c' d' e' f' W
  rw [hv1] at v1
  rw [hv2] at v2
  clear hv1 hv2
  have C := E.cells
  simp [BC, CF] at C
  go_enter Try.func20, Try.ntmps20
  go_upto_region 3 with (go_at_call 22; first | ((with_reducible refine (v1 _).mono ?_); rintro X w1 ⟨rfl, hb⟩; replace E := E.on hb; replace C := E.cells; simp [BC, CF] at C; clear hb) | ((with_reducible refine (v2 _).mono ?_); rintro X W0 ⟨rfl, hb⟩; replace E := E.on hb; replace C := E.cells; simp [BC, CF] at C; clear hb))
  clear v1 v2
  go_cut [6, 7] (fun s t wx => ∃ g k : Nat, s = .pointer (some ⟨g, 0, none⟩) ∧ t = .pointer (some ⟨k, 0, none⟩) ∧ Env w wx [⟨k, 68, #[.int .i64 a', .int .i64 d', .int .i64 b', .int .i64 e', .int .i64 c', .int .i64 f']⟩, ⟨g, 68, #[.int .i64 a, .int .i64 d, .int .i64 b, .int .i64 e, .int .i64 c, .int .i64 f]⟩, ⟨w.heap.size + 1, 25, #[.int .i64 a', .int .i64 b', .int .i64 c', .int .i64 d', .int .i64 e', .int .i64 f']⟩, ⟨w.heap.size, 25, #[.int .i64 a, .int .i64 b, .int .i64 c, .int .i64 d, .int .i64 e, .int .i64 f]⟩])
  case first =>
    go_region_law (go_simp; go_at_call 40; first
      | ((with_reducible refine (h1 _).mono ?_); rintro X w1 ⟨rfl, hb⟩; first
          | with_reducible have E := E.on hb
          | with_reducible have E := E.drw.on hb
          | with_reducible have E := (E.add _ _ _ rfl).drw.on hb
          | with_reducible have E := ((E.add _ _ _ rfl).add _ _ _ (sz1 rfl)).drw.on hb
          | with_reducible have E := (E.add _ _ _ rfl).on hb
          | with_reducible have E := ((E.add _ _ _ rfl).add _ _ _ (sz1 rfl)).on hb
         have C := E.cells
         simp only [BC, CF, Nat.reduceAdd] at C
         clear hb)
      | ((with_reducible refine (h2 _).mono ?_); rintro X w1 ⟨rfl, hb⟩; first
          | with_reducible have E := E.on hb
          | with_reducible have E := E.drw.on hb
          | with_reducible have E := (E.add _ _ _ rfl).drw.on hb
          | with_reducible have E := ((E.add _ _ _ rfl).add _ _ _ (sz1 rfl)).drw.on hb
          | with_reducible have E := (E.add _ _ _ rfl).on hb
          | with_reducible have E := ((E.add _ _ _ rfl).add _ _ _ (sz1 rfl)).on hb
         have C := E.cells
         simp only [BC, CF, Nat.reduceAdd] at C
         clear hb))
    all_goals (go_wp2_with fail)
    all_goals go_meet
    all_goals refine ⟨_, _, rfl, rfl, ?_⟩
    all_goals (repeat with_reducible refine Env.drw ?_)
    all_goals first
      | with_reducible exact tw1 E
      | with_reducible exact tw2 E
      | with_reducible exact tw3 E
      | with_reducible exact tw4 E
      | with_reducible exact tw5 E
      | with_reducible exact tw6 E
      | with_reducible exact tw7 E
  case rest =>
    clear E C h1 h2
    obtain ⟨g, k, rfl, rfl, E⟩ := hcut
    go_wp2
    go_loopw [21] (fun v wr => ∃ i : Nat, v = .int .i64 (i : Int) ∧ i ≤ 3 ∧ Env w wr [⟨k, 68, #[.int .i64 a', .int .i64 d', .int .i64 b', .int .i64 e', .int .i64 c', .int .i64 f']⟩, ⟨g, 68, #[.int .i64 a, .int .i64 d, .int .i64 b, .int .i64 e, .int .i64 c, .int .i64 f]⟩, ⟨w.heap.size + 1, 25, #[.int .i64 a', .int .i64 b', .int .i64 c', .int .i64 d', .int .i64 e', .int .i64 f']⟩, ⟨w.heap.size, 25, #[.int .i64 a, .int .i64 b, .int .i64 c, .int .i64 d, .int .i64 e, .int .i64 f]⟩] ∧ (0 < i → x = true) ∧ (1 < i → y = true) ∧ (2 < i → z = true)) (fun v _ => 3 - (intOf v).toNat)
    case atStart => exact ⟨0, rfl, by omega, E, by omega, by omega, by omega⟩
    case round =>
    clear E
    obtain ⟨i, rfl, hi, E, hx, hy, hz⟩ := hrel
    rcases (by omega : i = 0 ∨ i = 1 ∨ i = 2 ∨ i = 3) with rfl | rfl | rfl | rfl
    · have C := E.cells
      simp [BC, CF] at C
      clear hx hy hz
      cases x
      · go_wp2
        go_region_law (go_simp; go_at_call 51; (with_reducible refine (k0 _).mono ?_); rintro X w1 ⟨rfl, hb⟩; (first | have E := E.drw.on hb | have E := E.on hb); clear hb)
        all_goals go_wp2
        all_goals refine bodyPost_ret (v := .tuple #[.bool false, .int .i64 0]) (by simp [results, Try.results20, go_sem]) rfl ⟨by simp, E.1⟩
      · go_wp2
        go_region_law (go_simp; go_at_call 51; (with_reducible refine (k0 _).mono ?_); rintro X w1 ⟨rfl, hb⟩; (first | have E := E.drw.on hb | have E := E.on hb); clear hb)
        all_goals go_wp2
        all_goals go_roundw
        all_goals first | exact ⟨1, rfl, by omega, E, by simp, by simp, by simp⟩ | (simp [intOf])
    · have C := E.cells
      simp [BC, CF] at C
      have e := hx (by omega); subst e
      clear hx hy hz
      cases y
      · go_wp2
        go_region_law (go_simp; go_at_call 51; (with_reducible refine (k1 _).mono ?_); rintro X w1 ⟨rfl, hb⟩; (first | have E := E.drw.on hb | have E := E.on hb); clear hb)
        all_goals go_wp2
        all_goals refine bodyPost_ret (v := .tuple #[.bool false, .int .i64 0]) (by simp [results, Try.results20, go_sem]) rfl ⟨by simp, E.1⟩
      · go_wp2
        go_region_law (go_simp; go_at_call 51; (with_reducible refine (k1 _).mono ?_); rintro X w1 ⟨rfl, hb⟩; (first | have E := E.drw.on hb | have E := E.on hb); clear hb)
        all_goals go_wp2
        all_goals go_roundw
        all_goals first | exact ⟨2, rfl, by omega, E, by simp, by simp, by simp⟩ | (simp [intOf])
    · have C := E.cells
      simp [BC, CF] at C
      have e := hx (by omega); subst e
      have e := hy (by omega); subst e
      clear hx hy hz
      cases z
      · go_wp2
        go_region_law (go_simp; go_at_call 51; (with_reducible refine (k2 _).mono ?_); rintro X w1 ⟨rfl, hb⟩; (first | have E := E.drw.on hb | have E := E.on hb); clear hb)
        all_goals go_wp2
        all_goals refine bodyPost_ret (v := .tuple #[.bool false, .int .i64 0]) (by simp [results, Try.results20, go_sem]) rfl ⟨by simp, E.1⟩
      · go_wp2
        go_region_law (go_simp; go_at_call 51; (with_reducible refine (k2 _).mono ?_); rintro X w1 ⟨rfl, hb⟩; (first | have E := E.drw.on hb | have E := E.on hb); clear hb)
        all_goals go_wp2
        all_goals go_roundw
        all_goals first | exact ⟨3, rfl, by omega, E, by simp, by simp, by simp⟩ | (simp [intOf])
    · have e := hx (by omega); subst e
      have e := hy (by omega); subst e
      have e := hz (by omega); subst e
      clear hx hy hz
      go_wp2
      refine bodyPost_ret (v := .tuple #[.bool true, .int .i64 0]) (by simp [results, Try.results20, go_sem]) rfl ⟨rfl, E.1⟩
set_option maxRecDepth 100000 in
theorem con_arg (a b c d e f a' b' c' d' e' f' : Int) (w : World) (hv : vB a b c d e f = false ∨ vB a' b' c' d' e' f' = false) :
    Calls Try.prog 20 #[.agg #[.int .i64 a, .int .i64 b, .int .i64 c, .int .i64 d, .int .i64 e, .int .i64 f], .agg #[.int .i64 a', .int .i64 b', .int .i64 c', .int .i64 d', .int .i64 e', .int .i64 f']] w fun E w' => E = .returned (.tuple #[.bool false, .int .i64 1]) ∧ Below w.heap.size w w' := by
  have E := ((Env.nil w).add w.heap.size 25 #[.int .i64 a, .int .i64 b, .int .i64 c, .int .i64 d, .int .i64 e, .int .i64 f] rfl).add (w.heap.size + 1) 25 #[.int .i64 a', .int .i64 b', .int .i64 c', .int .i64 d', .int .i64 e', .int .i64 f'] (by simp)
  have v1 := fun W => valid_any a b c d e f W
  have v2 := fun W => valid_any a' b' c' d' e' f' W
  have C := E.cells
  simp [BC, CF] at C
  cases hv1 : vB a b c d e f
  · rw [hv1] at v1
    clear hv1 hv v2
    go_enter Try.func20, Try.ntmps20
    go_wp2_with (go_at_call 22; ((with_reducible refine (v1 _).mono ?_); rintro X w1 ⟨rfl, hb⟩; replace E := E.on hb; replace C := E.cells; simp [BC, CF] at C; clear hb))
    refine bodyPost_ret (v := .tuple #[.bool false, .int .i64 1]) (by simp [results, Try.results20, go_sem]) rfl ⟨rfl, E.1⟩
  · have hv2 : vB a' b' c' d' e' f' = false := by rcases hv with h | h; rw [hv1] at h; cases h; exact h
    rw [hv1] at v1
    rw [hv2] at v2
    clear hv1 hv2 hv
    go_enter Try.func20, Try.ntmps20
    go_wp2_with (go_at_call 22; first | ((with_reducible refine (v1 _).mono ?_); rintro X w1 ⟨rfl, hb⟩; replace E := E.on hb; replace C := E.cells; simp [BC, CF] at C; clear hb) | ((with_reducible refine (v2 _).mono ?_); rintro X w1 ⟨rfl, hb⟩; replace E := E.on hb; replace C := E.cells; simp [BC, CF] at C; clear hb))
    refine bodyPost_ret (v := .tuple #[.bool false, .int .i64 1]) (by simp [results, Try.results20, go_sem]) rfl ⟨rfl, E.1⟩
end Go.Proofs.Ytffigpkkdljaiaa
