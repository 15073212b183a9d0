/- SpanSums returns true: the walk. -/
import Derived.Test.YtplepbaafamjfaaV25a
namespace Go.Proofs.Ytplepbaafamjfaa
open Go.ChangeShapes Go.WideShapes Go.ChangeAt Go.RowKit
set_option linter.unusedVariables false
set_option linter.unusedSimpArgs false

set_option maxRecDepth 100000 in
set_option maxHeartbeats 8000000 in
theorem sums_ok (al ah bl bh a1 a2 a3 b1 b2 b3 c1 c2 d1 d2 d3 : Int) (w : World) (va : SV al ah) (vb : SV bl bh) (ha : addS al ah bl bh = (a1, a2, a3)) (hs : subS al ah bl bh = (b1, b2, b3)) (hh1 : mn al bl = c1) (hh2 : mx ah bh = c2) (hm : (if mn ah bh < mx al bl then (0, 0, 12) else (mx al bl, mn ah bh, 0)) = (d1, d2, d3)) :
    Calls Try.prog 3 #[.agg #[.int .i64 al, .int .i64 ah], .agg #[.int .i64 bl, .int .i64 bh]] w (Yes w) := by
  have hA := sB_t.2 va
  have hB := sB_t.2 vb
  have f1 := fun W => hRa al ah bl bh a1 a2 a3 (by rw [addR_eq va vb]; exact ha) W
  have f2 := fun W => hRs al ah bl bh b1 b2 b3 (by rw [subR_eq va vb]; exact hs) W
  have f3 := fun W => hRh al ah bl bh c1 c2 0 (by rw [hullR_eq va vb, hh1, hh2]) W
  have f4 := fun W => hRm al ah bl bh d1 d2 d3 (by rw [meetR_eq va vb]; exact hm) W
  have r1 := fun W => rsadd_ok al ah bl bh W va vb ha
  have r2 := fun W => rssub_ok al ah bl bh W va vb hs
  have r3 := fun W => rhull_any al ah bl bh W
  rw [hh1, hh2] at r3
  have r4 := fun W => rmeet_ok al ah bl bh W hm
  clear va vb ha hs hh1 hh2 hm
  go_enter Try.func3, Try.ntmps3
  go_wp2_with (first | (go_at_call 11; refine (awake_any _).mono ?_; rintro e w0 ⟨rfl, hb⟩; have E := (env_two w al ah bl bh 23 23).on hb; have C := E.cells; simp only [BC] at C; clear hb) | (go_at_call 17; refine (rsvalid_any _ _ _).mono ?_; first | (rw [hA]; rintro e w1 ⟨rfl, hb⟩; replace E := E.on hb; replace C := E.cells; simp only [BC] at C; clear hb) | (rw [hB]; rintro e w1 ⟨rfl, hb⟩; replace E := E.on hb; replace C := E.cells; simp only [BC] at C; clear hb)) | (go_at_call 12; ((with_reducible refine (f1 _).mono ?_); rintro e wa ⟨rfl, hb⟩; replace E := (E.on hb).add a1 a2 23; replace C := E.cells; simp only [BC] at C; clear hb)) | (go_at_call 13; ((with_reducible refine (f2 _).mono ?_); rintro e wb ⟨rfl, hb⟩; replace E := (E.on hb).add b1 b2 23; replace C := E.cells; simp only [BC] at C; clear hb)) | (go_at_call 14; ((with_reducible refine (f3 _).mono ?_); rintro e wc ⟨rfl, hb⟩; replace E := (E.on hb).add c1 c2 23; replace C := E.cells; simp only [BC] at C; clear hb)) | (go_at_call 15; ((with_reducible refine (f4 _).mono ?_); rintro e wd ⟨rfl, hb⟩; replace E := (E.on hb).add d1 d2 23; replace C := E.cells; simp only [BC] at C; clear hb)))
  go_region_held3 (fun w' => w'.cell? ⟨w.heap.size, 0, none⟩ = some (.int .i64 al) ∧ w'.cell? ⟨w.heap.size, 1, none⟩ = some (.int .i64 ah) ∧ w'.cell? ⟨w.heap.size + 1, 0, none⟩ = some (.int .i64 bl) ∧ w'.cell? ⟨w.heap.size + 1, 1, none⟩ = some (.int .i64 bh) ∧ Env w w' [⟨wd.heap.size, 23, d1, d2⟩, ⟨wc.heap.size, 23, c1, c2⟩, ⟨wb.heap.size, 23, b1, b2⟩, ⟨wa.heap.size, 23, a1, a2⟩, ⟨w.heap.size + 1, 23, bl, bh⟩, ⟨w.heap.size, 23, al, ah⟩])
    (first | exact kept_ab (Env.dr E ⟨1, rfl⟩) | with_reducible exact kept_ab (Env.on (by go_split_ands; assumption) hb))
    (first | (go_at_call 16; refine (svalid_any _ _ _).mono ?_; first | (rw [hA]; rintro e w2 ⟨rfl, hb⟩) | (rw [hB]; rintro e w2 ⟨rfl, hb⟩)) | (go_at_call 17; refine (rsvalid_any _ _ _).mono ?_; first | (rw [hA]; rintro e w2 ⟨rfl, hb⟩) | (rw [hB]; rintro e w2 ⟨rfl, hb⟩)))
  rename_i hH
  replace E := hH.2.2.2.2
  clear hH
  replace C := E.cells
  simp only [BC] at C
  go_wp2_with (first | (go_at_call 17; refine (rsvalid_any _ _ _).mono ?_; first | (rw [hA]; rintro e w1 ⟨rfl, hb⟩; replace E := E.on hb; replace C := E.cells; simp only [BC] at C; clear hb) | (rw [hB]; rintro e w1 ⟨rfl, hb⟩; replace E := E.on hb; replace C := E.cells; simp only [BC] at C; clear hb)) | (go_at_call 19; ((with_reducible refine (r1 _).mono ?_); rintro e we ⟨rfl, hb⟩; replace E := (E.on hb).add a1 a2 23; replace C := E.cells; simp only [BC] at C; clear hb)) | (go_at_call 20; ((with_reducible refine (r2 _).mono ?_); rintro e wf ⟨rfl, hb⟩; replace E := (E.on hb).add b1 b2 23; replace C := E.cells; simp only [BC] at C; clear hb)) | (go_at_call 21; ((with_reducible refine (r4 _).mono ?_); rintro e wg ⟨rfl, hb⟩; replace E := (E.on hb).add d1 d2 23; replace C := E.cells; simp only [BC] at C; clear hb)))
  obtain ⟨g5, q5⟩ : ∃ g, wa.heap.size = g := ⟨_, rfl⟩
  obtain ⟨g7, q7⟩ : ∃ g, wb.heap.size = g := ⟨_, rfl⟩
  obtain ⟨g9, q9⟩ : ∃ g, wc.heap.size = g := ⟨_, rfl⟩
  obtain ⟨g11, q11⟩ : ∃ g, wd.heap.size = g := ⟨_, rfl⟩
  obtain ⟨g13, q13⟩ : ∃ g, we.heap.size = g := ⟨_, rfl⟩
  obtain ⟨g15, q15⟩ : ∃ g, wf.heap.size = g := ⟨_, rfl⟩
  obtain ⟨g17, q17⟩ : ∃ g, wg.heap.size = g := ⟨_, rfl⟩
  rw [q5, q7, q9, q11, q13, q15, q17] at E C ⊢
  clear q5 q7 q9 q11 q13 q15 q17 C
  go_region_held3 (fun w' => w'.cell? ⟨w.heap.size, 0, none⟩ = some (.int .i64 al) ∧ w'.cell? ⟨w.heap.size, 1, none⟩ = some (.int .i64 ah) ∧ w'.cell? ⟨w.heap.size + 1, 0, none⟩ = some (.int .i64 bl) ∧ w'.cell? ⟨w.heap.size + 1, 1, none⟩ = some (.int .i64 bh) ∧ w'.cell? ⟨g5, 0, none⟩ = some (.int .i64 a1) ∧ w'.cell? ⟨g5, 1, none⟩ = some (.int .i64 a2) ∧ w'.cell? ⟨g7, 0, none⟩ = some (.int .i64 b1) ∧ w'.cell? ⟨g7, 1, none⟩ = some (.int .i64 b2) ∧ w'.cell? ⟨g9, 0, none⟩ = some (.int .i64 c1) ∧ w'.cell? ⟨g9, 1, none⟩ = some (.int .i64 c2) ∧ w'.cell? ⟨g11, 0, none⟩ = some (.int .i64 d1) ∧ w'.cell? ⟨g11, 1, none⟩ = some (.int .i64 d2) ∧ w'.cell? ⟨g13, 0, none⟩ = some (.int .i64 a1) ∧ w'.cell? ⟨g13, 1, none⟩ = some (.int .i64 a2) ∧ w'.cell? ⟨g15, 0, none⟩ = some (.int .i64 b1) ∧ w'.cell? ⟨g15, 1, none⟩ = some (.int .i64 b2) ∧ w'.cell? ⟨g17, 0, none⟩ = some (.int .i64 d1) ∧ w'.cell? ⟨g17, 1, none⟩ = some (.int .i64 d2) ∧ Env w w' [⟨g17, 23, d1, d2⟩, ⟨g15, 23, b1, b2⟩, ⟨g13, 23, a1, a2⟩, ⟨g11, 23, d1, d2⟩, ⟨g9, 23, c1, c2⟩, ⟨g7, 23, b1, b2⟩, ⟨g5, 23, a1, a2⟩, ⟨w.heap.size + 1, 23, bl, bh⟩, ⟨w.heap.size, 23, al, ah⟩])
    (first | exact kept_9 (Env.dr E ⟨1, rfl⟩) | with_reducible exact kept_9 (Env.on (by go_split_ands; assumption) hb))
    (first | (go_at_call 22; (with_reducible refine (r3 _).mono ?_); rintro e w2 ⟨rfl, hb⟩))
  all_goals rename_i hH
  all_goals have Z := hH.2.2.2.2.2.2.2.2.2.2.2.2.2.2.2.2.2.2.1
  all_goals clear hH
  all_goals go_wp2
  all_goals go_ret
  all_goals exact ⟨by first | rfl | simp, Z⟩

theorem sums_walk (al ah bl bh : Int) (w : World) : Calls Try.prog 3 #[.agg #[.int .i64 al, .int .i64 ah], .agg #[.int .i64 bl, .int .i64 bh]] w (Yes w) := by
  cases hA : sB al ah
  · exact sums_bad_a al ah bl bh (sB bl bh) w hA rfl
  · cases hB : sB bl bh
    · exact sums_bad_b al ah bl bh true w hA hB
    · exact sums_ok al ah bl bh _ _ _ _ _ _ _ _ _ _ _ w (sB_t.1 hA) (sB_t.1 hB) (pr3 _) (pr3 _) rfl rfl (pr3 _)

end Go.Proofs.Ytplepbaafamjfaa
