/- SpanSums: what is kept; walks. -/
import Derived.Test.YtplepbaafamjfaaV24
namespace Go.Proofs.Ytplepbaafamjfaa
open Go.ChangeShapes Go.WideShapes Go.ChangeAt Go.RowKit
set_option linter.unusedVariables false
set_option linter.unusedSimpArgs false

theorem kept_ab {w0 w : World} {x1 x2 x3 x4 : Fb} {al ah bl bh : Int} (h : Env w0 w [x4, x3, x2, x1, ⟨w0.heap.size + 1, 23, bl, bh⟩, ⟨w0.heap.size, 23, al, ah⟩]) : w.cell? ⟨w0.heap.size, 0, none⟩ = some (.int .i64 al) ∧ w.cell? ⟨w0.heap.size, 1, none⟩ = some (.int .i64 ah) ∧ w.cell? ⟨w0.heap.size + 1, 0, none⟩ = some (.int .i64 bl) ∧ w.cell? ⟨w0.heap.size + 1, 1, none⟩ = some (.int .i64 bh) ∧ Env w0 w [x4, x3, x2, x1, ⟨w0.heap.size + 1, 23, bl, bh⟩, ⟨w0.heap.size, 23, al, ah⟩] :=
  ⟨h.cells.2.2.2.2.2.1.1, h.cells.2.2.2.2.2.1.2.1, h.cells.2.2.2.2.1.1, h.cells.2.2.2.2.1.2.1, h⟩
theorem hWr (x y e : Int) (b : Bool) (h : wrongB x y e = b) (w : World) : Calls Try.prog 18 #[.agg #[.int .i64 x, .int .i64 y], .int .i64 e] w fun r w' => r = .returned (.bool b) ∧ Below w.heap.size w w' := by
  subst h; exact wrong_any x y e w
theorem kept_9 {w0 w : World} {g5 g7 g9 g11 g13 g15 g17 : Nat} {a1 a2 b1 b2 c1 c2 d1 d2 e1 e2 f1 f2 h1 h2 al ah bl bh : Int} (h : Env w0 w [⟨g17, 23, h1, h2⟩, ⟨g15, 23, f1, f2⟩, ⟨g13, 23, e1, e2⟩, ⟨g11, 23, d1, d2⟩, ⟨g9, 23, c1, c2⟩, ⟨g7, 23, b1, b2⟩, ⟨g5, 23, a1, a2⟩, ⟨w0.heap.size + 1, 23, bl, bh⟩, ⟨w0.heap.size, 23, al, ah⟩]) : w.cell? ⟨w0.heap.size, 0, none⟩ = some (.int .i64 al) ∧ w.cell? ⟨w0.heap.size, 1, none⟩ = some (.int .i64 ah) ∧ w.cell? ⟨w0.heap.size + 1, 0, none⟩ = some (.int .i64 bl) ∧ w.cell? ⟨w0.heap.size + 1, 1, none⟩ = some (.int .i64 bh) ∧ w.cell? ⟨g5, 0, none⟩ = some (.int .i64 a1) ∧ w.cell? ⟨g5, 1, none⟩ = some (.int .i64 a2) ∧ w.cell? ⟨g7, 0, none⟩ = some (.int .i64 b1) ∧ w.cell? ⟨g7, 1, none⟩ = some (.int .i64 b2) ∧ w.cell? ⟨g9, 0, none⟩ = some (.int .i64 c1) ∧ w.cell? ⟨g9, 1, none⟩ = some (.int .i64 c2) ∧ w.cell? ⟨g11, 0, none⟩ = some (.int .i64 d1) ∧ w.cell? ⟨g11, 1, none⟩ = some (.int .i64 d2) ∧ w.cell? ⟨g13, 0, none⟩ = some (.int .i64 e1) ∧ w.cell? ⟨g13, 1, none⟩ = some (.int .i64 e2) ∧ w.cell? ⟨g15, 0, none⟩ = some (.int .i64 f1) ∧ w.cell? ⟨g15, 1, none⟩ = some (.int .i64 f2) ∧ w.cell? ⟨g17, 0, none⟩ = some (.int .i64 h1) ∧ w.cell? ⟨g17, 1, none⟩ = some (.int .i64 h2) ∧ Env w0 w [⟨g17, 23, h1, h2⟩, ⟨g15, 23, f1, f2⟩, ⟨g13, 23, e1, e2⟩, ⟨g11, 23, d1, d2⟩, ⟨g9, 23, c1, c2⟩, ⟨g7, 23, b1, b2⟩, ⟨g5, 23, a1, a2⟩, ⟨w0.heap.size + 1, 23, bl, bh⟩, ⟨w0.heap.size, 23, al, ah⟩] :=
  ⟨h.cells.2.2.2.2.2.2.2.2.1.1, h.cells.2.2.2.2.2.2.2.2.1.2.1, h.cells.2.2.2.2.2.2.2.1.1, h.cells.2.2.2.2.2.2.2.1.2.1, h.cells.2.2.2.2.2.2.1.1, h.cells.2.2.2.2.2.2.1.2.1, h.cells.2.2.2.2.2.1.1, h.cells.2.2.2.2.2.1.2.1, h.cells.2.2.2.2.1.1, h.cells.2.2.2.2.1.2.1, h.cells.2.2.2.1.1, h.cells.2.2.2.1.2.1, h.cells.2.2.1.1, h.cells.2.2.1.2.1, h.cells.2.1.1, h.cells.2.1.2.1, h.cells.1.1, h.cells.1.2.1, h⟩

set_option maxRecDepth 100000 in
set_option maxHeartbeats 8000000 in
theorem sums_bad_a (al ah bl bh : Int) (b : Bool) (w : World) (hA : sB al ah = false) (hB : sB bl bh = b) :
    Calls Try.prog 3 #[.agg #[.int .i64 al, .int .i64 ah], .agg #[.int .i64 bl, .int .i64 bh]] w (Yes w) := by
  have ho : ok2 al ah bl bh = false := by unfold ok2; rw [hA]; rfl
  have f1 := fun W => hRa al ah bl bh 0 0 1 (by unfold addR; rw [ho]; rfl) W
  have f2 := fun W => hRs al ah bl bh 0 0 1 (by unfold subR; rw [ho]; rfl) W
  have f3 := fun W => hRh al ah bl bh 0 0 1 (by unfold hullR; rw [ho]; rfl) W
  have f4 := fun W => hRm al ah bl bh 0 0 1 (by unfold meetR; rw [ho]; rfl) W
  have f5 := fun W => hWr 0 0 1 true rfl W
  clear ho
  go_enter Try.func3, Try.ntmps3
  go_wp2_with (first | (go_at_call 11; refine (awake_any _).mono ?_; rintro e w0 ⟨rfl, hb⟩; have E := (env_two w al ah bl bh 23 23).on hb; have C := E.cells; simp only [BC] at C; clear hb) | (go_at_call 17; refine (rsvalid_any _ _ _).mono ?_; first | (rw [hA]; rintro e w1 ⟨rfl, hb⟩; replace E := E.on hb; replace C := E.cells; simp only [BC] at C; clear hb) | (rw [hB]; rintro e w1 ⟨rfl, hb⟩; replace E := E.on hb; replace C := E.cells; simp only [BC] at C; clear hb)) | (go_at_call 12; ((with_reducible refine (f1 _).mono ?_); rintro e wa ⟨rfl, hb⟩; replace E := (E.on hb).add 0 0 23; replace C := E.cells; simp only [BC] at C; clear hb)) | (go_at_call 13; ((with_reducible refine (f2 _).mono ?_); rintro e wb ⟨rfl, hb⟩; replace E := (E.on hb).add 0 0 23; replace C := E.cells; simp only [BC] at C; clear hb)) | (go_at_call 14; ((with_reducible refine (f3 _).mono ?_); rintro e wc ⟨rfl, hb⟩; replace E := (E.on hb).add 0 0 23; replace C := E.cells; simp only [BC] at C; clear hb)) | (go_at_call 15; ((with_reducible refine (f4 _).mono ?_); rintro e wd ⟨rfl, hb⟩; replace E := (E.on hb).add 0 0 23; replace C := E.cells; simp only [BC] at C; clear hb)))
  go_region_held3 (fun w' => w'.cell? ⟨w.heap.size, 0, none⟩ = some (.int .i64 al) ∧ w'.cell? ⟨w.heap.size, 1, none⟩ = some (.int .i64 ah) ∧ w'.cell? ⟨w.heap.size + 1, 0, none⟩ = some (.int .i64 bl) ∧ w'.cell? ⟨w.heap.size + 1, 1, none⟩ = some (.int .i64 bh) ∧ Env w w' [⟨wd.heap.size, 23, 0, 0⟩, ⟨wc.heap.size, 23, 0, 0⟩, ⟨wb.heap.size, 23, 0, 0⟩, ⟨wa.heap.size, 23, 0, 0⟩, ⟨w.heap.size + 1, 23, bl, bh⟩, ⟨w.heap.size, 23, al, ah⟩])
    (first | exact kept_ab (Env.dr E ⟨1, rfl⟩) | with_reducible exact kept_ab (Env.on (by go_split_ands; assumption) hb))
    (first | (go_at_call 16; refine (svalid_any _ _ _).mono ?_; first | (rw [hA]; rintro e w2 ⟨rfl, hb⟩) | (rw [hB]; rintro e w2 ⟨rfl, hb⟩)) | (go_at_call 17; refine (rsvalid_any _ _ _).mono ?_; first | (rw [hA]; rintro e w2 ⟨rfl, hb⟩) | (rw [hB]; rintro e w2 ⟨rfl, hb⟩)))
  rename_i hH
  replace E := hH.2.2.2.2
  clear hH
  replace C := E.cells
  simp only [BC] at C
  go_wp2_with (first | (go_at_call 17; refine (rsvalid_any _ _ _).mono ?_; first | (rw [hA]; rintro e w1 ⟨rfl, hb⟩; replace E := E.on hb; replace C := E.cells; simp only [BC] at C; clear hb) | (rw [hB]; rintro e w1 ⟨rfl, hb⟩; replace E := E.on hb; replace C := E.cells; simp only [BC] at C; clear hb)) | (go_at_call 18; ((with_reducible refine (f5 _).mono ?_); rintro e w9 ⟨rfl, hb⟩; replace E := E.on hb; replace C := E.cells; simp only [BC] at C; clear hb)))
  all_goals go_ret
  all_goals exact ⟨by first | rfl | simp_all, E.1⟩

set_option maxRecDepth 100000 in
set_option maxHeartbeats 8000000 in
theorem sums_bad_b (al ah bl bh : Int) (b : Bool) (w : World) (hA : sB al ah = true) (hB : sB bl bh = false) :
    Calls Try.prog 3 #[.agg #[.int .i64 al, .int .i64 ah], .agg #[.int .i64 bl, .int .i64 bh]] w (Yes w) := by
  have ho : ok2 al ah bl bh = false := by unfold ok2; rw [hA, hB]; rfl
  have f1 := fun W => hRa al ah bl bh 0 0 1 (by unfold addR; rw [ho]; rfl) W
  have f2 := fun W => hRs al ah bl bh 0 0 1 (by unfold subR; rw [ho]; rfl) W
  have f3 := fun W => hRh al ah bl bh 0 0 1 (by unfold hullR; rw [ho]; rfl) W
  have f4 := fun W => hRm al ah bl bh 0 0 1 (by unfold meetR; rw [ho]; rfl) W
  have f5 := fun W => hWr 0 0 1 true rfl W
  clear ho
  go_enter Try.func3, Try.ntmps3
  go_wp2_with (first | (go_at_call 11; refine (awake_any _).mono ?_; rintro e w0 ⟨rfl, hb⟩; have E := (env_two w al ah bl bh 23 23).on hb; have C := E.cells; simp only [BC] at C; clear hb) | (go_at_call 17; refine (rsvalid_any _ _ _).mono ?_; first | (rw [hA]; rintro e w1 ⟨rfl, hb⟩; replace E := E.on hb; replace C := E.cells; simp only [BC] at C; clear hb) | (rw [hB]; rintro e w1 ⟨rfl, hb⟩; replace E := E.on hb; replace C := E.cells; simp only [BC] at C; clear hb)) | (go_at_call 12; ((with_reducible refine (f1 _).mono ?_); rintro e wa ⟨rfl, hb⟩; replace E := (E.on hb).add 0 0 23; replace C := E.cells; simp only [BC] at C; clear hb)) | (go_at_call 13; ((with_reducible refine (f2 _).mono ?_); rintro e wb ⟨rfl, hb⟩; replace E := (E.on hb).add 0 0 23; replace C := E.cells; simp only [BC] at C; clear hb)) | (go_at_call 14; ((with_reducible refine (f3 _).mono ?_); rintro e wc ⟨rfl, hb⟩; replace E := (E.on hb).add 0 0 23; replace C := E.cells; simp only [BC] at C; clear hb)) | (go_at_call 15; ((with_reducible refine (f4 _).mono ?_); rintro e wd ⟨rfl, hb⟩; replace E := (E.on hb).add 0 0 23; replace C := E.cells; simp only [BC] at C; clear hb)))
  go_region_held3 (fun w' => w'.cell? ⟨w.heap.size, 0, none⟩ = some (.int .i64 al) ∧ w'.cell? ⟨w.heap.size, 1, none⟩ = some (.int .i64 ah) ∧ w'.cell? ⟨w.heap.size + 1, 0, none⟩ = some (.int .i64 bl) ∧ w'.cell? ⟨w.heap.size + 1, 1, none⟩ = some (.int .i64 bh) ∧ Env w w' [⟨wd.heap.size, 23, 0, 0⟩, ⟨wc.heap.size, 23, 0, 0⟩, ⟨wb.heap.size, 23, 0, 0⟩, ⟨wa.heap.size, 23, 0, 0⟩, ⟨w.heap.size + 1, 23, bl, bh⟩, ⟨w.heap.size, 23, al, ah⟩])
    (first | exact kept_ab (Env.dr E ⟨1, rfl⟩) | with_reducible exact kept_ab (Env.on (by go_split_ands; assumption) hb))
    (first | (go_at_call 16; refine (svalid_any _ _ _).mono ?_; first | (rw [hA]; rintro e w2 ⟨rfl, hb⟩) | (rw [hB]; rintro e w2 ⟨rfl, hb⟩)) | (go_at_call 17; refine (rsvalid_any _ _ _).mono ?_; first | (rw [hA]; rintro e w2 ⟨rfl, hb⟩) | (rw [hB]; rintro e w2 ⟨rfl, hb⟩)))
  rename_i hH
  replace E := hH.2.2.2.2
  clear hH
  replace C := E.cells
  simp only [BC] at C
  go_wp2_with (first | (go_at_call 17; refine (rsvalid_any _ _ _).mono ?_; first | (rw [hA]; rintro e w1 ⟨rfl, hb⟩; replace E := E.on hb; replace C := E.cells; simp only [BC] at C; clear hb) | (rw [hB]; rintro e w1 ⟨rfl, hb⟩; replace E := E.on hb; replace C := E.cells; simp only [BC] at C; clear hb)) | (go_at_call 18; ((with_reducible refine (f5 _).mono ?_); rintro e w9 ⟨rfl, hb⟩; replace E := E.on hb; replace C := E.cells; simp only [BC] at C; clear hb)))
  all_goals go_ret
  all_goals exact ⟨by first | rfl | simp_all, E.1⟩

end Go.Proofs.Ytplepbaafamjfaa
