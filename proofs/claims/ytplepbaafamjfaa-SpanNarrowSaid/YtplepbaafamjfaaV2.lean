/- Contracts of span: Add, Sub, Meet. -/
import Derived.Test.YtplepbaafamjfaaV1
namespace Go.Proofs.Ytplepbaafamjfaa
open Go.ChangeShapes Go.WideShapes Go.ChangeAt Go.RowKit
set_option linter.unusedVariables false
set_option linter.unusedSimpArgs false

/-- Both spans valid. -/
def ok2 (al ah bl bh : Int) : Bool := sB al ah && sB bl bh
def addR (al ah bl bh : Int) : Int × Int × Int := if ok2 al ah bl bh then addS al ah bl bh else (0, 0, 1)
def subR (al ah bl bh : Int) : Int × Int × Int := if ok2 al ah bl bh then subS al ah bl bh else (0, 0, 1)
def mulR (al ah bl bh : Int) : Int × Int × Int := if ok2 al ah bl bh then mulS al ah bl bh else (0, 0, 1)
def divR (al ah bl bh : Int) : Int × Int × Int := if ok2 al ah bl bh then (if bl ≤ 0 ∧ 0 ≤ bh then (0, 0, 16) else divS al ah bl bh) else (0, 0, 1)
def hullR (al ah bl bh : Int) : Int × Int × Int := if ok2 al ah bl bh then (mn al bl, mx ah bh, 0) else (0, 0, 1)
def meetR (al ah bl bh : Int) : Int × Int × Int := if ok2 al ah bl bh then (if mn ah bh < mx al bl then (0, 0, 12) else (mx al bl, mn ah bh, 0)) else (0, 0, 1)

theorem sadd_bad (al ah bl bh : Int) (w : World) (hv : ok2 al ah bl bh = false) :
    Calls Try.prog 12 #[.agg #[.int .i64 al, .int .i64 ah], .agg #[.int .i64 bl, .int .i64 bh]] w fun e w' => e = .returned (.tuple #[.agg #[.int .i64 0, .int .i64 0], .int .i64 1]) ∧ Below w.heap.size w w' := by
  unfold ok2 at hv
  cases hA : sB al ah
  · clear hv
    go_enter Try.func12, Try.ntmps12
    go_wp2_with (go_at_call 16; refine (svalid_any _ _ _).mono ?_; rw [hA]; rintro e w1 ⟨rfl, hb⟩; have E := (env_three w al ah bl bh 0 0 23 23 23).on hb; have C := E.cells; simp only [BC] at C; clear hb)
    refine bodyPost_ret (v := .tuple #[.agg #[.int .i64 0, .int .i64 0], .int .i64 1]) (by simp [results, Try.results12, go_sem, C]) rfl ⟨rfl, ?_⟩
    exact (E.1.setCell (by simp; omega) _).setCell (by simp; omega) _
  · have hB : sB bl bh = false := by rw [hA] at hv; simpa using hv
    clear hv
    go_enter Try.func12, Try.ntmps12
    go_wp2_with (first | (go_at_call 16; refine (svalid_any _ _ _).mono ?_; first | (rw [hA]; rintro e w1 ⟨rfl, hb⟩; have E := (env_three w al ah bl bh 0 0 23 23 23).on hb; have C := E.cells; simp only [BC] at C; clear hb) | (rw [hB]; rintro e w2 ⟨rfl, hb⟩; replace E := E.on hb; replace C := E.cells; simp only [BC] at C; clear hb)))
    refine bodyPost_ret (v := .tuple #[.agg #[.int .i64 0, .int .i64 0], .int .i64 1]) (by simp [results, Try.results12, go_sem, C]) rfl ⟨rfl, ?_⟩
    exact (E.1.setCell (by simp; omega) _).setCell (by simp; omega) _

theorem ssub_bad (al ah bl bh : Int) (w : World) (hv : ok2 al ah bl bh = false) :
    Calls Try.prog 13 #[.agg #[.int .i64 al, .int .i64 ah], .agg #[.int .i64 bl, .int .i64 bh]] w fun e w' => e = .returned (.tuple #[.agg #[.int .i64 0, .int .i64 0], .int .i64 1]) ∧ Below w.heap.size w w' := by
  unfold ok2 at hv
  cases hA : sB al ah
  · clear hv
    go_enter Try.func13, Try.ntmps13
    go_wp2_with (go_at_call 16; refine (svalid_any _ _ _).mono ?_; rw [hA]; rintro e w1 ⟨rfl, hb⟩; have E := (env_three w al ah bl bh 0 0 23 23 23).on hb; have C := E.cells; simp only [BC] at C; clear hb)
    refine bodyPost_ret (v := .tuple #[.agg #[.int .i64 0, .int .i64 0], .int .i64 1]) (by simp [results, Try.results13, go_sem, C]) rfl ⟨rfl, ?_⟩
    exact (E.1.setCell (by simp; omega) _).setCell (by simp; omega) _
  · have hB : sB bl bh = false := by rw [hA] at hv; simpa using hv
    clear hv
    go_enter Try.func13, Try.ntmps13
    go_wp2_with (first | (go_at_call 16; refine (svalid_any _ _ _).mono ?_; first | (rw [hA]; rintro e w1 ⟨rfl, hb⟩; have E := (env_three w al ah bl bh 0 0 23 23 23).on hb; have C := E.cells; simp only [BC] at C; clear hb) | (rw [hB]; rintro e w2 ⟨rfl, hb⟩; replace E := E.on hb; replace C := E.cells; simp only [BC] at C; clear hb)))
    refine bodyPost_ret (v := .tuple #[.agg #[.int .i64 0, .int .i64 0], .int .i64 1]) (by simp [results, Try.results13, go_sem, C]) rfl ⟨rfl, ?_⟩
    exact (E.1.setCell (by simp; omega) _).setCell (by simp; omega) _

theorem hull_bad (al ah bl bh : Int) (w : World) (hv : ok2 al ah bl bh = false) :
    Calls Try.prog 14 #[.agg #[.int .i64 al, .int .i64 ah], .agg #[.int .i64 bl, .int .i64 bh]] w fun e w' => e = .returned (.tuple #[.agg #[.int .i64 0, .int .i64 0], .int .i64 1]) ∧ Below w.heap.size w w' := by
  unfold ok2 at hv
  cases hA : sB al ah
  · clear hv
    go_enter Try.func14, Try.ntmps14
    go_wp2_with (go_at_call 16; refine (svalid_any _ _ _).mono ?_; rw [hA]; rintro e w1 ⟨rfl, hb⟩; have E := (env_three w al ah bl bh 0 0 23 23 23).on hb; have C := E.cells; simp only [BC] at C; clear hb)
    refine bodyPost_ret (v := .tuple #[.agg #[.int .i64 0, .int .i64 0], .int .i64 1]) (by simp [results, Try.results14, go_sem, C]) rfl ⟨rfl, ?_⟩
    exact (E.1.setCell (by simp; omega) _).setCell (by simp; omega) _
  · have hB : sB bl bh = false := by rw [hA] at hv; simpa using hv
    clear hv
    go_enter Try.func14, Try.ntmps14
    go_wp2_with (first | (go_at_call 16; refine (svalid_any _ _ _).mono ?_; first | (rw [hA]; rintro e w1 ⟨rfl, hb⟩; have E := (env_three w al ah bl bh 0 0 23 23 23).on hb; have C := E.cells; simp only [BC] at C; clear hb) | (rw [hB]; rintro e w2 ⟨rfl, hb⟩; replace E := E.on hb; replace C := E.cells; simp only [BC] at C; clear hb)))
    refine bodyPost_ret (v := .tuple #[.agg #[.int .i64 0, .int .i64 0], .int .i64 1]) (by simp [results, Try.results14, go_sem, C]) rfl ⟨rfl, ?_⟩
    exact (E.1.setCell (by simp; omega) _).setCell (by simp; omega) _

theorem meet_bad (al ah bl bh : Int) (w : World) (hv : ok2 al ah bl bh = false) :
    Calls Try.prog 15 #[.agg #[.int .i64 al, .int .i64 ah], .agg #[.int .i64 bl, .int .i64 bh]] w fun e w' => e = .returned (.tuple #[.agg #[.int .i64 0, .int .i64 0], .int .i64 1]) ∧ Below w.heap.size w w' := by
  unfold ok2 at hv
  cases hA : sB al ah
  · clear hv
    go_enter Try.func15, Try.ntmps15
    go_wp2_with (go_at_call 16; refine (svalid_any _ _ _).mono ?_; rw [hA]; rintro e w1 ⟨rfl, hb⟩; have E := (env_three w al ah bl bh 0 0 23 23 23).on hb; have C := E.cells; simp only [BC] at C; clear hb)
    refine bodyPost_ret (v := .tuple #[.agg #[.int .i64 0, .int .i64 0], .int .i64 1]) (by simp [results, Try.results15, go_sem, C]) rfl ⟨rfl, ?_⟩
    exact (E.1.setCell (by simp; omega) _).setCell (by simp; omega) _
  · have hB : sB bl bh = false := by rw [hA] at hv; simpa using hv
    clear hv
    go_enter Try.func15, Try.ntmps15
    go_wp2_with (first | (go_at_call 16; refine (svalid_any _ _ _).mono ?_; first | (rw [hA]; rintro e w1 ⟨rfl, hb⟩; have E := (env_three w al ah bl bh 0 0 23 23 23).on hb; have C := E.cells; simp only [BC] at C; clear hb) | (rw [hB]; rintro e w2 ⟨rfl, hb⟩; replace E := E.on hb; replace C := E.cells; simp only [BC] at C; clear hb)))
    refine bodyPost_ret (v := .tuple #[.agg #[.int .i64 0, .int .i64 0], .int .i64 1]) (by simp [results, Try.results15, go_sem, C]) rfl ⟨rfl, ?_⟩
    exact (E.1.setCell (by simp; omega) _).setCell (by simp; omega) _

theorem smul_bad (al ah bl bh : Int) (w : World) (hv : ok2 al ah bl bh = false) :
    Calls Try.prog 23 #[.agg #[.int .i64 al, .int .i64 ah], .agg #[.int .i64 bl, .int .i64 bh]] w fun e w' => e = .returned (.tuple #[.agg #[.int .i64 0, .int .i64 0], .int .i64 1]) ∧ Below w.heap.size w w' := by
  unfold ok2 at hv
  cases hA : sB al ah
  · clear hv
    go_enter Try.func23, Try.ntmps23
    go_wp2_with (go_at_call 16; refine (svalid_any _ _ _).mono ?_; rw [hA]; rintro e w1 ⟨rfl, hb⟩; have E := (env_three w al ah bl bh 0 0 23 23 23).on hb; have C := E.cells; simp only [BC] at C; clear hb)
    refine bodyPost_ret (v := .tuple #[.agg #[.int .i64 0, .int .i64 0], .int .i64 1]) (by simp [results, Try.results23, go_sem, C]) rfl ⟨rfl, ?_⟩
    exact (E.1.setCell (by simp; omega) _).setCell (by simp; omega) _
  · have hB : sB bl bh = false := by rw [hA] at hv; simpa using hv
    clear hv
    go_enter Try.func23, Try.ntmps23
    go_wp2_with (first | (go_at_call 16; refine (svalid_any _ _ _).mono ?_; first | (rw [hA]; rintro e w1 ⟨rfl, hb⟩; have E := (env_three w al ah bl bh 0 0 23 23 23).on hb; have C := E.cells; simp only [BC] at C; clear hb) | (rw [hB]; rintro e w2 ⟨rfl, hb⟩; replace E := E.on hb; replace C := E.cells; simp only [BC] at C; clear hb)))
    refine bodyPost_ret (v := .tuple #[.agg #[.int .i64 0, .int .i64 0], .int .i64 1]) (by simp [results, Try.results23, go_sem, C]) rfl ⟨rfl, ?_⟩
    exact (E.1.setCell (by simp; omega) _).setCell (by simp; omega) _

theorem sdiv_bad (al ah bl bh : Int) (w : World) (hv : ok2 al ah bl bh = false) :
    Calls Try.prog 24 #[.agg #[.int .i64 al, .int .i64 ah], .agg #[.int .i64 bl, .int .i64 bh]] w fun e w' => e = .returned (.tuple #[.agg #[.int .i64 0, .int .i64 0], .int .i64 1]) ∧ Below w.heap.size w w' := by
  unfold ok2 at hv
  cases hA : sB al ah
  · clear hv
    go_enter Try.func24, Try.ntmps24
    go_wp2_with (go_at_call 16; refine (svalid_any _ _ _).mono ?_; rw [hA]; rintro e w1 ⟨rfl, hb⟩; have E := (env_three w al ah bl bh 0 0 23 23 23).on hb; have C := E.cells; simp only [BC] at C; clear hb)
    refine bodyPost_ret (v := .tuple #[.agg #[.int .i64 0, .int .i64 0], .int .i64 1]) (by simp [results, Try.results24, go_sem, C]) rfl ⟨rfl, ?_⟩
    exact (E.1.setCell (by simp; omega) _).setCell (by simp; omega) _
  · have hB : sB bl bh = false := by rw [hA] at hv; simpa using hv
    clear hv
    go_enter Try.func24, Try.ntmps24
    go_wp2_with (first | (go_at_call 16; refine (svalid_any _ _ _).mono ?_; first | (rw [hA]; rintro e w1 ⟨rfl, hb⟩; have E := (env_three w al ah bl bh 0 0 23 23 23).on hb; have C := E.cells; simp only [BC] at C; clear hb) | (rw [hB]; rintro e w2 ⟨rfl, hb⟩; replace E := E.on hb; replace C := E.cells; simp only [BC] at C; clear hb)))
    refine bodyPost_ret (v := .tuple #[.agg #[.int .i64 0, .int .i64 0], .int .i64 1]) (by simp [results, Try.results24, go_sem, C]) rfl ⟨rfl, ?_⟩
    exact (E.1.setCell (by simp; omega) _).setCell (by simp; omega) _

theorem sadd_ok (al ah bl bh : Int) (w : World) (va : SV al ah) (vb : SV bl bh) {x y e0 : Int} (hr : addS al ah bl bh = (x, y, e0)) :
    Calls Try.prog 12 #[.agg #[.int .i64 al, .int .i64 ah], .agg #[.int .i64 bl, .int .i64 bh]] w fun e w' => e = .returned (.tuple #[.agg #[.int .i64 x, .int .i64 y], .int .i64 e0]) ∧ Below w.heap.size w w' := by
  have hA := sB_t.2 va
  have hB := sB_t.2 vb
  obtain ⟨a1, a2, a3⟩ := va
  obtain ⟨b1, b2, b3⟩ := vb
  have W1 : IntKind.i64.wrap (al + bl) = al + bl := IntWalk.i64_in _ (by omega)
  have W2 : IntKind.i64.wrap (ah + bh) = ah + bh := IntWalk.i64_in _ (by omega)
  have hF := fun w => sfit_any (al + bl) (ah + bh) w hr
  clear hr
  go_enter Try.func12, Try.ntmps12
  go_wp2_with (first | (go_at_call 16; refine (svalid_any _ _ _).mono ?_; first | (rw [hA]; rintro e w1 ⟨rfl, hb⟩; have E := (env_three w al ah bl bh 0 0 23 23 23).on hb; have C := E.cells; simp only [BC] at C; clear hb) | (rw [hB]; rintro e w2 ⟨rfl, hb⟩; replace E := E.on hb; replace C := E.cells; simp only [BC] at C; clear hb)) | (go_at_call 45; refine (hF _).mono ?_; rintro e w3 ⟨rfl, hb⟩; replace E := E.on hb; replace C := E.cells; simp only [BC] at C; clear hb))
  refine bodyPost_ret (v := .tuple #[.agg #[.int .i64 x, .int .i64 y], .int .i64 e0]) (by simp [results, Try.results12, go_sem, C]) rfl ⟨rfl, ?_⟩
  exact (E.1.setCell (by simp; omega) _).setCell (by simp; omega) _

theorem ssub_ok (al ah bl bh : Int) (w : World) (va : SV al ah) (vb : SV bl bh) {x y e0 : Int} (hr : subS al ah bl bh = (x, y, e0)) :
    Calls Try.prog 13 #[.agg #[.int .i64 al, .int .i64 ah], .agg #[.int .i64 bl, .int .i64 bh]] w fun e w' => e = .returned (.tuple #[.agg #[.int .i64 x, .int .i64 y], .int .i64 e0]) ∧ Below w.heap.size w w' := by
  have hA := sB_t.2 va
  have hB := sB_t.2 vb
  obtain ⟨a1, a2, a3⟩ := va
  obtain ⟨b1, b2, b3⟩ := vb
  have W1 : IntKind.i64.wrap (al - bh) = al - bh := IntWalk.i64_in _ (by omega)
  have W2 : IntKind.i64.wrap (ah - bl) = ah - bl := IntWalk.i64_in _ (by omega)
  have hF := fun w => sfit_any (al - bh) (ah - bl) w hr
  clear hr
  go_enter Try.func13, Try.ntmps13
  go_wp2_with (first | (go_at_call 16; refine (svalid_any _ _ _).mono ?_; first | (rw [hA]; rintro e w1 ⟨rfl, hb⟩; have E := (env_three w al ah bl bh 0 0 23 23 23).on hb; have C := E.cells; simp only [BC] at C; clear hb) | (rw [hB]; rintro e w2 ⟨rfl, hb⟩; replace E := E.on hb; replace C := E.cells; simp only [BC] at C; clear hb)) | (go_at_call 45; refine (hF _).mono ?_; rintro e w3 ⟨rfl, hb⟩; replace E := E.on hb; replace C := E.cells; simp only [BC] at C; clear hb))
  refine bodyPost_ret (v := .tuple #[.agg #[.int .i64 x, .int .i64 y], .int .i64 e0]) (by simp [results, Try.results13, go_sem, C]) rfl ⟨rfl, ?_⟩
  exact (E.1.setCell (by simp; omega) _).setCell (by simp; omega) _
end Go.Proofs.Ytplepbaafamjfaa
