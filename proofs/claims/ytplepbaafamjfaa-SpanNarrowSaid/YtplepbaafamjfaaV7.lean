/- The contracts of corners and of its two functions. -/
import Derived.Test.YtplepbaafamjfaaV6
namespace Go.Proofs.Ytplepbaafamjfaa
open Go.ChangeShapes Go.WideShapes Go.ChangeAt Go.RowKit
set_option linter.unusedVariables false
set_option linter.unusedSimpArgs false

theorem clo_mul (x y : Int) (w : World) (x1 : -1152921504606846976 ≤ x) (x2 : x ≤ 1152921504606846976) (y1 : -1152921504606846976 ≤ y) (y2 : y ≤ 1152921504606846976) :
    Calls Try.prog 51 #[.int .i64 x, .int .i64 y] w fun e w' => e = .returned (.agg #[.int .i64 (sLo x y 1), .int .i64 (sHi x y 1)]) ∧ Below w.heap.size w w' := by
  have hF := fun W => scaled_any x y 1 W x1 x2 y1 y2 (by omega) (by omega) (by omega)
  generalize sLo x y 1 = l at *
  generalize sHi x y 1 = h at *
  go_enter Try.func51, Try.ntmps51
  go_wp2_with (go_at_call 52; refine (hF _).mono ?_; rintro e w1 ⟨rfl, hb⟩; have E := (env_one w 0 0 23).on hb; have C := E.cells; simp only [BC] at C; clear hb)
  refine bodyPost_ret (v := .agg #[.int .i64 l, .int .i64 h]) (by simp [results, Try.results51, go_sem, C]) rfl ⟨rfl, ?_⟩
  exact (E.1.setCell (by simp) _).setCell (by simp) _
theorem clo_div (x y : Int) (w : World) (x1 : -1152921504606846976 ≤ x) (x2 : x ≤ 1152921504606846976) (y1 : -1152921504606846976 ≤ y) (y2 : y ≤ 1152921504606846976) (y0 : y ≠ 0) :
    Calls Try.prog 53 #[.int .i64 x, .int .i64 y] w fun e w' => e = .returned (.agg #[.int .i64 (sLo x 1 y), .int .i64 (sHi x 1 y)]) ∧ Below w.heap.size w w' := by
  have hF := fun W => scaled_any x 1 y W x1 x2 (by omega) (by omega) y1 y2 y0
  generalize sLo x 1 y = l at *
  generalize sHi x 1 y = h at *
  go_enter Try.func53, Try.ntmps53
  go_wp2_with (go_at_call 52; refine (hF _).mono ?_; rintro e w1 ⟨rfl, hb⟩; have E := (env_one w 0 0 23).on hb; have C := E.cells; simp only [BC] at C; clear hb)
  refine bodyPost_ret (v := .agg #[.int .i64 l, .int .i64 h]) (by simp [results, Try.results53, go_sem, C]) rfl ⟨rfl, ?_⟩
  exact (E.1.setCell (by simp) _).setCell (by simp) _

/-- The arguments' blocks, and the array's, which holds eight cells. -/
def Oct (w0 w : World) (al ah bl bh : Int) : Prop :=
  Env w0 w [⟨w0.heap.size + 1, 23, bl, bh⟩, ⟨w0.heap.size, 23, al, ah⟩] ∧ ∃ c0 c1 c2 c3 c4 c5 c6 c7 : Value, Has w (w0.heap.size + 1 + 1) 63 #[c0, c1, c2, c3, c4, c5, c6, c7]
theorem oct_start (w : World) (al ah bl bh : Int) : Oct w (((w.alloc (.cells #[.int .i64 al, .int .i64 ah] 23)).alloc (.cells #[.int .i64 bl, .int .i64 bh] 23)).alloc (.cells #[.int .i64 0, .int .i64 0, .int .i64 0, .int .i64 0, .int .i64 0, .int .i64 0, .int .i64 0, .int .i64 0] 63)) al ah bl bh := by
  refine ⟨(env_two w al ah bl bh 23 23).more _, .int .i64 0, .int .i64 0, .int .i64 0, .int .i64 0, .int .i64 0, .int .i64 0, .int .i64 0, .int .i64 0, ?_⟩
  have s1 : ((w.alloc (.cells #[.int .i64 al, .int .i64 ah] 23)).alloc (.cells #[.int .i64 bl, .int .i64 bh] 23)).heap.size = w.heap.size + 1 + 1 := by simp
  have h := Has.new_ ((w.alloc (.cells #[.int .i64 al, .int .i64 ah] 23)).alloc (.cells #[.int .i64 bl, .int .i64 bh] 23)) 63 #[.int .i64 0, .int .i64 0, .int .i64 0, .int .i64 0, .int .i64 0, .int .i64 0, .int .i64 0, .int .i64 0]
  rw [s1] at h; exact h
theorem Oct.next {w0 w w1 : World} {al ah bl bh : Int} (h : Oct w0 w al ah bl bh) (hb : Below w.heap.size w w1) : Oct w0 w1 al ah bl bh := by
  obtain ⟨h1, c0, c1, c2, c3, c4, c5, c6, c7, h2⟩ := h
  exact ⟨h1.on hb, c0, c1, c2, c3, c4, c5, c6, c7, h2.on hb⟩
theorem Oct.drew {w0 w : World} {al ah bl bh : Int} (h : Oct w0 w al ah bl bh) : Oct w0 w.drew al ah bl bh := h.next (Dr.below' ⟨1, rfl⟩)
theorem Has.put' {w : World} {g : Nat} {t : TypeId} {cs ds : Array Value} (h : Has w g t cs) (i : Nat) (x : Value) (e : cs.setIfInBounds i x = ds) : Has (w.setCell ⟨g, i, none⟩ x) g t ds := e ▸ h.put_ i x
theorem Has.set8 {w : World} {g : Nat} {t : TypeId} {c0 c1 c2 c3 c4 c5 c6 c7 : Value} (h : Has w g t #[c0, c1, c2, c3, c4, c5, c6, c7]) (x0 x1 x2 x3 x4 x5 x6 x7 : Value) : Has ((((((((w.setCell ⟨g, 0, none⟩ x0).setCell ⟨g, 1, none⟩ x1).setCell ⟨g, 2, none⟩ x2).setCell ⟨g, 3, none⟩ x3).setCell ⟨g, 4, none⟩ x4).setCell ⟨g, 5, none⟩ x5).setCell ⟨g, 6, none⟩ x6).setCell ⟨g, 7, none⟩ x7) g t #[x0, x1, x2, x3, x4, x5, x6, x7] := by
  have k0 : Has (w.setCell ⟨g, 0, none⟩ x0) g t #[x0, c1, c2, c3, c4, c5, c6, c7] := h.put' 0 x0 rfl
  have k1 : Has ((w.setCell ⟨g, 0, none⟩ x0).setCell ⟨g, 1, none⟩ x1) g t #[x0, x1, c2, c3, c4, c5, c6, c7] := k0.put' 1 x1 rfl
  have k2 : Has (((w.setCell ⟨g, 0, none⟩ x0).setCell ⟨g, 1, none⟩ x1).setCell ⟨g, 2, none⟩ x2) g t #[x0, x1, x2, c3, c4, c5, c6, c7] := k1.put' 2 x2 rfl
  have k3 : Has ((((w.setCell ⟨g, 0, none⟩ x0).setCell ⟨g, 1, none⟩ x1).setCell ⟨g, 2, none⟩ x2).setCell ⟨g, 3, none⟩ x3) g t #[x0, x1, x2, x3, c4, c5, c6, c7] := k2.put' 3 x3 rfl
  have k4 : Has (((((w.setCell ⟨g, 0, none⟩ x0).setCell ⟨g, 1, none⟩ x1).setCell ⟨g, 2, none⟩ x2).setCell ⟨g, 3, none⟩ x3).setCell ⟨g, 4, none⟩ x4) g t #[x0, x1, x2, x3, x4, c5, c6, c7] := k3.put' 4 x4 rfl
  have k5 : Has ((((((w.setCell ⟨g, 0, none⟩ x0).setCell ⟨g, 1, none⟩ x1).setCell ⟨g, 2, none⟩ x2).setCell ⟨g, 3, none⟩ x3).setCell ⟨g, 4, none⟩ x4).setCell ⟨g, 5, none⟩ x5) g t #[x0, x1, x2, x3, x4, x5, c6, c7] := k4.put' 5 x5 rfl
  have k6 : Has (((((((w.setCell ⟨g, 0, none⟩ x0).setCell ⟨g, 1, none⟩ x1).setCell ⟨g, 2, none⟩ x2).setCell ⟨g, 3, none⟩ x3).setCell ⟨g, 4, none⟩ x4).setCell ⟨g, 5, none⟩ x5).setCell ⟨g, 6, none⟩ x6) g t #[x0, x1, x2, x3, x4, x5, x6, c7] := k5.put' 6 x6 rfl
  have k7 : Has ((((((((w.setCell ⟨g, 0, none⟩ x0).setCell ⟨g, 1, none⟩ x1).setCell ⟨g, 2, none⟩ x2).setCell ⟨g, 3, none⟩ x3).setCell ⟨g, 4, none⟩ x4).setCell ⟨g, 5, none⟩ x5).setCell ⟨g, 6, none⟩ x6).setCell ⟨g, 7, none⟩ x7) g t #[x0, x1, x2, x3, x4, x5, x6, x7] := k6.put' 7 x7 rfl
  exact k7
theorem Env.set_ {w0 w : World} {l : List Fb} (h : Env w0 w l) (g i : Nat) (v : Value) (hg : w0.heap.size ≤ g) (hf : ∀ x ∈ l, x.g ≠ g) : Env w0 (w.setCell ⟨g, i, none⟩ v) l :=
  ⟨h.1.setCell hg _, by
    have k := h.2
    clear h
    induction l with
    | nil => trivial
    | cons x l ih => exact ⟨k.1.apart_ (hf x List.mem_cons_self) _, ih (fun y hy => hf y (List.mem_cons_of_mem _ hy)) k.2⟩⟩
theorem Oct.far {w0 : World} {al ah bl bh : Int} : ∀ x ∈ ([⟨w0.heap.size + 1, 23, bl, bh⟩, ⟨w0.heap.size, 23, al, ah⟩] : List Fb), x.g ≠ w0.heap.size + 1 + 1 := by
  intro x hx
  simp at hx
  rcases hx with rfl | rfl
  · show w0.heap.size + 1 ≠ w0.heap.size + 1 + 1; omega
  · show w0.heap.size ≠ w0.heap.size + 1 + 1; omega
theorem Oct.set8 {w0 w : World} {al ah bl bh : Int} (h : Oct w0 w al ah bl bh) (x0 x1 x2 x3 x4 x5 x6 x7 : Value) : Oct w0 ((((((((w.setCell ⟨w0.heap.size + 1 + 1, 0, none⟩ x0).setCell ⟨w0.heap.size + 1 + 1, 1, none⟩ x1).setCell ⟨w0.heap.size + 1 + 1, 2, none⟩ x2).setCell ⟨w0.heap.size + 1 + 1, 3, none⟩ x3).setCell ⟨w0.heap.size + 1 + 1, 4, none⟩ x4).setCell ⟨w0.heap.size + 1 + 1, 5, none⟩ x5).setCell ⟨w0.heap.size + 1 + 1, 6, none⟩ x6).setCell ⟨w0.heap.size + 1 + 1, 7, none⟩ x7) al ah bl bh := by
  obtain ⟨h1, c0, c1, c2, c3, c4, c5, c6, c7, h2⟩ := h
  refine ⟨?_, x0, x1, x2, x3, x4, x5, x6, x7, Has.set8 h2 x0 x1 x2 x3 x4 x5 x6 x7⟩
  repeat (refine Env.set_ ?_ _ _ _ (by omega) Oct.far)
  exact h1
theorem Oct.four {w0 w : World} {al ah bl bh : Int} (h : Oct w0 w al ah bl bh) : w.cell? ⟨w0.heap.size, 0, none⟩ = some (.int .i64 al) ∧ w.cell? ⟨w0.heap.size, 1, none⟩ = some (.int .i64 ah) ∧ w.cell? ⟨w0.heap.size + 1, 0, none⟩ = some (.int .i64 bl) ∧ w.cell? ⟨w0.heap.size + 1, 1, none⟩ = some (.int .i64 bh) ∧ Oct w0 w al ah bl bh :=
  ⟨h.1.cells.2.1.1, h.1.cells.2.1.2.1, h.1.cells.1.1, h.1.cells.1.2.1, h⟩
theorem Oct.kept {w0 w : World} {al ah bl bh : Int} (h : Oct w0 w al ah bl bh) : ∃ c0 c1 c2 c3 c4 c5 c6 c7 : Value, w.cell? ⟨w0.heap.size + 1 + 1, 0, none⟩ = some c0 ∧ w.cell? ⟨w0.heap.size + 1 + 1, 1, none⟩ = some c1 ∧ w.cell? ⟨w0.heap.size + 1 + 1, 2, none⟩ = some c2 ∧ w.cell? ⟨w0.heap.size + 1 + 1, 3, none⟩ = some c3 ∧ w.cell? ⟨w0.heap.size + 1 + 1, 4, none⟩ = some c4 ∧ w.cell? ⟨w0.heap.size + 1 + 1, 5, none⟩ = some c5 ∧ w.cell? ⟨w0.heap.size + 1 + 1, 6, none⟩ = some c6 ∧ w.cell? ⟨w0.heap.size + 1 + 1, 7, none⟩ = some c7 ∧ w.frozen? ⟨w0.heap.size + 1 + 1, 0, none⟩ = false ∧ w.frozen? ⟨w0.heap.size + 1 + 1, 1, none⟩ = false ∧ w.frozen? ⟨w0.heap.size + 1 + 1, 2, none⟩ = false ∧ w.frozen? ⟨w0.heap.size + 1 + 1, 3, none⟩ = false ∧ w.frozen? ⟨w0.heap.size + 1 + 1, 4, none⟩ = false ∧ w.frozen? ⟨w0.heap.size + 1 + 1, 5, none⟩ = false ∧ w.frozen? ⟨w0.heap.size + 1 + 1, 6, none⟩ = false ∧ w.frozen? ⟨w0.heap.size + 1 + 1, 7, none⟩ = false := by
  obtain ⟨h1, c0, c1, c2, c3, c4, c5, c6, c7, h2⟩ := h
  exact ⟨c0, c1, c2, c3, c4, c5, c6, c7, h2.read 0, h2.read 1, h2.read 2, h2.read 3, h2.read 4, h2.read 5, h2.read 6, h2.read 7, h2.open_ 0, h2.open_ 1, h2.open_ 2, h2.open_ 3, h2.open_ 4, h2.open_ 5, h2.open_ 6, h2.open_ 7⟩

set_option maxHeartbeats 8000000 in
theorem corners_mul (al ah bl bh : Int) (w : World) (va : SV al ah) (vb : SV bl bh) :
    Calls Try.prog 50 #[.agg #[.int .i64 al, .int .i64 ah], .agg #[.int .i64 bl, .int .i64 bh], .func (.func 51) #[] #[]] w fun e w' => e = .returned (.agg #[.int .i64 (sLo al bl 1), .int .i64 (sHi al bl 1), .int .i64 (sLo al bh 1), .int .i64 (sHi al bh 1), .int .i64 (sLo ah bl 1), .int .i64 (sHi ah bl 1), .int .i64 (sLo ah bh 1), .int .i64 (sHi ah bh 1)]) ∧ Below w.heap.size w w' := by
  obtain ⟨a1, a2, a3⟩ := va
  obtain ⟨b1, b2, b3⟩ := vb
  have h1 := fun W => clo_mul al bl W (by omega) (by omega) (by omega) (by omega)
  have h2 := fun W => clo_mul al bh W (by omega) (by omega) (by omega) (by omega)
  have h3 := fun W => clo_mul ah bl W (by omega) (by omega) (by omega) (by omega)
  have h4 := fun W => clo_mul ah bh W (by omega) (by omega) (by omega) (by omega)
  generalize sLo al bl 1 = x0 at *
  generalize sHi al bl 1 = x1 at *
  generalize sLo al bh 1 = x2 at *
  generalize sHi al bh 1 = x3 at *
  generalize sLo ah bl 1 = x4 at *
  generalize sHi ah bl 1 = x5 at *
  generalize sLo ah bh 1 = x6 at *
  generalize sHi ah bh 1 = x7 at *
  go_enter Try.func50, Try.ntmps50
  go_wp2_with fail
  obtain ⟨W, hW⟩ : ∃ W, W = ((w.alloc (.cells #[.int .i64 al, .int .i64 ah] 23)).alloc (.cells #[.int .i64 bl, .int .i64 bh] 23)).alloc (.cells #[.int .i64 0, .int .i64 0, .int .i64 0, .int .i64 0, .int .i64 0, .int .i64 0, .int .i64 0, .int .i64 0] 63) := ⟨_, rfl⟩
  have E : Oct w W al ah bl bh := by rw [hW]; exact oct_start w al ah bl bh
  rw [← hW]
  clear hW
  go_region_held3 (fun w' => w'.cell? ⟨w.heap.size, 0, none⟩ = some (.int .i64 al) ∧ w'.cell? ⟨w.heap.size, 1, none⟩ = some (.int .i64 ah) ∧ w'.cell? ⟨w.heap.size + 1, 0, none⟩ = some (.int .i64 bl) ∧ w'.cell? ⟨w.heap.size + 1, 1, none⟩ = some (.int .i64 bh) ∧ Oct w w' al ah bl bh)
    (first | with_reducible exact Oct.four (Oct.set8 Q0 _ _ _ _ _ _ _ _) | with_reducible exact Oct.four E.drew | with_reducible exact Oct.four (Oct.next (by go_split_ands; assumption) hb))
    (first | (go_at_call 51; first | ((with_reducible refine (h1 _).mono ?_); rintro e w1 ⟨rfl, hb⟩) | ((with_reducible refine (h2 _).mono ?_); rintro e w1 ⟨rfl, hb⟩) | ((with_reducible refine (h3 _).mono ?_); rintro e w1 ⟨rfl, hb⟩) | ((with_reducible refine (h4 _).mono ?_); rintro e w1 ⟨rfl, hb⟩; have Q0 : Oct w w1 al ah bl bh := (by with_reducible exact Oct.next (by go_split_ands; assumption) hb); obtain ⟨c0, c1, c2, c3, c4, c5, c6, c7, QQ⟩ := Oct.kept Q0)))
  rename_i hH
  have hB := hH.2.2.2.2.1.1
  obtain ⟨hE, d0, d1, d2, d3, d4, d5, d6, d7, hD⟩ := Q0
  have F := Has.set8 hD (.int .i64 x0) (.int .i64 x1) (.int .i64 x2) (.int .i64 x3) (.int .i64 x4) (.int .i64 x5) (.int .i64 x6) (.int .i64 x7)
  clear hH hE hD QQ
  obtain ⟨WF, hW⟩ : ∃ WF, WF = ((((((((w1.setCell ⟨w.heap.size + 1 + 1, 0, none⟩ (.int .i64 x0)).setCell ⟨w.heap.size + 1 + 1, 1, none⟩ (.int .i64 x1)).setCell ⟨w.heap.size + 1 + 1, 2, none⟩ (.int .i64 x2)).setCell ⟨w.heap.size + 1 + 1, 3, none⟩ (.int .i64 x3)).setCell ⟨w.heap.size + 1 + 1, 4, none⟩ (.int .i64 x4)).setCell ⟨w.heap.size + 1 + 1, 5, none⟩ (.int .i64 x5)).setCell ⟨w.heap.size + 1 + 1, 6, none⟩ (.int .i64 x6)).setCell ⟨w.heap.size + 1 + 1, 7, none⟩ (.int .i64 x7)) := ⟨_, rfl⟩
  rw [← hW] at hB F ⊢
  clear hW
  have R0 := F.read 0
  have R1 := F.read 1
  have R2 := F.read 2
  have R3 := F.read 3
  have R4 := F.read 4
  have R5 := F.read 5
  have R6 := F.read 6
  have R7 := F.read 7
  clear F
  go_wp2
  exact bodyPost_ret (v := .agg #[.int .i64 x0, .int .i64 x1, .int .i64 x2, .int .i64 x3, .int .i64 x4, .int .i64 x5, .int .i64 x6, .int .i64 x7]) (by simp [results, Try.results50, go_sem, R0, R1, R2, R3, R4, R5, R6, R7]) rfl ⟨rfl, hB⟩

set_option maxHeartbeats 8000000 in
theorem corners_div (al ah bl bh : Int) (w : World) (va : SV al ah) (vb : SV bl bh) (z0 : bl ≠ 0) (z1 : bh ≠ 0) :
    Calls Try.prog 50 #[.agg #[.int .i64 al, .int .i64 ah], .agg #[.int .i64 bl, .int .i64 bh], .func (.func 53) #[] #[]] w fun e w' => e = .returned (.agg #[.int .i64 (sLo al 1 bl), .int .i64 (sHi al 1 bl), .int .i64 (sLo al 1 bh), .int .i64 (sHi al 1 bh), .int .i64 (sLo ah 1 bl), .int .i64 (sHi ah 1 bl), .int .i64 (sLo ah 1 bh), .int .i64 (sHi ah 1 bh)]) ∧ Below w.heap.size w w' := by
  obtain ⟨a1, a2, a3⟩ := va
  obtain ⟨b1, b2, b3⟩ := vb
  have h1 := fun W => clo_div al bl W (by omega) (by omega) (by omega) (by omega) z0
  have h2 := fun W => clo_div al bh W (by omega) (by omega) (by omega) (by omega) z1
  have h3 := fun W => clo_div ah bl W (by omega) (by omega) (by omega) (by omega) z0
  have h4 := fun W => clo_div ah bh W (by omega) (by omega) (by omega) (by omega) z1
  generalize sLo al 1 bl = x0 at *
  generalize sHi al 1 bl = x1 at *
  generalize sLo al 1 bh = x2 at *
  generalize sHi al 1 bh = x3 at *
  generalize sLo ah 1 bl = x4 at *
  generalize sHi ah 1 bl = x5 at *
  generalize sLo ah 1 bh = x6 at *
  generalize sHi ah 1 bh = x7 at *
  go_enter Try.func50, Try.ntmps50
  go_wp2_with fail
  obtain ⟨W, hW⟩ : ∃ W, W = ((w.alloc (.cells #[.int .i64 al, .int .i64 ah] 23)).alloc (.cells #[.int .i64 bl, .int .i64 bh] 23)).alloc (.cells #[.int .i64 0, .int .i64 0, .int .i64 0, .int .i64 0, .int .i64 0, .int .i64 0, .int .i64 0, .int .i64 0] 63) := ⟨_, rfl⟩
  have E : Oct w W al ah bl bh := by rw [hW]; exact oct_start w al ah bl bh
  rw [← hW]
  clear hW
  go_region_held3 (fun w' => w'.cell? ⟨w.heap.size, 0, none⟩ = some (.int .i64 al) ∧ w'.cell? ⟨w.heap.size, 1, none⟩ = some (.int .i64 ah) ∧ w'.cell? ⟨w.heap.size + 1, 0, none⟩ = some (.int .i64 bl) ∧ w'.cell? ⟨w.heap.size + 1, 1, none⟩ = some (.int .i64 bh) ∧ Oct w w' al ah bl bh)
    (first | with_reducible exact Oct.four (Oct.set8 Q0 _ _ _ _ _ _ _ _) | with_reducible exact Oct.four E.drew | with_reducible exact Oct.four (Oct.next (by go_split_ands; assumption) hb))
    (first | (go_at_call 53; first | ((with_reducible refine (h1 _).mono ?_); rintro e w1 ⟨rfl, hb⟩) | ((with_reducible refine (h2 _).mono ?_); rintro e w1 ⟨rfl, hb⟩) | ((with_reducible refine (h3 _).mono ?_); rintro e w1 ⟨rfl, hb⟩) | ((with_reducible refine (h4 _).mono ?_); rintro e w1 ⟨rfl, hb⟩; have Q0 : Oct w w1 al ah bl bh := (by with_reducible exact Oct.next (by go_split_ands; assumption) hb); obtain ⟨c0, c1, c2, c3, c4, c5, c6, c7, QQ⟩ := Oct.kept Q0)))
  rename_i hH
  have hB := hH.2.2.2.2.1.1
  obtain ⟨hE, d0, d1, d2, d3, d4, d5, d6, d7, hD⟩ := Q0
  have F := Has.set8 hD (.int .i64 x0) (.int .i64 x1) (.int .i64 x2) (.int .i64 x3) (.int .i64 x4) (.int .i64 x5) (.int .i64 x6) (.int .i64 x7)
  clear hH hE hD QQ
  obtain ⟨WF, hW⟩ : ∃ WF, WF = ((((((((w1.setCell ⟨w.heap.size + 1 + 1, 0, none⟩ (.int .i64 x0)).setCell ⟨w.heap.size + 1 + 1, 1, none⟩ (.int .i64 x1)).setCell ⟨w.heap.size + 1 + 1, 2, none⟩ (.int .i64 x2)).setCell ⟨w.heap.size + 1 + 1, 3, none⟩ (.int .i64 x3)).setCell ⟨w.heap.size + 1 + 1, 4, none⟩ (.int .i64 x4)).setCell ⟨w.heap.size + 1 + 1, 5, none⟩ (.int .i64 x5)).setCell ⟨w.heap.size + 1 + 1, 6, none⟩ (.int .i64 x6)).setCell ⟨w.heap.size + 1 + 1, 7, none⟩ (.int .i64 x7)) := ⟨_, rfl⟩
  rw [← hW] at hB F ⊢
  clear hW
  have R0 := F.read 0
  have R1 := F.read 1
  have R2 := F.read 2
  have R3 := F.read 3
  have R4 := F.read 4
  have R5 := F.read 5
  have R6 := F.read 6
  have R7 := F.read 7
  clear F
  go_wp2
  exact bodyPost_ret (v := .agg #[.int .i64 x0, .int .i64 x1, .int .i64 x2, .int .i64 x3, .int .i64 x4, .int .i64 x5, .int .i64 x6, .int .i64 x7]) (by simp [results, Try.results50, go_sem, R0, R1, R2, R3, R4, R5, R6, R7]) rfl ⟨rfl, hB⟩
end Go.Proofs.Ytplepbaafamjfaa
