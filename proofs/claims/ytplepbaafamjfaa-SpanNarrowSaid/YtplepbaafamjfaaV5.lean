/- The contract of Hull and of Meet. -/
import Derived.Test.YtplepbaafamjfaaV4
namespace Go.Proofs.Ytplepbaafamjfaa
open Go.ChangeShapes Go.WideShapes Go.ChangeAt Go.RowKit
set_option linter.unusedVariables false
set_option linter.unusedSimpArgs false

theorem around1 (x y bl bh : Int) (W : World) (g : Nat) (h : Has W g 23 #[.int .i64 bl, .int .i64 bh]) :
    Calls Try.prog 46 #[.agg #[.int .i64 x, .int .i64 y], .slice (some ⟨g, 0, none⟩) 1 1] W fun e w' => e = .returned (.agg #[.int .i64 (mn x bl), .int .i64 (mx y bh)]) ∧ Below W.heap.size W w' :=
  around_any x y [(bl, bh)] g 0 1 1 W (by omega) rfl h.size_ (by
    intro k hk
    have : k = 0 := by simpa using hk
    subst this
    exact ⟨h.read 0, h.read 1⟩)

theorem hull_ok (al ah bl bh : Int) (w : World) (va : SV al ah) (vb : SV bl bh) :
    Calls Try.prog 14 #[.agg #[.int .i64 al, .int .i64 ah], .agg #[.int .i64 bl, .int .i64 bh]] w fun e w' => e = .returned (.tuple #[.agg #[.int .i64 (mn al bl), .int .i64 (mx ah bh)], .int .i64 0]) ∧ Below w.heap.size w w' := by
  have hA := sB_t.2 va
  have hB := sB_t.2 vb
  have hF := fun W => around1 al ah bl bh W
  generalize mn al bl = m at *
  generalize mx ah bh = M at *
  clear va vb
  go_enter Try.func14, Try.ntmps14
  go_wp2_with (first | (go_at_call 16; refine (svalid_any _ _ _).mono ?_; first | (rw [hA]; rintro e w1 ⟨rfl, hb⟩; have E := (env_three w al ah bl bh 0 0 23 23 23).on hb; have C := E.cells; simp only [BC] at C; clear hb) | (rw [hB]; rintro e w2 ⟨rfl, hb⟩; replace E := E.on hb; replace C := E.cells; simp only [BC] at C; clear hb)) | (go_at_call 46; refine (hF _ _ (Has.new_ _ _ _)).mono ?_; rintro e w3 ⟨rfl, hb⟩; replace E := (E.more _).on hb; replace C := E.cells; simp only [BC] at C; clear hb))
  refine bodyPost_ret (v := .tuple #[.agg #[.int .i64 m, .int .i64 M], .int .i64 0]) (by simp [results, Try.results14, go_sem, C]) rfl ⟨rfl, ?_⟩
  exact (E.1.setCell (by simp; omega) _).setCell (by simp; omega) _

set_option maxHeartbeats 2000000 in
theorem meet_ok (al ah bl bh : Int) (w : World) (va : SV al ah) (vb : SV bl bh) {x y e0 : Int} (hr : meetR al ah bl bh = (x, y, e0)) :
    Calls Try.prog 15 #[.agg #[.int .i64 al, .int .i64 ah], .agg #[.int .i64 bl, .int .i64 bh]] w fun e w' => e = .returned (.tuple #[.agg #[.int .i64 x, .int .i64 y], .int .i64 e0]) ∧ Below w.heap.size w w' := by
  have hA := sB_t.2 va
  have hB := sB_t.2 vb
  unfold meetR ok2 at hr
  rw [hA, hB] at hr
  simp only [Bool.and_self, if_true] at hr
  rw [mn_if, mx_if] at hr
  clear va vb
  by_cases c1 : al < bl
  · by_cases c2 : bh < ah
    · simp only [c1, c2, if_true] at hr
      by_cases c3 : bh < bl
      · rw [if_pos c3] at hr; simp only [Prod.mk.injEq] at hr; obtain ⟨h1, h2, h3⟩ := hr; subst h1 h2 h3
        go_enter Try.func15, Try.ntmps15
        go_wp2_with (first | (go_at_call 16; refine (svalid_any _ _ _).mono ?_; first | (rw [hA]; rintro e w1 ⟨rfl, hb⟩; have E := (env_three w al ah bl bh 0 0 23 23 23).on hb; have C := E.cells; simp only [BC] at C; clear hb) | (rw [hB]; rintro e w2 ⟨rfl, hb⟩; replace E := E.on hb; replace C := E.cells; simp only [BC] at C; clear hb)))
        refine bodyPost_ret (v := .tuple #[.agg #[.int .i64 0, .int .i64 0], .int .i64 12]) (by simp [results, Try.results15, go_sem, C]) rfl ⟨rfl, ?_⟩
        first | exact ((E.1.setCell (by simp; omega) _).setCell (by simp; omega) _).alloc (by have := E.1.size; simp; omega) _ | exact (((E.1.alloc E.1.size _).setCell (by simp; omega) _).setCell (by simp; omega) _)
      · rw [if_neg c3] at hr; simp only [Prod.mk.injEq] at hr; obtain ⟨h1, h2, h3⟩ := hr; subst h1 h2 h3
        go_enter Try.func15, Try.ntmps15
        go_wp2_with (first | (go_at_call 16; refine (svalid_any _ _ _).mono ?_; first | (rw [hA]; rintro e w1 ⟨rfl, hb⟩; have E := (env_three w al ah bl bh 0 0 23 23 23).on hb; have C := E.cells; simp only [BC] at C; clear hb) | (rw [hB]; rintro e w2 ⟨rfl, hb⟩; replace E := E.on hb; replace C := E.cells; simp only [BC] at C; clear hb)))
        refine bodyPost_ret (v := .tuple #[.agg #[.int .i64 bl, .int .i64 bh], .int .i64 0]) (by simp [results, Try.results15, go_sem, C]) rfl ⟨rfl, ?_⟩
        first | exact ((E.1.setCell (by simp; omega) _).setCell (by simp; omega) _).alloc (by have := E.1.size; simp; omega) _ | exact (((E.1.alloc E.1.size _).setCell (by simp; omega) _).setCell (by simp; omega) _)
    · simp only [c1, c2, if_true, if_false] at hr
      by_cases c3 : ah < bl
      · rw [if_pos c3] at hr; simp only [Prod.mk.injEq] at hr; obtain ⟨h1, h2, h3⟩ := hr; subst h1 h2 h3
        go_enter Try.func15, Try.ntmps15
        go_wp2_with (first | (go_at_call 16; refine (svalid_any _ _ _).mono ?_; first | (rw [hA]; rintro e w1 ⟨rfl, hb⟩; have E := (env_three w al ah bl bh 0 0 23 23 23).on hb; have C := E.cells; simp only [BC] at C; clear hb) | (rw [hB]; rintro e w2 ⟨rfl, hb⟩; replace E := E.on hb; replace C := E.cells; simp only [BC] at C; clear hb)))
        refine bodyPost_ret (v := .tuple #[.agg #[.int .i64 0, .int .i64 0], .int .i64 12]) (by simp [results, Try.results15, go_sem, C]) rfl ⟨rfl, ?_⟩
        first | exact ((E.1.setCell (by simp; omega) _).setCell (by simp; omega) _).alloc (by have := E.1.size; simp; omega) _ | exact (((E.1.alloc E.1.size _).setCell (by simp; omega) _).setCell (by simp; omega) _)
      · rw [if_neg c3] at hr; simp only [Prod.mk.injEq] at hr; obtain ⟨h1, h2, h3⟩ := hr; subst h1 h2 h3
        go_enter Try.func15, Try.ntmps15
        go_wp2_with (first | (go_at_call 16; refine (svalid_any _ _ _).mono ?_; first | (rw [hA]; rintro e w1 ⟨rfl, hb⟩; have E := (env_three w al ah bl bh 0 0 23 23 23).on hb; have C := E.cells; simp only [BC] at C; clear hb) | (rw [hB]; rintro e w2 ⟨rfl, hb⟩; replace E := E.on hb; replace C := E.cells; simp only [BC] at C; clear hb)))
        refine bodyPost_ret (v := .tuple #[.agg #[.int .i64 bl, .int .i64 ah], .int .i64 0]) (by simp [results, Try.results15, go_sem, C]) rfl ⟨rfl, ?_⟩
        first | exact ((E.1.setCell (by simp; omega) _).setCell (by simp; omega) _).alloc (by have := E.1.size; simp; omega) _ | exact (((E.1.alloc E.1.size _).setCell (by simp; omega) _).setCell (by simp; omega) _)
  · by_cases c2 : bh < ah
    · simp only [c1, c2, if_true, if_false] at hr
      by_cases c3 : bh < al
      · rw [if_pos c3] at hr; simp only [Prod.mk.injEq] at hr; obtain ⟨h1, h2, h3⟩ := hr; subst h1 h2 h3
        go_enter Try.func15, Try.ntmps15
        go_wp2_with (first | (go_at_call 16; refine (svalid_any _ _ _).mono ?_; first | (rw [hA]; rintro e w1 ⟨rfl, hb⟩; have E := (env_three w al ah bl bh 0 0 23 23 23).on hb; have C := E.cells; simp only [BC] at C; clear hb) | (rw [hB]; rintro e w2 ⟨rfl, hb⟩; replace E := E.on hb; replace C := E.cells; simp only [BC] at C; clear hb)))
        refine bodyPost_ret (v := .tuple #[.agg #[.int .i64 0, .int .i64 0], .int .i64 12]) (by simp [results, Try.results15, go_sem, C]) rfl ⟨rfl, ?_⟩
        first | exact ((E.1.setCell (by simp; omega) _).setCell (by simp; omega) _).alloc (by have := E.1.size; simp; omega) _ | exact (((E.1.alloc E.1.size _).setCell (by simp; omega) _).setCell (by simp; omega) _)
      · rw [if_neg c3] at hr; simp only [Prod.mk.injEq] at hr; obtain ⟨h1, h2, h3⟩ := hr; subst h1 h2 h3
        go_enter Try.func15, Try.ntmps15
        go_wp2_with (first | (go_at_call 16; refine (svalid_any _ _ _).mono ?_; first | (rw [hA]; rintro e w1 ⟨rfl, hb⟩; have E := (env_three w al ah bl bh 0 0 23 23 23).on hb; have C := E.cells; simp only [BC] at C; clear hb) | (rw [hB]; rintro e w2 ⟨rfl, hb⟩; replace E := E.on hb; replace C := E.cells; simp only [BC] at C; clear hb)))
        refine bodyPost_ret (v := .tuple #[.agg #[.int .i64 al, .int .i64 bh], .int .i64 0]) (by simp [results, Try.results15, go_sem, C]) rfl ⟨rfl, ?_⟩
        first | exact ((E.1.setCell (by simp; omega) _).setCell (by simp; omega) _).alloc (by have := E.1.size; simp; omega) _ | exact (((E.1.alloc E.1.size _).setCell (by simp; omega) _).setCell (by simp; omega) _)
    · simp only [c1, c2, if_true, if_false] at hr
      by_cases c3 : ah < al
      · rw [if_pos c3] at hr; simp only [Prod.mk.injEq] at hr; obtain ⟨h1, h2, h3⟩ := hr; subst h1 h2 h3
        go_enter Try.func15, Try.ntmps15
        go_wp2_with (first | (go_at_call 16; refine (svalid_any _ _ _).mono ?_; first | (rw [hA]; rintro e w1 ⟨rfl, hb⟩; have E := (env_three w al ah bl bh 0 0 23 23 23).on hb; have C := E.cells; simp only [BC] at C; clear hb) | (rw [hB]; rintro e w2 ⟨rfl, hb⟩; replace E := E.on hb; replace C := E.cells; simp only [BC] at C; clear hb)))
        refine bodyPost_ret (v := .tuple #[.agg #[.int .i64 0, .int .i64 0], .int .i64 12]) (by simp [results, Try.results15, go_sem, C]) rfl ⟨rfl, ?_⟩
        first | exact ((E.1.setCell (by simp; omega) _).setCell (by simp; omega) _).alloc (by have := E.1.size; simp; omega) _ | exact (((E.1.alloc E.1.size _).setCell (by simp; omega) _).setCell (by simp; omega) _)
      · rw [if_neg c3] at hr; simp only [Prod.mk.injEq] at hr; obtain ⟨h1, h2, h3⟩ := hr; subst h1 h2 h3
        go_enter Try.func15, Try.ntmps15
        go_wp2_with (first | (go_at_call 16; refine (svalid_any _ _ _).mono ?_; first | (rw [hA]; rintro e w1 ⟨rfl, hb⟩; have E := (env_three w al ah bl bh 0 0 23 23 23).on hb; have C := E.cells; simp only [BC] at C; clear hb) | (rw [hB]; rintro e w2 ⟨rfl, hb⟩; replace E := E.on hb; replace C := E.cells; simp only [BC] at C; clear hb)))
        refine bodyPost_ret (v := .tuple #[.agg #[.int .i64 al, .int .i64 ah], .int .i64 0]) (by simp [results, Try.results15, go_sem, C]) rfl ⟨rfl, ?_⟩
        first | exact ((E.1.setCell (by simp; omega) _).setCell (by simp; omega) _).alloc (by have := E.1.size; simp; omega) _ | exact (((E.1.alloc E.1.size _).setCell (by simp; omega) _).setCell (by simp; omega) _)
end Go.Proofs.Ytplepbaafamjfaa
