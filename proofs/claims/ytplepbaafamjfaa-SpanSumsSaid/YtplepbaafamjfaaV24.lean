/- The reference's Hull and Meet. -/
import Derived.Test.YtplepbaafamjfaaV23
import Derived.Test.YtplepbaafamjfaaV20
namespace Go.Proofs.Ytplepbaafamjfaa
open Go.ChangeShapes Go.WideShapes Go.ChangeAt Go.RowKit
set_option linter.unusedVariables false
set_option linter.unusedSimpArgs false

theorem Env.drw {w0 w : World} {l : List Fb} (h : Env w0 w l) : Env w0 w.drew l := h.dr ⟨1, rfl⟩
theorem least2c (a b : Int) (W : World) (g : Nat) (h0 : W.cell? ⟨g, 0, none⟩ = some (.int .i64 a)) (h1 : W.cell? ⟨g, 1, none⟩ = some (.int .i64 b)) :
    Calls Try.prog 49 #[.slice (some ⟨g, 0, none⟩) 2 2] W fun e w' => e = .returned (.int .i64 (mn a b)) ∧ W = w' :=
  least_any [a, b] g 0 2 2 W (by omega) (by omega) rfl (by
    intro k hk
    have hk' : k < 2 := by simpa using hk
    have : k = 0 ∨ k = 1 := by omega
    rcases this with rfl | rfl
    · exact h0
    · exact h1)
theorem greatest2c (a b : Int) (W : World) (g : Nat) (h0 : W.cell? ⟨g, 0, none⟩ = some (.int .i64 a)) (h1 : W.cell? ⟨g, 1, none⟩ = some (.int .i64 b)) :
    Calls Try.prog 48 #[.slice (some ⟨g, 0, none⟩) 2 2] W fun e w' => e = .returned (.int .i64 (mx a b)) ∧ W = w' :=
  greatest_any [a, b] g 0 2 2 W (by omega) (by omega) rfl (by
    intro k hk
    have hk' : k < 2 := by simpa using hk
    have : k = 0 ∨ k = 1 := by omega
    rcases this with rfl | rfl
    · exact h0
    · exact h1)
set_option maxRecDepth 100000 in
set_option maxHeartbeats 8000000 in
theorem rhull_any (al ah bl bh : Int) (w : World) :
    Calls Try.prog 22 #[.agg #[.int .i64 al, .int .i64 ah], .agg #[.int .i64 bl, .int .i64 bh]] w fun e w' => e = .returned (.agg #[.int .i64 (mn al bl), .int .i64 (mx ah bh)]) ∧ Below w.heap.size w w' := by
  have h1 := fun W g h h' => least2c al bl W g h h'
  have h2 := fun W g h h' => greatest2c ah bh W g h h'
  generalize mn al bl = m at *
  generalize mx ah bh = M at *
  go_enter Try.func22, Try.ntmps22
  go_wp2_with fail
  have E0 := env_two w al ah bl bh 23 23
  go_region_held3 (fun w' => w'.cell? ⟨w.heap.size, 0, none⟩ = some (.int .i64 al) ∧ w'.cell? ⟨w.heap.size, 1, none⟩ = some (.int .i64 ah) ∧ w'.cell? ⟨w.heap.size + 1, 0, none⟩ = some (.int .i64 bl) ∧ w'.cell? ⟨w.heap.size + 1, 1, none⟩ = some (.int .i64 bh) ∧ Env w w' [⟨w.heap.size + 1, 23, bl, bh⟩, ⟨w.heap.size, 23, al, ah⟩])
    ((refine two_k ?_; repeat (first | exact E0 | refine Env.drw ?_ | refine Env.more ?_ _)))
    (first | (go_at_call 49; refine (h1 _ _ (by simp [go_sem]) (by simp [go_sem])).mono ?_; rintro e w1 ⟨rfl, rfl⟩) | (go_at_call 48; refine (h2 _ _ (by simp [go_sem]) (by simp [go_sem])).mono ?_; rintro e w1 ⟨rfl, rfl⟩))
  all_goals (rename_i hH; clear hH)
  all_goals go_wp2
  all_goals refine bodyPost_ret (v := .agg #[.int .i64 m, .int .i64 M]) (by simp [results, Try.results22, go_sem]) rfl ⟨rfl, ?_⟩
  all_goals repeat (first | exact E0.1 | refine Below.drew ?_ | refine Below.alloc ?_ (by first | (simp; done) | (simp; omega)) _ | refine Below.setCell ?_ (by first | (simp; done) | (simp; omega)) _)
set_option maxRecDepth 100000 in
set_option maxHeartbeats 8000000 in
theorem rmeet_ok (al ah bl bh : Int) (w : World) {x y e0 : Int} (hr : (if mn ah bh < mx al bl then (0, 0, 12) else (mx al bl, mn ah bh, 0)) = (x, y, e0)) :
    Calls Try.prog 21 #[.agg #[.int .i64 al, .int .i64 ah], .agg #[.int .i64 bl, .int .i64 bh]] w fun e w' => e = .returned (.tuple #[.agg #[.int .i64 x, .int .i64 y], .int .i64 e0]) ∧ Below w.heap.size w w' := by
  have h1 := fun W g h h' => least2c ah bh W g h h'
  have h2 := fun W g h h' => greatest2c al bl W g h h'
  generalize mn ah bh = m at *
  generalize mx al bl = M at *
  by_cases c : m < M
  · rw [if_pos c] at hr; simp only [Prod.mk.injEq] at hr; obtain ⟨e1, e2, e3⟩ := hr; subst e1 e2 e3
    go_enter Try.func21, Try.ntmps21
    go_wp2_with fail
    have E0 := env_two w al ah bl bh 23 23
    go_region_held3 (fun w' => w'.cell? ⟨w.heap.size, 0, none⟩ = some (.int .i64 al) ∧ w'.cell? ⟨w.heap.size, 1, none⟩ = some (.int .i64 ah) ∧ w'.cell? ⟨w.heap.size + 1, 0, none⟩ = some (.int .i64 bl) ∧ w'.cell? ⟨w.heap.size + 1, 1, none⟩ = some (.int .i64 bh) ∧ Env w w' [⟨w.heap.size + 1, 23, bl, bh⟩, ⟨w.heap.size, 23, al, ah⟩])
      ((refine two_k ?_; repeat (first | exact E0 | refine Env.drw ?_ | refine Env.more ?_ _)))
      (first | (go_at_call 49; refine (h1 _ _ (by simp [go_sem]) (by simp [go_sem])).mono ?_; rintro e w1 ⟨rfl, rfl⟩) | (go_at_call 48; refine (h2 _ _ (by simp [go_sem]) (by simp [go_sem])).mono ?_; rintro e w1 ⟨rfl, rfl⟩))
    all_goals (rename_i hH; clear hH)
    all_goals go_wp2
    all_goals refine bodyPost_ret (v := .tuple #[.agg #[.int .i64 0, .int .i64 0], .int .i64 12]) (by simp [results, Try.results21, go_sem]) rfl ⟨rfl, ?_⟩
    all_goals repeat (first | exact E0.1 | refine Below.drew ?_ | refine Below.alloc ?_ (by first | (simp; done) | (simp; omega)) _ | refine Below.setCell ?_ (by first | (simp; done) | (simp; omega)) _)
  · rw [if_neg c] at hr; simp only [Prod.mk.injEq] at hr; obtain ⟨e1, e2, e3⟩ := hr; subst e1 e2 e3
    go_enter Try.func21, Try.ntmps21
    go_wp2_with fail
    have E0 := env_two w al ah bl bh 23 23
    go_region_held3 (fun w' => w'.cell? ⟨w.heap.size, 0, none⟩ = some (.int .i64 al) ∧ w'.cell? ⟨w.heap.size, 1, none⟩ = some (.int .i64 ah) ∧ w'.cell? ⟨w.heap.size + 1, 0, none⟩ = some (.int .i64 bl) ∧ w'.cell? ⟨w.heap.size + 1, 1, none⟩ = some (.int .i64 bh) ∧ Env w w' [⟨w.heap.size + 1, 23, bl, bh⟩, ⟨w.heap.size, 23, al, ah⟩])
      ((refine two_k ?_; repeat (first | exact E0 | refine Env.drw ?_ | refine Env.more ?_ _)))
      (first | (go_at_call 49; refine (h1 _ _ (by simp [go_sem]) (by simp [go_sem])).mono ?_; rintro e w1 ⟨rfl, rfl⟩) | (go_at_call 48; refine (h2 _ _ (by simp [go_sem]) (by simp [go_sem])).mono ?_; rintro e w1 ⟨rfl, rfl⟩))
    all_goals (rename_i hH; clear hH)
    all_goals go_wp2
    all_goals refine bodyPost_ret (v := .tuple #[.agg #[.int .i64 M, .int .i64 m], .int .i64 0]) (by simp [results, Try.results21, go_sem]) rfl ⟨rfl, ?_⟩
    all_goals repeat (first | exact E0.1 | refine Below.drew ?_ | refine Below.alloc ?_ (by first | (simp; done) | (simp; omega)) _ | refine Below.setCell ?_ (by first | (simp; done) | (simp; omega)) _)
end Go.Proofs.Ytplepbaafamjfaa
