/- Gap, Square. -/
import Derived.Test.YtffigpkkdljaiaaVa
import Derived.Test.YtffigpkkdljaiaaGp
namespace Go.Proofs.Ytffigpkkdljaiaa
open Go.ChangeShapes Go.WideShapes Go.ChangeAt Go.RowKit
set_option linter.unusedVariables false
set_option linter.unusedSimpArgs false

theorem max3 (x y z : Int) (g : Nat) (w : World) (h0 : w.cell? ⟨g, 0, none⟩ = some (.int .i64 x)) (h1 : w.cell? ⟨g, 1, none⟩ = some (.int .i64 y)) (h2 : w.cell? ⟨g, 2, none⟩ = some (.int .i64 z)) :
    Calls Try.prog 39 #[.slice (some ⟨g, 0, none⟩) 3 3] w fun E w' => E = .returned (.int .i64 (mx (mx x y) z)) ∧ w' = w := by
  go_enter Try.func39, Try.ntmps39
  go_wp2
  go_loopw [3, 4] (fun v3 v4 wr => wr = w ∧ (v4 = .int .i64 1 ∧ v3 = .int .i64 x ∨ v4 = .int .i64 2 ∧ v3 = .int .i64 (mx x y) ∨ v4 = .int .i64 3 ∧ v3 = .int .i64 (mx (mx x y) z))) (fun _ v _ => 3 - (intOf v).toNat)
  case atStart => exact ⟨rfl, .inl ⟨rfl, rfl⟩⟩
  case round =>
    obtain ⟨e0, ⟨rfl, rfl⟩ | ⟨rfl, rfl⟩ | ⟨rfl, rfl⟩⟩ := hrel
    all_goals subst e0
    · by_cases c : x < y
      · rw [mx_l c]
        go_wp2
        exact ⟨⟨by trivial, .inr (.inl ⟨rfl, rfl⟩)⟩, by simp [intOf]⟩
      · rw [mx_r c]
        go_wp2
        exact ⟨⟨by trivial, .inr (.inl ⟨rfl, rfl⟩)⟩, by simp [intOf]⟩
    · generalize mx x y = u at *
      by_cases c : u < z
      · rw [mx_l c]
        go_wp2
        exact ⟨⟨by trivial, .inr (.inr ⟨rfl, rfl⟩)⟩, by simp [intOf]⟩
      · rw [mx_r c]
        go_wp2
        exact ⟨⟨by trivial, .inr (.inr ⟨rfl, rfl⟩)⟩, by simp [intOf]⟩
    · go_wp2
      go_ret
      first | exact ⟨rfl, rfl⟩ | exact ⟨rfl, trivial⟩ | (simp; done)
theorem ixg0 (a b c : Int) (w : World) : Sem.run Try.prog (Instr.index 62 (.agg #[.int .i64 a, .int .i64 b, .int .i64 c]) (.int .i64 0)) w = .ok (.int .i64 a) w := by
  simp [Instr.index, go_sem, Try.underlying62]
theorem ixg1 (a b c : Int) (w : World) : Sem.run Try.prog (Instr.index 62 (.agg #[.int .i64 a, .int .i64 b, .int .i64 c]) (.int .i64 1)) w = .ok (.int .i64 b) w := by
  simp [Instr.index, go_sem, Try.underlying62]
theorem ixg2 (a b c : Int) (w : World) : Sem.run Try.prog (Instr.index 62 (.agg #[.int .i64 a, .int .i64 b, .int .i64 c]) (.int .i64 2)) w = .ok (.int .i64 c) w := by
  simp [Instr.index, go_sem, Try.underlying62]
set_option maxHeartbeats 4000000 in
set_option maxRecDepth 100000 in
theorem gap_arg (a b c d e f a' b' c' d' e' f' : Int) (w : World) (hv : vB a b c d e f = false ∨ vB a' b' c' d' e' f' = false) :
    Calls Try.prog 11 #[.agg #[.int .i64 a, .int .i64 b, .int .i64 c, .int .i64 d, .int .i64 e, .int .i64 f], .agg #[.int .i64 a', .int .i64 b', .int .i64 c', .int .i64 d', .int .i64 e', .int .i64 f']] w fun E w' => E = .returned (.tuple #[.int .i64 0, .int .i64 1]) ∧ Below w.heap.size w w' := by
  have E := ((Env.nil w).add w.heap.size 25 #[.int .i64 a, .int .i64 b, .int .i64 c, .int .i64 d, .int .i64 e, .int .i64 f] rfl).add (w.heap.size + 1) 25 #[.int .i64 a', .int .i64 b', .int .i64 c', .int .i64 d', .int .i64 e', .int .i64 f'] (by simp)
  have v1 := fun W => valid_any a b c d e f W
  have v2 := fun W => valid_any a' b' c' d' e' f' W
  have C := E.cells
  simp [BC, CF] at C
  cases hv1 : vB a b c d e f
  · rw [hv1] at v1
    clear hv1 hv v2
    go_enter Try.func11, Try.ntmps11
    go_wp2_with (go_at_call 22; ((with_reducible refine (v1 _).mono ?_); rintro X W0 ⟨rfl, hb⟩; replace E := E.on hb; replace C := E.cells; simp [BC, CF] at C; clear hb))
    refine bodyPost_ret (v := .tuple #[.int .i64 0, .int .i64 1]) (by simp [results, Try.results11, go_sem, C]) rfl ⟨rfl, ?_⟩
    exact E.1
  · have hv2 : vB a' b' c' d' e' f' = false := by rcases hv with h | h; rw [hv1] at h; cases h; exact h
    rw [hv1] at v1
    rw [hv2] at v2
    clear hv1 hv2 hv
    go_enter Try.func11, Try.ntmps11
    go_wp2_with (go_at_call 22; first | ((with_reducible refine (v1 _).mono ?_); rintro X W0 ⟨rfl, hb⟩; replace E := E.on hb; replace C := E.cells; simp [BC, CF] at C; clear hb) | ((with_reducible refine (v2 _).mono ?_); rintro X W0 ⟨rfl, hb⟩; replace E := E.on hb; replace C := E.cells; simp [BC, CF] at C; clear hb))
    refine bodyPost_ret (v := .tuple #[.int .i64 0, .int .i64 1]) (by simp [results, Try.results11, go_sem, C]) rfl ⟨rfl, ?_⟩
    exact E.1
set_option maxHeartbeats 4000000 in
set_option maxRecDepth 100000 in
theorem square_arg (a b c d e f a' b' c' d' e' f' : Int) (w : World) (hv : vB a b c d e f = false ∨ vB a' b' c' d' e' f' = false) :
    Calls Try.prog 12 #[.agg #[.int .i64 a, .int .i64 b, .int .i64 c, .int .i64 d, .int .i64 e, .int .i64 f], .agg #[.int .i64 a', .int .i64 b', .int .i64 c', .int .i64 d', .int .i64 e', .int .i64 f']] w fun E w' => E = .returned (.tuple #[.int .i64 0, .int .i64 1]) ∧ Below w.heap.size w w' := by
  have E := ((Env.nil w).add w.heap.size 25 #[.int .i64 a, .int .i64 b, .int .i64 c, .int .i64 d, .int .i64 e, .int .i64 f] rfl).add (w.heap.size + 1) 25 #[.int .i64 a', .int .i64 b', .int .i64 c', .int .i64 d', .int .i64 e', .int .i64 f'] (by simp)
  have v1 := fun W => valid_any a b c d e f W
  have v2 := fun W => valid_any a' b' c' d' e' f' W
  have C := E.cells
  simp [BC, CF] at C
  cases hv1 : vB a b c d e f
  · rw [hv1] at v1
    clear hv1 hv v2
    go_enter Try.func12, Try.ntmps12
    go_wp2_with (go_at_call 22; ((with_reducible refine (v1 _).mono ?_); rintro X W0 ⟨rfl, hb⟩; replace E := E.on hb; replace C := E.cells; simp [BC, CF] at C; clear hb))
    refine bodyPost_ret (v := .tuple #[.int .i64 0, .int .i64 1]) (by simp [results, Try.results12, go_sem, C]) rfl ⟨rfl, ?_⟩
    exact E.1
  · have hv2 : vB a' b' c' d' e' f' = false := by rcases hv with h | h; rw [hv1] at h; cases h; exact h
    rw [hv1] at v1
    rw [hv2] at v2
    clear hv1 hv2 hv
    go_enter Try.func12, Try.ntmps12
    go_wp2_with (go_at_call 22; first | ((with_reducible refine (v1 _).mono ?_); rintro X W0 ⟨rfl, hb⟩; replace E := E.on hb; replace C := E.cells; simp [BC, CF] at C; clear hb) | ((with_reducible refine (v2 _).mono ?_); rintro X W0 ⟨rfl, hb⟩; replace E := E.on hb; replace C := E.cells; simp [BC, CF] at C; clear hb))
    refine bodyPost_ret (v := .tuple #[.int .i64 0, .int .i64 1]) (by simp [results, Try.results12, go_sem, C]) rfl ⟨rfl, ?_⟩
    exact E.1
set_option maxHeartbeats 4000000 in
set_option maxRecDepth 100000 in
theorem gap_ok (a b c d e f a' b' c' d' e' f' x y z : Int) (w : World) (hv1 : vB a b c d e f = true) (hv2 : vB a' b' c' d' e' f' = true) (k0 : Fn 60 #[.agg #[.int .i64 a, .int .i64 d], .agg #[.int .i64 a', .int .i64 d']] (.int .i64 x)) (k1 : Fn 60 #[.agg #[.int .i64 b, .int .i64 e], .agg #[.int .i64 b', .int .i64 e']] (.int .i64 y)) (k2 : Fn 60 #[.agg #[.int .i64 c, .int .i64 f], .agg #[.int .i64 c', .int .i64 f']] (.int .i64 z)) :
    Calls Try.prog 11 #[.agg #[.int .i64 a, .int .i64 b, .int .i64 c, .int .i64 d, .int .i64 e, .int .i64 f], .agg #[.int .i64 a', .int .i64 b', .int .i64 c', .int .i64 d', .int .i64 e', .int .i64 f']] w fun E w' => E = .returned (.tuple #[.int .i64 (mx (mx x y) z), .int .i64 0]) ∧ Below w.heap.size w w' := by
  have hg := fun W => gaps_any a b c d e f a' b' c' d' e' f' x y z W k0 k1 k2
  clear k0 k1 k2
  have E := ((Env.nil w).add w.heap.size 25 #[.int .i64 a, .int .i64 b, .int .i64 c, .int .i64 d, .int .i64 e, .int .i64 f] rfl).add (w.heap.size + 1) 25 #[.int .i64 a', .int .i64 b', .int .i64 c', .int .i64 d', .int .i64 e', .int .i64 f'] (by simp)
  have v1 := fun W => valid_any a b c d e f W
  have v2 := fun W => valid_any a' b' c' d' e' f' W
  rw [hv1] at v1
  rw [hv2] at v2
  clear hv1 hv2
  have C := E.cells
  simp [BC, CF] at C
  go_enter Try.func11, Try.ntmps11
  go_wp2_with (first | (go_at_call 22; first | ((with_reducible refine (v1 _).mono ?_); rintro X W0 ⟨rfl, hb⟩; replace E := E.on hb; replace C := E.cells; simp [BC, CF] at C; clear hb) | ((with_reducible refine (v2 _).mono ?_); rintro X W0 ⟨rfl, hb⟩; replace E := E.on hb; replace C := E.cells; simp [BC, CF] at C; clear hb)) | (go_at_call 38; (with_reducible refine (hg _).mono ?_); rintro X w5 ⟨rfl, hb⟩; replace E := (E.on hb).add w5.heap.size 62 #[.int .i64 x, .int .i64 y, .int .i64 z] rfl; replace C := E.cells; simp [BC, CF] at C; clear hb) | (go_at_call 39; refine (max3 x y z _ _ (by simp [C]) (by simp [C]) (by simp [C])).mono ?_; rintro X w6 ⟨rfl, rfl⟩))
  refine bodyPost_ret (v := .tuple #[.int .i64 (mx (mx x y) z), .int .i64 0]) (by simp [results, Try.results11, go_sem, C]) rfl ⟨rfl, E.1⟩
def pq (x : Int) : Int := if 0 < x then x * x else 0
set_option maxHeartbeats 4000000 in
set_option maxRecDepth 100000 in
theorem square_ok (a b c d e f a' b' c' d' e' f' x y z : Int) (w : World) (hv1 : vB a b c d e f = true) (hv2 : vB a' b' c' d' e' f' = true) (k0 : Fn 60 #[.agg #[.int .i64 a, .int .i64 d], .agg #[.int .i64 a', .int .i64 d']] (.int .i64 x)) (k1 : Fn 60 #[.agg #[.int .i64 b, .int .i64 e], .agg #[.int .i64 b', .int .i64 e']] (.int .i64 y)) (k2 : Fn 60 #[.agg #[.int .i64 c, .int .i64 f], .agg #[.int .i64 c', .int .i64 f']] (.int .i64 z)) (S : Nat → Int) (s0 : S 0 = 0) (hs0 : S 0 + pq x = S 1) (hs1 : S 1 + pq y = S 2) (hs2 : S 2 + pq z = S 3) (hS : ∀ i, i ≤ 3 → 0 ≤ S i ∧ S i ≤ 9000000000000000000) :
    Calls Try.prog 12 #[.agg #[.int .i64 a, .int .i64 b, .int .i64 c, .int .i64 d, .int .i64 e, .int .i64 f], .agg #[.int .i64 a', .int .i64 b', .int .i64 c', .int .i64 d', .int .i64 e', .int .i64 f']] w fun E w' => E = .returned (.tuple #[.int .i64 (pq x + pq y + pq z), .int .i64 0]) ∧ Below w.heap.size w w' := by
  have hg := fun W => gaps_any a b c d e f a' b' c' d' e' f' x y z W k0 k1 k2
  clear k0 k1 k2
  have E := ((Env.nil w).add w.heap.size 25 #[.int .i64 a, .int .i64 b, .int .i64 c, .int .i64 d, .int .i64 e, .int .i64 f] rfl).add (w.heap.size + 1) 25 #[.int .i64 a', .int .i64 b', .int .i64 c', .int .i64 d', .int .i64 e', .int .i64 f'] (by simp)
  have v1 := fun W => valid_any a b c d e f W
  have v2 := fun W => valid_any a' b' c' d' e' f' W
  rw [hv1] at v1
  rw [hv2] at v2
  clear hv1 hv2
  have C := E.cells
  simp [BC, CF] at C
  have e : pq x + pq y + pq z = S 3 := by omega
  rw [e]
  clear e
  go_enter Try.func12, Try.ntmps12
  go_wp2_with (first | (go_at_call 22; first | ((with_reducible refine (v1 _).mono ?_); rintro X W0 ⟨rfl, hb⟩; replace E := E.on hb; replace C := E.cells; simp [BC, CF] at C; clear hb) | ((with_reducible refine (v2 _).mono ?_); rintro X W0 ⟨rfl, hb⟩; replace E := E.on hb; replace C := E.cells; simp [BC, CF] at C; clear hb)) | (go_at_call 38; (with_reducible refine (hg _).mono ?_); rintro X w5 ⟨rfl, hb⟩; replace E := E.on hb; replace C := E.cells; simp [BC, CF] at C; clear hb))
  have B := E.1
  clear E C hg v1 v2
  go_loopw [6, 20] (fun v6 v20 wr => ∃ i : Nat, v20 = .int .i64 (i : Int) ∧ v6 = .int .i64 (S i) ∧ i ≤ 3 ∧ Below w.heap.size w wr) (fun _ v _ => 3 - (intOf v).toNat)
  case atStart => exact ⟨0, rfl, by rw [s0], by omega, B⟩
  case round =>
    clear B
    obtain ⟨i, rfl, rfl, hi, B⟩ := hrel
    have q0 := fun W => ixg0 x y z W
    have q1 := fun W => ixg1 x y z W
    have q2 := fun W => ixg2 x y z W
    rcases (by omega : i = 0 ∨ i = 1 ∨ i = 2 ∨ i = 3) with rfl | rfl | rfl | rfl
    · have a0 := hS 0 (by omega)
      have a1 := hS 1 (by omega)
      have h := hs0
      by_cases hp : 0 < x
      · have e : pq x = x * x := if_pos hp
        rw [e] at h
        have W1 : IntKind.i64.wrap (x * x) = x * x := IntWalk.i64_in _ (by omega)
        have W2 : IntKind.i64.wrap (S 0 + x * x) = S 0 + x * x := IntWalk.i64_in _ (by omega)
        have H := Lib.hid h
        clear h e s0 hs0 hs1 hs2 hS a0 a1
        go_wp2
        exact ⟨⟨1, rfl, by rw [H.out], by omega, B⟩, by simp [intOf]⟩
      · have e : pq x = 0 := if_neg hp
        rw [e, Int.add_zero] at h
        have H := Lib.hid h
        clear h e s0 hs0 hs1 hs2 hS a0 a1
        go_wp2
        exact ⟨⟨1, rfl, by rw [H.out], by omega, B⟩, by simp [intOf]⟩
    · have a0 := hS 1 (by omega)
      have a1 := hS 2 (by omega)
      have h := hs1
      by_cases hp : 0 < y
      · have e : pq y = y * y := if_pos hp
        rw [e] at h
        have W1 : IntKind.i64.wrap (y * y) = y * y := IntWalk.i64_in _ (by omega)
        have W2 : IntKind.i64.wrap (S 1 + y * y) = S 1 + y * y := IntWalk.i64_in _ (by omega)
        have H := Lib.hid h
        clear h e s0 hs0 hs1 hs2 hS a0 a1
        go_wp2
        exact ⟨⟨2, rfl, by rw [H.out], by omega, B⟩, by simp [intOf]⟩
      · have e : pq y = 0 := if_neg hp
        rw [e, Int.add_zero] at h
        have H := Lib.hid h
        clear h e s0 hs0 hs1 hs2 hS a0 a1
        go_wp2
        exact ⟨⟨2, rfl, by rw [H.out], by omega, B⟩, by simp [intOf]⟩
    · have a0 := hS 2 (by omega)
      have a1 := hS 3 (by omega)
      have h := hs2
      by_cases hp : 0 < z
      · have e : pq z = z * z := if_pos hp
        rw [e] at h
        have W1 : IntKind.i64.wrap (z * z) = z * z := IntWalk.i64_in _ (by omega)
        have W2 : IntKind.i64.wrap (S 2 + z * z) = S 2 + z * z := IntWalk.i64_in _ (by omega)
        have H := Lib.hid h
        clear h e s0 hs0 hs1 hs2 hS a0 a1
        go_wp2
        exact ⟨⟨3, rfl, by rw [H.out], by omega, B⟩, by simp [intOf]⟩
      · have e : pq z = 0 := if_neg hp
        rw [e, Int.add_zero] at h
        have H := Lib.hid h
        clear h e s0 hs0 hs1 hs2 hS a0 a1
        go_wp2
        exact ⟨⟨3, rfl, by rw [H.out], by omega, B⟩, by simp [intOf]⟩
    · go_wp2
      refine bodyPost_ret (v := .tuple #[.int .i64 (S 3), .int .i64 0]) (by simp [results, Try.results12, go_sem]) rfl ⟨rfl, B⟩
end Go.Proofs.Ytffigpkkdljaiaa
