/- box.Square. -/
import Derived.Test.YtfkcogocaecodaaSt
import Derived.Deep.CutBlock
namespace Go.Proofs.Ytfkcogocaecodaa
open Go.ChangeShapes Go.WideShapes Go.ChangeAt Go.RowKit
set_option linter.unusedVariables false
set_option linter.unusedSimpArgs false
theorem sdgap_any (p1 p2 q1 q2 : Int) (w : World) (h1 : Sml p1) (h2 : Sml p2) (h3 : Sml q1) (h4 : Sml q2) :
    Calls Try.prog 63 #[.agg #[.int .i64 p1, .int .i64 p2], .agg #[.int .i64 q1, .int .i64 q2]] w fun e w' => e = .returned (.int .i64 (gapS p1 p2 q1 q2)) ∧ Below w.heap.size w w' := by
  unfold Sml at *
  have W1 : IntKind.i64.wrap (q1 - p2) = q1 - p2 := IntWalk.i64_in _ (by omega)
  have W2 : IntKind.i64.wrap (p1 - q2) = p1 - q2 := IntWalk.i64_in _ (by omega)
  unfold gapS
  go_enter Try.func63, Try.ntmps63
  go_wp2
  all_goals go_ret
  all_goals exact ⟨ret_one (by unfold mx; split <;> omega), al (al1 _ _) _⟩

def G3 (i : Nat) (x y z : Int) : Array Value := #[.int .i64 (if 0 < i then x else 0), .int .i64 (if 1 < i then y else 0), .int .i64 (if 2 < i then z else 0)]
def Lgp (n g k i : Nat) (a b c d e f a' b' c' d' e' f' x y z : Int) : List Fb := [⟨k, 112, #[.int .i64 a', .int .i64 d', .int .i64 b', .int .i64 e', .int .i64 c', .int .i64 f']⟩, ⟨g, 112, #[.int .i64 a, .int .i64 d, .int .i64 b, .int .i64 e, .int .i64 c, .int .i64 f]⟩, ⟨n + 1 + 1 + 1, 89, G3 i x y z⟩, ⟨n + 1 + 1, 89, #[.int .i64 0, .int .i64 0, .int .i64 0]⟩, ⟨n + 1, 54, #[.int .i64 a', .int .i64 b', .int .i64 c', .int .i64 d', .int .i64 e', .int .i64 f']⟩, ⟨n, 54, #[.int .i64 a, .int .i64 b, .int .i64 c, .int .i64 d, .int .i64 e, .int .i64 f]⟩]
set_option maxHeartbeats 8000000 in
set_option maxRecDepth 100000 in
theorem gaps_any (a b c d e f a' b' c' d' e' f' x y z : Int) (w : World) (k0 : Fn 63 #[.agg #[.int .i64 a, .int .i64 d], .agg #[.int .i64 a', .int .i64 d']] (.int .i64 x)) (k1 : Fn 63 #[.agg #[.int .i64 b, .int .i64 e], .agg #[.int .i64 b', .int .i64 e']] (.int .i64 y)) (k2 : Fn 63 #[.agg #[.int .i64 c, .int .i64 f], .agg #[.int .i64 c', .int .i64 f']] (.int .i64 z)) :
    Calls Try.prog 45 #[.agg #[.int .i64 a, .int .i64 b, .int .i64 c, .int .i64 d, .int .i64 e, .int .i64 f], .agg #[.int .i64 a', .int .i64 b', .int .i64 c', .int .i64 d', .int .i64 e', .int .i64 f']] w fun E w' => E = .returned (.agg #[.int .i64 x, .int .i64 y, .int .i64 z]) ∧ Below w.heap.size w w' := by
  unfold Fn at k0 k1 k2
  have E := ((((Env.nil w).add w.heap.size 54 #[.int .i64 a, .int .i64 b, .int .i64 c, .int .i64 d, .int .i64 e, .int .i64 f] rfl).add (w.heap.size + 1) 54 #[.int .i64 a', .int .i64 b', .int .i64 c', .int .i64 d', .int .i64 e', .int .i64 f'] (by simp)).add (w.heap.size + 1 + 1) 89 #[.int .i64 0, .int .i64 0, .int .i64 0] (by simp)).add (w.heap.size + 1 + 1 + 1) 89 #[.int .i64 0, .int .i64 0, .int .i64 0] (by simp)
  have h1 := fun W => sides_any a b c d e f W
  have h2 := fun W => sides_any a' b' c' d' e' f' W
  go_enter Try.func45, Try.ntmps45
  go_upto_region 2 with fail
  have E' : ∃ W0, W0 = _ ∧ Env w W0 _ := ⟨_, rfl, E⟩
  clear E
  obtain ⟨W0, hW0, E⟩ := E'
  rw [← hW0]
  clear hW0
  have C := E.cells
  simp [BC, CF] at C
  go_cut [6, 7] (fun s t wx => ∃ g k : Nat, s = .pointer (some ⟨g, 0, none⟩) ∧ t = .pointer (some ⟨k, 0, none⟩) ∧ Env w wx [⟨k, 112, #[.int .i64 a', .int .i64 d', .int .i64 b', .int .i64 e', .int .i64 c', .int .i64 f']⟩, ⟨g, 112, #[.int .i64 a, .int .i64 d, .int .i64 b, .int .i64 e, .int .i64 c, .int .i64 f]⟩, ⟨w.heap.size + 1 + 1 + 1, 89, #[.int .i64 0, .int .i64 0, .int .i64 0]⟩, ⟨w.heap.size + 1 + 1, 89, #[.int .i64 0, .int .i64 0, .int .i64 0]⟩, ⟨w.heap.size + 1, 54, #[.int .i64 a', .int .i64 b', .int .i64 c', .int .i64 d', .int .i64 e', .int .i64 f']⟩, ⟨w.heap.size, 54, #[.int .i64 a, .int .i64 b, .int .i64 c, .int .i64 d, .int .i64 e, .int .i64 f]⟩])
  case first =>
    go_region_law (go_simp; go_at_call 61; first
      | ((with_reducible refine (h1 _).mono ?_); rintro X w1 ⟨rfl, hb⟩; first
          | with_reducible have E := E.on hb
          | with_reducible have E := E.drw.on hb
          | with_reducible have E := (E.add _ _ _ rfl).drw.on hb
          | with_reducible have E := ((E.add _ _ _ rfl).add _ _ _ (sz1 rfl)).drw.on hb
          | with_reducible have E := (E.add _ _ _ rfl).on hb
          | with_reducible have E := ((E.add _ _ _ rfl).add _ _ _ (sz1 rfl)).on hb
         have C := E.cells
         simp only [BC, CF, Nat.reduceAdd] at C
         clear hb)
      | ((with_reducible refine (h2 _).mono ?_); rintro X w1 ⟨rfl, hb⟩; first
          | with_reducible have E := E.on hb
          | with_reducible have E := E.drw.on hb
          | with_reducible have E := (E.add _ _ _ rfl).drw.on hb
          | with_reducible have E := ((E.add _ _ _ rfl).add _ _ _ (sz1 rfl)).drw.on hb
          | with_reducible have E := (E.add _ _ _ rfl).on hb
          | with_reducible have E := ((E.add _ _ _ rfl).add _ _ _ (sz1 rfl)).on hb
         have C := E.cells
         simp only [BC, CF, Nat.reduceAdd] at C
         clear hb))
    all_goals (go_wp2_with fail)
    all_goals go_meet
    all_goals refine ⟨_, _, rfl, rfl, ?_⟩
    all_goals (repeat with_reducible refine Env.drw ?_)
    all_goals first
      | with_reducible exact tw1 E
      | with_reducible exact tw2 E
      | with_reducible exact tw3 E
      | with_reducible exact tw4 E
      | with_reducible exact tw5 E
      | with_reducible exact tw6 E
      | with_reducible exact tw7 E
  case rest =>
    clear E C h1 h2
    obtain ⟨g, k, rfl, rfl, E⟩ := hcut
    go_wp2
    go_loopw [13] (fun v wr => ∃ i : Nat, v = .int .i64 (i : Int) ∧ i ≤ 3 ∧ Env w wr (Lgp w.heap.size g k i a b c d e f a' b' c' d' e' f' x y z)) (fun v _ => 3 - (intOf v).toNat)
    case atStart => exact ⟨0, rfl, by omega, E⟩
    case round =>
    clear E
    obtain ⟨i, rfl, hi, E⟩ := hrel
    rcases (by omega : i = 0 ∨ i = 1 ∨ i = 2 ∨ i = 3) with rfl | rfl | rfl | rfl
    · have C := E.cells
      simp [BC, CF, Lgp, G3] at C
      go_wp2
      go_region_law (go_simp; go_at_call 63; (with_reducible refine (k0 _).mono ?_); rintro X w1 ⟨rfl, hb⟩; (first | have E := E.drw.on hb | have E := E.on hb); have C := E.cells; simp [BC, CF, Lgp, G3] at C; clear hb)
      all_goals go_wp2
      all_goals go_roundw
      all_goals first | exact ⟨1, rfl, by omega, E.put 2 0 _ rfl⟩ | (simp [intOf])
    · have C := E.cells
      simp [BC, CF, Lgp, G3] at C
      go_wp2
      go_region_law (go_simp; go_at_call 63; (with_reducible refine (k1 _).mono ?_); rintro X w1 ⟨rfl, hb⟩; (first | have E := E.drw.on hb | have E := E.on hb); have C := E.cells; simp [BC, CF, Lgp, G3] at C; clear hb)
      all_goals go_wp2
      all_goals go_roundw
      all_goals first | exact ⟨2, rfl, by omega, E.put 2 1 _ rfl⟩ | (simp [intOf])
    · have C := E.cells
      simp [BC, CF, Lgp, G3] at C
      go_wp2
      go_region_law (go_simp; go_at_call 63; (with_reducible refine (k2 _).mono ?_); rintro X w1 ⟨rfl, hb⟩; (first | have E := E.drw.on hb | have E := E.on hb); have C := E.cells; simp [BC, CF, Lgp, G3] at C; clear hb)
      all_goals go_wp2
      all_goals go_roundw
      all_goals first | exact ⟨3, rfl, by omega, E.put 2 2 _ rfl⟩ | (simp [intOf])
    · have C := E.cells
      simp [BC, CF, Lgp, G3] at C
      go_wp2
      refine bodyPost_ret (v := .agg #[.int .i64 x, .int .i64 y, .int .i64 z]) (by simp [results, Try.results45, go_sem, C]) rfl ⟨rfl, ?_⟩
      exact (((E.put 3 0 _ rfl).put 3 1 _ rfl).put 3 2 _ rfl).1


theorem ixg0 (a b c : Int) (w : World) : Sem.run Try.prog (Instr.index 89 (.agg #[.int .i64 a, .int .i64 b, .int .i64 c]) (.int .i64 0)) w = .ok (.int .i64 a) w := by
  simp [Instr.index, go_sem, Try.underlying89]
theorem ixg1 (a b c : Int) (w : World) : Sem.run Try.prog (Instr.index 89 (.agg #[.int .i64 a, .int .i64 b, .int .i64 c]) (.int .i64 1)) w = .ok (.int .i64 b) w := by
  simp [Instr.index, go_sem, Try.underlying89]
theorem ixg2 (a b c : Int) (w : World) : Sem.run Try.prog (Instr.index 89 (.agg #[.int .i64 a, .int .i64 b, .int .i64 c]) (.int .i64 2)) w = .ok (.int .i64 c) w := by
  simp [Instr.index, go_sem, Try.underlying89]
set_option maxHeartbeats 4000000 in
set_option maxRecDepth 100000 in
theorem square_arg (a b c d e f a' b' c' d' e' f' : Int) (w : World) (hv : vB a b c d e f = false ∨ vB a' b' c' d' e' f' = false) :
    Calls Try.prog 21 #[.agg #[.int .i64 a, .int .i64 b, .int .i64 c, .int .i64 d, .int .i64 e, .int .i64 f], .agg #[.int .i64 a', .int .i64 b', .int .i64 c', .int .i64 d', .int .i64 e', .int .i64 f']] w fun E w' => E = .returned (.tuple #[.int .i64 0, .int .i64 1]) ∧ Below w.heap.size w w' := by
  have E := ((Env.nil w).add w.heap.size 54 #[.int .i64 a, .int .i64 b, .int .i64 c, .int .i64 d, .int .i64 e, .int .i64 f] rfl).add (w.heap.size + 1) 54 #[.int .i64 a', .int .i64 b', .int .i64 c', .int .i64 d', .int .i64 e', .int .i64 f'] (by simp)
  have v1 := fun W => valid_any a b c d e f W
  have v2 := fun W => valid_any a' b' c' d' e' f' W
  have C := E.cells
  simp [BC, CF] at C
  cases hv1 : vB a b c d e f
  · rw [hv1] at v1
    clear hv1 hv v2
    go_enter Try.func21, Try.ntmps21
    go_wp2_with (go_at_call 44; ((with_reducible refine (v1 _).mono ?_); rintro X W0 ⟨rfl, hb⟩; replace E := E.on hb; replace C := E.cells; simp [BC, CF] at C; clear hb))
    refine bodyPost_ret (v := .tuple #[.int .i64 0, .int .i64 1]) (by simp [results, Try.results21, go_sem, C]) rfl ⟨rfl, ?_⟩
    exact E.1
  · have hv2 : vB a' b' c' d' e' f' = false := by rcases hv with h | h; rw [hv1] at h; cases h; exact h
    rw [hv1] at v1
    rw [hv2] at v2
    clear hv1 hv2 hv
    go_enter Try.func21, Try.ntmps21
    go_wp2_with (go_at_call 44; first | ((with_reducible refine (v1 _).mono ?_); rintro X W0 ⟨rfl, hb⟩; replace E := E.on hb; replace C := E.cells; simp [BC, CF] at C; clear hb) | ((with_reducible refine (v2 _).mono ?_); rintro X W0 ⟨rfl, hb⟩; replace E := E.on hb; replace C := E.cells; simp [BC, CF] at C; clear hb))
    refine bodyPost_ret (v := .tuple #[.int .i64 0, .int .i64 1]) (by simp [results, Try.results21, go_sem, C]) rfl ⟨rfl, ?_⟩
    exact E.1
def pq (x : Int) : Int := if 0 < x then x * x else 0
set_option maxHeartbeats 4000000 in
set_option maxRecDepth 100000 in
theorem square_ok (a b c d e f a' b' c' d' e' f' x y z : Int) (w : World) (hv1 : vB a b c d e f = true) (hv2 : vB a' b' c' d' e' f' = true) (k0 : Fn 63 #[.agg #[.int .i64 a, .int .i64 d], .agg #[.int .i64 a', .int .i64 d']] (.int .i64 x)) (k1 : Fn 63 #[.agg #[.int .i64 b, .int .i64 e], .agg #[.int .i64 b', .int .i64 e']] (.int .i64 y)) (k2 : Fn 63 #[.agg #[.int .i64 c, .int .i64 f], .agg #[.int .i64 c', .int .i64 f']] (.int .i64 z)) (S : Nat → Int) (s0 : S 0 = 0) (hs0 : S 0 + pq x = S 1) (hs1 : S 1 + pq y = S 2) (hs2 : S 2 + pq z = S 3) (hS : ∀ i, i ≤ 3 → 0 ≤ S i ∧ S i ≤ 9000000000000000000) :
    Calls Try.prog 21 #[.agg #[.int .i64 a, .int .i64 b, .int .i64 c, .int .i64 d, .int .i64 e, .int .i64 f], .agg #[.int .i64 a', .int .i64 b', .int .i64 c', .int .i64 d', .int .i64 e', .int .i64 f']] w fun E w' => E = .returned (.tuple #[.int .i64 (pq x + pq y + pq z), .int .i64 0]) ∧ Below w.heap.size w w' := by
  have hg := fun W => gaps_any a b c d e f a' b' c' d' e' f' x y z W k0 k1 k2
  clear k0 k1 k2
  have E := ((Env.nil w).add w.heap.size 54 #[.int .i64 a, .int .i64 b, .int .i64 c, .int .i64 d, .int .i64 e, .int .i64 f] rfl).add (w.heap.size + 1) 54 #[.int .i64 a', .int .i64 b', .int .i64 c', .int .i64 d', .int .i64 e', .int .i64 f'] (by simp)
  have v1 := fun W => valid_any a b c d e f W
  have v2 := fun W => valid_any a' b' c' d' e' f' W
  rw [hv1] at v1
  rw [hv2] at v2
  clear hv1 hv2
  have C := E.cells
  simp [BC, CF] at C
  have e : pq x + pq y + pq z = S 3 := by omega
  rw [e]
  clear e
  go_enter Try.func21, Try.ntmps21
  go_wp2_with (first | (go_at_call 44; first | ((with_reducible refine (v1 _).mono ?_); rintro X W0 ⟨rfl, hb⟩; replace E := E.on hb; replace C := E.cells; simp [BC, CF] at C; clear hb) | ((with_reducible refine (v2 _).mono ?_); rintro X W0 ⟨rfl, hb⟩; replace E := E.on hb; replace C := E.cells; simp [BC, CF] at C; clear hb)) | (go_at_call 45; (with_reducible refine (hg _).mono ?_); rintro X w5 ⟨rfl, hb⟩; replace E := E.on hb; replace C := E.cells; simp [BC, CF] at C; clear hb))
  have B := E.1
  clear E C hg v1 v2
  go_loopw [6, 20] (fun v6 v20 wr => ∃ i : Nat, v20 = .int .i64 (i : Int) ∧ v6 = .int .i64 (S i) ∧ i ≤ 3 ∧ Below w.heap.size w wr) (fun _ v _ => 3 - (intOf v).toNat)
  case atStart => exact ⟨0, rfl, by rw [s0], by omega, B⟩
  case round =>
    clear B
    obtain ⟨i, rfl, rfl, hi, B⟩ := hrel
    have q0 := fun W => ixg0 x y z W
    have q1 := fun W => ixg1 x y z W
    have q2 := fun W => ixg2 x y z W
    rcases (by omega : i = 0 ∨ i = 1 ∨ i = 2 ∨ i = 3) with rfl | rfl | rfl | rfl
    · have a0 := hS 0 (by omega)
      have a1 := hS 1 (by omega)
      have h := hs0
      by_cases hp : 0 < x
      · have e : pq x = x * x := if_pos hp
        rw [e] at h
        have W1 : IntKind.i64.wrap (x * x) = x * x := IntWalk.i64_in _ (by omega)
        have W2 : IntKind.i64.wrap (S 0 + x * x) = S 0 + x * x := IntWalk.i64_in _ (by omega)
        have H := Lib.hid h
        clear h e s0 hs0 hs1 hs2 hS a0 a1
        go_wp2
        exact ⟨⟨1, rfl, by rw [H.out], by omega, B⟩, by simp [intOf]⟩
      · have e : pq x = 0 := if_neg hp
        rw [e, Int.add_zero] at h
        have H := Lib.hid h
        clear h e s0 hs0 hs1 hs2 hS a0 a1
        go_wp2
        exact ⟨⟨1, rfl, by rw [H.out], by omega, B⟩, by simp [intOf]⟩
    · have a0 := hS 1 (by omega)
      have a1 := hS 2 (by omega)
      have h := hs1
      by_cases hp : 0 < y
      · have e : pq y = y * y := if_pos hp
        rw [e] at h
        have W1 : IntKind.i64.wrap (y * y) = y * y := IntWalk.i64_in _ (by omega)
        have W2 : IntKind.i64.wrap (S 1 + y * y) = S 1 + y * y := IntWalk.i64_in _ (by omega)
        have H := Lib.hid h
        clear h e s0 hs0 hs1 hs2 hS a0 a1
        go_wp2
        exact ⟨⟨2, rfl, by rw [H.out], by omega, B⟩, by simp [intOf]⟩
      · have e : pq y = 0 := if_neg hp
        rw [e, Int.add_zero] at h
        have H := Lib.hid h
        clear h e s0 hs0 hs1 hs2 hS a0 a1
        go_wp2
        exact ⟨⟨2, rfl, by rw [H.out], by omega, B⟩, by simp [intOf]⟩
    · have a0 := hS 2 (by omega)
      have a1 := hS 3 (by omega)
      have h := hs2
      by_cases hp : 0 < z
      · have e : pq z = z * z := if_pos hp
        rw [e] at h
        have W1 : IntKind.i64.wrap (z * z) = z * z := IntWalk.i64_in _ (by omega)
        have W2 : IntKind.i64.wrap (S 2 + z * z) = S 2 + z * z := IntWalk.i64_in _ (by omega)
        have H := Lib.hid h
        clear h e s0 hs0 hs1 hs2 hS a0 a1
        go_wp2
        exact ⟨⟨3, rfl, by rw [H.out], by omega, B⟩, by simp [intOf]⟩
      · have e : pq z = 0 := if_neg hp
        rw [e, Int.add_zero] at h
        have H := Lib.hid h
        clear h e s0 hs0 hs1 hs2 hS a0 a1
        go_wp2
        exact ⟨⟨3, rfl, by rw [H.out], by omega, B⟩, by simp [intOf]⟩
    · go_wp2
      refine bodyPost_ret (v := .tuple #[.int .i64 (S 3), .int .i64 0]) (by simp [results, Try.results21, go_sem]) rfl ⟨rfl, B⟩
end Go.Proofs.Ytfkcogocaecodaa
