/- gaps. Gap, Square. Contains. -/
import Derived.Test.YtkgaahmehmbfjaaZ1
namespace Go.Proofs.Ytkgaahmehmbfjaa
open Go.ChangeShapes Go.WideShapes Go.ChangeAt Go.RowKit
set_option linter.unusedVariables false
set_option linter.unusedSimpArgs false

def G3 (i : Nat) (x y z : Int) : Array Value := #[.int .i64 (if 0 < i then x else 0), .int .i64 (if 1 < i then y else 0), .int .i64 (if 2 < i then z else 0)]
def Lgp (n g k i : Nat) (a b c d e f a' b' c' d' e' f' x y z : Int) : List Fb := [⟨k, 97, #[.int .i64 a', .int .i64 d', .int .i64 b', .int .i64 e', .int .i64 c', .int .i64 f']⟩, ⟨g, 97, #[.int .i64 a, .int .i64 d, .int .i64 b, .int .i64 e, .int .i64 c, .int .i64 f]⟩, ⟨n + 1 + 1 + 1, 92, G3 i x y z⟩, ⟨n + 1 + 1, 92, #[.int .i64 0, .int .i64 0, .int .i64 0]⟩, ⟨n + 1, 30, #[.int .i64 a', .int .i64 b', .int .i64 c', .int .i64 d', .int .i64 e', .int .i64 f']⟩, ⟨n, 30, #[.int .i64 a, .int .i64 b, .int .i64 c, .int .i64 d, .int .i64 e, .int .i64 f]⟩]
set_option maxHeartbeats 8000000 in
set_option maxRecDepth 100000 in
theorem gaps_any (a b c d e f a' b' c' d' e' f' x y z : Int) (w : World) (k0 : Fn 94 #[.agg #[.int .i64 a, .int .i64 d], .agg #[.int .i64 a', .int .i64 d']] (.int .i64 x)) (k1 : Fn 94 #[.agg #[.int .i64 b, .int .i64 e], .agg #[.int .i64 b', .int .i64 e']] (.int .i64 y)) (k2 : Fn 94 #[.agg #[.int .i64 c, .int .i64 f], .agg #[.int .i64 c', .int .i64 f']] (.int .i64 z)) :
    Calls Try.prog 64 #[.agg #[.int .i64 a, .int .i64 b, .int .i64 c, .int .i64 d, .int .i64 e, .int .i64 f], .agg #[.int .i64 a', .int .i64 b', .int .i64 c', .int .i64 d', .int .i64 e', .int .i64 f']] w fun E w' => E = .returned (.agg #[.int .i64 x, .int .i64 y, .int .i64 z]) ∧ Below w.heap.size w w' := by
  unfold Fn at k0 k1 k2
  have E := ((((Env.nil w).add w.heap.size 30 #[.int .i64 a, .int .i64 b, .int .i64 c, .int .i64 d, .int .i64 e, .int .i64 f] rfl).add (w.heap.size + 1) 30 #[.int .i64 a', .int .i64 b', .int .i64 c', .int .i64 d', .int .i64 e', .int .i64 f'] (by simp)).add (w.heap.size + 1 + 1) 92 #[.int .i64 0, .int .i64 0, .int .i64 0] (by simp)).add (w.heap.size + 1 + 1 + 1) 92 #[.int .i64 0, .int .i64 0, .int .i64 0] (by simp)
  have h1 := fun W => sides_any a b c d e f W
  have h2 := fun W => sides_any a' b' c' d' e' f' W
  go_enter Try.func64, Try.ntmps64
  go_upto_region 2 with fail
  have E' : ∃ W0, W0 = _ ∧ Env w W0 _ := ⟨_, rfl, E⟩
  clear E
  obtain ⟨W0, hW0, E⟩ := E'
  rw [← hW0]
  clear hW0
  have C := E.cells
  simp [BC, CF] at C
  go_cut [6, 7] (fun s t wx => ∃ g k : Nat, s = .pointer (some ⟨g, 0, none⟩) ∧ t = .pointer (some ⟨k, 0, none⟩) ∧ Env w wx [⟨k, 97, #[.int .i64 a', .int .i64 d', .int .i64 b', .int .i64 e', .int .i64 c', .int .i64 f']⟩, ⟨g, 97, #[.int .i64 a, .int .i64 d, .int .i64 b, .int .i64 e, .int .i64 c, .int .i64 f]⟩, ⟨w.heap.size + 1 + 1 + 1, 92, #[.int .i64 0, .int .i64 0, .int .i64 0]⟩, ⟨w.heap.size + 1 + 1, 92, #[.int .i64 0, .int .i64 0, .int .i64 0]⟩, ⟨w.heap.size + 1, 30, #[.int .i64 a', .int .i64 b', .int .i64 c', .int .i64 d', .int .i64 e', .int .i64 f']⟩, ⟨w.heap.size, 30, #[.int .i64 a, .int .i64 b, .int .i64 c, .int .i64 d, .int .i64 e, .int .i64 f]⟩])
  case first =>
    go_region_law (go_simp; go_at_call 66; first
      | ((with_reducible refine (h1 _).mono ?_); rintro X w1 ⟨rfl, hb⟩; first
          | with_reducible have E := E.on hb
          | with_reducible have E := E.drw.on hb
          | with_reducible have E := (E.add _ _ _ rfl).drw.on hb
          | with_reducible have E := ((E.add _ _ _ rfl).add _ _ _ (sz1 rfl)).drw.on hb
          | with_reducible have E := (E.add _ _ _ rfl).on hb
          | with_reducible have E := ((E.add _ _ _ rfl).add _ _ _ (sz1 rfl)).on hb
         have C := E.cells
         simp only [BC, CF, Nat.reduceAdd] at C
         clear hb)
      | ((with_reducible refine (h2 _).mono ?_); rintro X w1 ⟨rfl, hb⟩; first
          | with_reducible have E := E.on hb
          | with_reducible have E := E.drw.on hb
          | with_reducible have E := (E.add _ _ _ rfl).drw.on hb
          | with_reducible have E := ((E.add _ _ _ rfl).add _ _ _ (sz1 rfl)).drw.on hb
          | with_reducible have E := (E.add _ _ _ rfl).on hb
          | with_reducible have E := ((E.add _ _ _ rfl).add _ _ _ (sz1 rfl)).on hb
         have C := E.cells
         simp only [BC, CF, Nat.reduceAdd] at C
         clear hb))
    all_goals (go_wp2_with fail)
    all_goals go_meet
    all_goals refine ⟨_, _, rfl, rfl, ?_⟩
    all_goals (repeat with_reducible refine Env.drw ?_)
    all_goals first
      | with_reducible exact tw1 E
      | with_reducible exact tw2 E
      | with_reducible exact tw3 E
      | with_reducible exact tw4 E
      | with_reducible exact tw5 E
      | with_reducible exact tw6 E
      | with_reducible exact tw7 E
  case rest =>
    clear E C h1 h2
    obtain ⟨g, k, rfl, rfl, E⟩ := hcut
    go_wp2
    go_loopw [13] (fun v wr => ∃ i : Nat, v = .int .i64 (i : Int) ∧ i ≤ 3 ∧ Env w wr (Lgp w.heap.size g k i a b c d e f a' b' c' d' e' f' x y z)) (fun v _ => 3 - (intOf v).toNat)
    case atStart => exact ⟨0, rfl, by omega, E⟩
    case round =>
    clear E
    obtain ⟨i, rfl, hi, E⟩ := hrel
    rcases (by omega : i = 0 ∨ i = 1 ∨ i = 2 ∨ i = 3) with rfl | rfl | rfl | rfl
    · have C := E.cells
      simp [BC, CF, Lgp, G3] at C
      go_wp2
      go_region_law (go_simp; go_at_call 94; (with_reducible refine (k0 _).mono ?_); rintro X w1 ⟨rfl, hb⟩; (first | have E := E.drw.on hb | have E := E.on hb); have C := E.cells; simp [BC, CF, Lgp, G3] at C; clear hb)
      all_goals go_wp2
      all_goals go_roundw
      all_goals first | exact ⟨1, rfl, by omega, E.put 2 0 _ rfl⟩ | (simp [intOf])
    · have C := E.cells
      simp [BC, CF, Lgp, G3] at C
      go_wp2
      go_region_law (go_simp; go_at_call 94; (with_reducible refine (k1 _).mono ?_); rintro X w1 ⟨rfl, hb⟩; (first | have E := E.drw.on hb | have E := E.on hb); have C := E.cells; simp [BC, CF, Lgp, G3] at C; clear hb)
      all_goals go_wp2
      all_goals go_roundw
      all_goals first | exact ⟨2, rfl, by omega, E.put 2 1 _ rfl⟩ | (simp [intOf])
    · have C := E.cells
      simp [BC, CF, Lgp, G3] at C
      go_wp2
      go_region_law (go_simp; go_at_call 94; (with_reducible refine (k2 _).mono ?_); rintro X w1 ⟨rfl, hb⟩; (first | have E := E.drw.on hb | have E := E.on hb); have C := E.cells; simp [BC, CF, Lgp, G3] at C; clear hb)
      all_goals go_wp2
      all_goals go_roundw
      all_goals first | exact ⟨3, rfl, by omega, E.put 2 2 _ rfl⟩ | (simp [intOf])
    · have C := E.cells
      simp [BC, CF, Lgp, G3] at C
      go_wp2
      refine bodyPost_ret (v := .agg #[.int .i64 x, .int .i64 y, .int .i64 z]) (by simp [results, Try.results64, go_sem, C]) rfl ⟨rfl, ?_⟩
      exact (((E.put 3 0 _ rfl).put 3 1 _ rfl).put 3 2 _ rfl).1
end Go.Proofs.Ytkgaahmehmbfjaa
namespace Go.Proofs.Ytkgaahmehmbfjaa
open Go.ChangeShapes Go.WideShapes Go.ChangeAt Go.RowKit
set_option linter.unusedVariables false
set_option linter.unusedSimpArgs false

theorem max3 (x y z : Int) (g : Nat) (w : World) (h0 : w.cell? ⟨g, 0, none⟩ = some (.int .i64 x)) (h1 : w.cell? ⟨g, 1, none⟩ = some (.int .i64 y)) (h2 : w.cell? ⟨g, 2, none⟩ = some (.int .i64 z)) :
    Calls Try.prog 65 #[.slice (some ⟨g, 0, none⟩) 3 3] w fun E w' => E = .returned (.int .i64 (mx (mx x y) z)) ∧ w' = w := by
  go_enter Try.func65, Try.ntmps65
  go_wp2
  go_loopw [3, 4] (fun v3 v4 wr => wr = w ∧ (v4 = .int .i64 1 ∧ v3 = .int .i64 x ∨ v4 = .int .i64 2 ∧ v3 = .int .i64 (mx x y) ∨ v4 = .int .i64 3 ∧ v3 = .int .i64 (mx (mx x y) z))) (fun _ v _ => 3 - (intOf v).toNat)
  case atStart => exact ⟨rfl, .inl ⟨rfl, rfl⟩⟩
  case round =>
    obtain ⟨e0, ⟨rfl, rfl⟩ | ⟨rfl, rfl⟩ | ⟨rfl, rfl⟩⟩ := hrel
    all_goals subst e0
    · by_cases c : x < y
      · rw [mx_l c]
        go_wp2
        exact ⟨⟨by trivial, .inr (.inl ⟨rfl, rfl⟩)⟩, by simp [intOf]⟩
      · rw [mx_r c]
        go_wp2
        exact ⟨⟨by trivial, .inr (.inl ⟨rfl, rfl⟩)⟩, by simp [intOf]⟩
    · generalize mx x y = u at *
      by_cases c : u < z
      · rw [mx_l c]
        go_wp2
        exact ⟨⟨by trivial, .inr (.inr ⟨rfl, rfl⟩)⟩, by simp [intOf]⟩
      · rw [mx_r c]
        go_wp2
        exact ⟨⟨by trivial, .inr (.inr ⟨rfl, rfl⟩)⟩, by simp [intOf]⟩
    · go_wp2
      go_ret
      first | exact ⟨rfl, rfl⟩ | exact ⟨rfl, trivial⟩ | (simp; done)
theorem ixg0 (a b c : Int) (w : World) : Sem.run Try.prog (Instr.index 92 (.agg #[.int .i64 a, .int .i64 b, .int .i64 c]) (.int .i64 0)) w = .ok (.int .i64 a) w := by
  simp [Instr.index, go_sem, Try.underlying92]
theorem ixg1 (a b c : Int) (w : World) : Sem.run Try.prog (Instr.index 92 (.agg #[.int .i64 a, .int .i64 b, .int .i64 c]) (.int .i64 1)) w = .ok (.int .i64 b) w := by
  simp [Instr.index, go_sem, Try.underlying92]
theorem ixg2 (a b c : Int) (w : World) : Sem.run Try.prog (Instr.index 92 (.agg #[.int .i64 a, .int .i64 b, .int .i64 c]) (.int .i64 2)) w = .ok (.int .i64 c) w := by
  simp [Instr.index, go_sem, Try.underlying92]
set_option maxHeartbeats 4000000 in
set_option maxRecDepth 100000 in
theorem gap_arg (a b c d e f a' b' c' d' e' f' : Int) (w : World) (hv : vB a b c d e f = false ∨ vB a' b' c' d' e' f' = false) :
    Calls Try.prog 36 #[.agg #[.int .i64 a, .int .i64 b, .int .i64 c, .int .i64 d, .int .i64 e, .int .i64 f], .agg #[.int .i64 a', .int .i64 b', .int .i64 c', .int .i64 d', .int .i64 e', .int .i64 f']] w fun E w' => E = .returned (.tuple #[.int .i64 0, .int .i64 1]) ∧ Below w.heap.size w w' := by
  have E := ((Env.nil w).add w.heap.size 30 #[.int .i64 a, .int .i64 b, .int .i64 c, .int .i64 d, .int .i64 e, .int .i64 f] rfl).add (w.heap.size + 1) 30 #[.int .i64 a', .int .i64 b', .int .i64 c', .int .i64 d', .int .i64 e', .int .i64 f'] (by simp)
  have v1 := fun W => valid_any a b c d e f W
  have v2 := fun W => valid_any a' b' c' d' e' f' W
  have C := E.cells
  simp [BC, CF] at C
  cases hv1 : vB a b c d e f
  · rw [hv1] at v1
    clear hv1 hv v2
    go_enter Try.func36, Try.ntmps36
    go_wp2_with (go_at_call 46; ((with_reducible refine (v1 _).mono ?_); rintro X W0 ⟨rfl, hb⟩; replace E := E.on hb; replace C := E.cells; simp [BC, CF] at C; clear hb))
    refine bodyPost_ret (v := .tuple #[.int .i64 0, .int .i64 1]) (by simp [results, Try.results36, go_sem, C]) rfl ⟨rfl, ?_⟩
    exact E.1
  · have hv2 : vB a' b' c' d' e' f' = false := by rcases hv with h | h; rw [hv1] at h; cases h; exact h
    rw [hv1] at v1
    rw [hv2] at v2
    clear hv1 hv2 hv
    go_enter Try.func36, Try.ntmps36
    go_wp2_with (go_at_call 46; first | ((with_reducible refine (v1 _).mono ?_); rintro X W0 ⟨rfl, hb⟩; replace E := E.on hb; replace C := E.cells; simp [BC, CF] at C; clear hb) | ((with_reducible refine (v2 _).mono ?_); rintro X W0 ⟨rfl, hb⟩; replace E := E.on hb; replace C := E.cells; simp [BC, CF] at C; clear hb))
    refine bodyPost_ret (v := .tuple #[.int .i64 0, .int .i64 1]) (by simp [results, Try.results36, go_sem, C]) rfl ⟨rfl, ?_⟩
    exact E.1
set_option maxHeartbeats 4000000 in
set_option maxRecDepth 100000 in
theorem gap_ok (a b c d e f a' b' c' d' e' f' x y z : Int) (w : World) (hv1 : vB a b c d e f = true) (hv2 : vB a' b' c' d' e' f' = true) (k0 : Fn 94 #[.agg #[.int .i64 a, .int .i64 d], .agg #[.int .i64 a', .int .i64 d']] (.int .i64 x)) (k1 : Fn 94 #[.agg #[.int .i64 b, .int .i64 e], .agg #[.int .i64 b', .int .i64 e']] (.int .i64 y)) (k2 : Fn 94 #[.agg #[.int .i64 c, .int .i64 f], .agg #[.int .i64 c', .int .i64 f']] (.int .i64 z)) :
    Calls Try.prog 36 #[.agg #[.int .i64 a, .int .i64 b, .int .i64 c, .int .i64 d, .int .i64 e, .int .i64 f], .agg #[.int .i64 a', .int .i64 b', .int .i64 c', .int .i64 d', .int .i64 e', .int .i64 f']] w fun E w' => E = .returned (.tuple #[.int .i64 (mx (mx x y) z), .int .i64 0]) ∧ Below w.heap.size w w' := by
  have hg := fun W => gaps_any a b c d e f a' b' c' d' e' f' x y z W k0 k1 k2
  clear k0 k1 k2
  have E := ((Env.nil w).add w.heap.size 30 #[.int .i64 a, .int .i64 b, .int .i64 c, .int .i64 d, .int .i64 e, .int .i64 f] rfl).add (w.heap.size + 1) 30 #[.int .i64 a', .int .i64 b', .int .i64 c', .int .i64 d', .int .i64 e', .int .i64 f'] (by simp)
  have v1 := fun W => valid_any a b c d e f W
  have v2 := fun W => valid_any a' b' c' d' e' f' W
  rw [hv1] at v1
  rw [hv2] at v2
  clear hv1 hv2
  have C := E.cells
  simp [BC, CF] at C
  go_enter Try.func36, Try.ntmps36
  go_wp2_with (first | (go_at_call 46; first | ((with_reducible refine (v1 _).mono ?_); rintro X W0 ⟨rfl, hb⟩; replace E := E.on hb; replace C := E.cells; simp [BC, CF] at C; clear hb) | ((with_reducible refine (v2 _).mono ?_); rintro X W0 ⟨rfl, hb⟩; replace E := E.on hb; replace C := E.cells; simp [BC, CF] at C; clear hb)) | (go_at_call 64; (with_reducible refine (hg _).mono ?_); rintro X w5 ⟨rfl, hb⟩; replace E := (E.on hb).add w5.heap.size 92 #[.int .i64 x, .int .i64 y, .int .i64 z] rfl; replace C := E.cells; simp [BC, CF] at C; clear hb) | (go_at_call 65; refine (max3 x y z _ _ (by simp [C]) (by simp [C]) (by simp [C])).mono ?_; rintro X w6 ⟨rfl, rfl⟩))
  refine bodyPost_ret (v := .tuple #[.int .i64 (mx (mx x y) z), .int .i64 0]) (by simp [results, Try.results36, go_sem, C]) rfl ⟨rfl, E.1⟩
def pq (x : Int) : Int := if 0 < x then x * x else 0
end Go.Proofs.Ytkgaahmehmbfjaa
namespace Go.Proofs.Ytkgaahmehmbfjaa
open Go.ChangeShapes Go.WideShapes Go.ChangeAt Go.RowKit
set_option linter.unusedVariables false
set_option linter.unusedSimpArgs false

set_option maxHeartbeats 8000000 in
set_option maxRecDepth 100000 in
theorem con_ok (a b c d e f a' b' c' d' e' f' : Int) (w : World) (hv1 : vB a b c d e f = true) (hv2 : vB a' b' c' d' e' f' = true) :
    Calls Try.prog 37 #[.agg #[.int .i64 a, .int .i64 b, .int .i64 c, .int .i64 d, .int .i64 e, .int .i64 f], .agg #[.int .i64 a', .int .i64 b', .int .i64 c', .int .i64 d', .int .i64 e', .int .i64 f']] w fun E w' => E = .returned (.tuple #[.bool (conS a d a' d' && conS b e b' e' && conS c f c' f'), .int .i64 0]) ∧ Below w.heap.size w w' := by
  have E := ((Env.nil w).add w.heap.size 30 #[.int .i64 a, .int .i64 b, .int .i64 c, .int .i64 d, .int .i64 e, .int .i64 f] rfl).add (w.heap.size + 1) 30 #[.int .i64 a', .int .i64 b', .int .i64 c', .int .i64 d', .int .i64 e', .int .i64 f'] (by simp)
  have h1 := fun W => sides_any a b c d e f W
  have h2 := fun W => sides_any a' b' c' d' e' f' W
  have k0 := fun W => sdcon_any a d a' d' W
  have k1 := fun W => sdcon_any b e b' e' W
  have k2 := fun W => sdcon_any c f c' f' W
  generalize conS a d a' d' = x at *
  generalize conS b e b' e' = y at *
  generalize conS c f c' f' = z at *
  have v1 := fun W => valid_any a b c d e f W
  have v2 := fun W => valid_any a' b' c' d' e' f' W
  rw [hv1] at v1
  rw [hv2] at v2
  clear hv1 hv2
  have C := E.cells
  simp [BC, CF] at C
  go_enter Try.func37, Try.ntmps37
  go_upto_region 3 with (go_at_call 46; first | ((with_reducible refine (v1 _).mono ?_); rintro X w1 ⟨rfl, hb⟩; replace E := E.on hb; replace C := E.cells; simp [BC, CF] at C; clear hb) | ((with_reducible refine (v2 _).mono ?_); rintro X W0 ⟨rfl, hb⟩; replace E := E.on hb; replace C := E.cells; simp [BC, CF] at C; clear hb))
  clear v1 v2
  go_cut [6, 7] (fun s t wx => ∃ g k : Nat, s = .pointer (some ⟨g, 0, none⟩) ∧ t = .pointer (some ⟨k, 0, none⟩) ∧ Env w wx [⟨k, 97, #[.int .i64 a', .int .i64 d', .int .i64 b', .int .i64 e', .int .i64 c', .int .i64 f']⟩, ⟨g, 97, #[.int .i64 a, .int .i64 d, .int .i64 b, .int .i64 e, .int .i64 c, .int .i64 f]⟩, ⟨w.heap.size + 1, 30, #[.int .i64 a', .int .i64 b', .int .i64 c', .int .i64 d', .int .i64 e', .int .i64 f']⟩, ⟨w.heap.size, 30, #[.int .i64 a, .int .i64 b, .int .i64 c, .int .i64 d, .int .i64 e, .int .i64 f]⟩])
  case first =>
    go_region_law (go_simp; go_at_call 66; first
      | ((with_reducible refine (h1 _).mono ?_); rintro X w1 ⟨rfl, hb⟩; first
          | with_reducible have E := E.on hb
          | with_reducible have E := E.drw.on hb
          | with_reducible have E := (E.add _ _ _ rfl).drw.on hb
          | with_reducible have E := ((E.add _ _ _ rfl).add _ _ _ (sz1 rfl)).drw.on hb
          | with_reducible have E := (E.add _ _ _ rfl).on hb
          | with_reducible have E := ((E.add _ _ _ rfl).add _ _ _ (sz1 rfl)).on hb
         have C := E.cells
         simp only [BC, CF, Nat.reduceAdd] at C
         clear hb)
      | ((with_reducible refine (h2 _).mono ?_); rintro X w1 ⟨rfl, hb⟩; first
          | with_reducible have E := E.on hb
          | with_reducible have E := E.drw.on hb
          | with_reducible have E := (E.add _ _ _ rfl).drw.on hb
          | with_reducible have E := ((E.add _ _ _ rfl).add _ _ _ (sz1 rfl)).drw.on hb
          | with_reducible have E := (E.add _ _ _ rfl).on hb
          | with_reducible have E := ((E.add _ _ _ rfl).add _ _ _ (sz1 rfl)).on hb
         have C := E.cells
         simp only [BC, CF, Nat.reduceAdd] at C
         clear hb))
    all_goals (go_wp2_with fail)
    all_goals go_meet
    all_goals refine ⟨_, _, rfl, rfl, ?_⟩
    all_goals (repeat with_reducible refine Env.drw ?_)
    all_goals first
      | with_reducible exact tw1 E
      | with_reducible exact tw2 E
      | with_reducible exact tw3 E
      | with_reducible exact tw4 E
      | with_reducible exact tw5 E
      | with_reducible exact tw6 E
      | with_reducible exact tw7 E
  case rest =>
    clear E C h1 h2
    obtain ⟨g, k, rfl, rfl, E⟩ := hcut
    go_wp2
    go_loopw [21] (fun v wr => ∃ i : Nat, v = .int .i64 (i : Int) ∧ i ≤ 3 ∧ Env w wr [⟨k, 97, #[.int .i64 a', .int .i64 d', .int .i64 b', .int .i64 e', .int .i64 c', .int .i64 f']⟩, ⟨g, 97, #[.int .i64 a, .int .i64 d, .int .i64 b, .int .i64 e, .int .i64 c, .int .i64 f]⟩, ⟨w.heap.size + 1, 30, #[.int .i64 a', .int .i64 b', .int .i64 c', .int .i64 d', .int .i64 e', .int .i64 f']⟩, ⟨w.heap.size, 30, #[.int .i64 a, .int .i64 b, .int .i64 c, .int .i64 d, .int .i64 e, .int .i64 f]⟩] ∧ (0 < i → x = true) ∧ (1 < i → y = true) ∧ (2 < i → z = true)) (fun v _ => 3 - (intOf v).toNat)
    case atStart => exact ⟨0, rfl, by omega, E, by omega, by omega, by omega⟩
    case round =>
    clear E
    obtain ⟨i, rfl, hi, E, hx, hy, hz⟩ := hrel
    rcases (by omega : i = 0 ∨ i = 1 ∨ i = 2 ∨ i = 3) with rfl | rfl | rfl | rfl
    · have C := E.cells
      simp [BC, CF] at C
      clear hx hy hz
      cases x
      · go_wp2
        go_region_law (go_simp; go_at_call 67; (with_reducible refine (k0 _).mono ?_); rintro X w1 ⟨rfl, hb⟩; (first | have E := E.drw.on hb | have E := E.on hb); clear hb)
        all_goals go_wp2
        all_goals refine bodyPost_ret (v := .tuple #[.bool false, .int .i64 0]) (by simp [results, Try.results37, go_sem]) rfl ⟨by simp, E.1⟩
      · go_wp2
        go_region_law (go_simp; go_at_call 67; (with_reducible refine (k0 _).mono ?_); rintro X w1 ⟨rfl, hb⟩; (first | have E := E.drw.on hb | have E := E.on hb); clear hb)
        all_goals go_wp2
        all_goals go_roundw
        all_goals first | exact ⟨1, rfl, by omega, E, by simp, by simp, by simp⟩ | (simp [intOf])
    · have C := E.cells
      simp [BC, CF] at C
      have e := hx (by omega); subst e
      clear hx hy hz
      cases y
      · go_wp2
        go_region_law (go_simp; go_at_call 67; (with_reducible refine (k1 _).mono ?_); rintro X w1 ⟨rfl, hb⟩; (first | have E := E.drw.on hb | have E := E.on hb); clear hb)
        all_goals go_wp2
        all_goals refine bodyPost_ret (v := .tuple #[.bool false, .int .i64 0]) (by simp [results, Try.results37, go_sem]) rfl ⟨by simp, E.1⟩
      · go_wp2
        go_region_law (go_simp; go_at_call 67; (with_reducible refine (k1 _).mono ?_); rintro X w1 ⟨rfl, hb⟩; (first | have E := E.drw.on hb | have E := E.on hb); clear hb)
        all_goals go_wp2
        all_goals go_roundw
        all_goals first | exact ⟨2, rfl, by omega, E, by simp, by simp, by simp⟩ | (simp [intOf])
    · have C := E.cells
      simp [BC, CF] at C
      have e := hx (by omega); subst e
      have e := hy (by omega); subst e
      clear hx hy hz
      cases z
      · go_wp2
        go_region_law (go_simp; go_at_call 67; (with_reducible refine (k2 _).mono ?_); rintro X w1 ⟨rfl, hb⟩; (first | have E := E.drw.on hb | have E := E.on hb); clear hb)
        all_goals go_wp2
        all_goals refine bodyPost_ret (v := .tuple #[.bool false, .int .i64 0]) (by simp [results, Try.results37, go_sem]) rfl ⟨by simp, E.1⟩
      · go_wp2
        go_region_law (go_simp; go_at_call 67; (with_reducible refine (k2 _).mono ?_); rintro X w1 ⟨rfl, hb⟩; (first | have E := E.drw.on hb | have E := E.on hb); clear hb)
        all_goals go_wp2
        all_goals go_roundw
        all_goals first | exact ⟨3, rfl, by omega, E, by simp, by simp, by simp⟩ | (simp [intOf])
    · have e := hx (by omega); subst e
      have e := hy (by omega); subst e
      have e := hz (by omega); subst e
      clear hx hy hz
      go_wp2
      refine bodyPost_ret (v := .tuple #[.bool true, .int .i64 0]) (by simp [results, Try.results37, go_sem]) rfl ⟨rfl, E.1⟩
set_option maxRecDepth 100000 in
theorem con_arg (a b c d e f a' b' c' d' e' f' : Int) (w : World) (hv : vB a b c d e f = false ∨ vB a' b' c' d' e' f' = false) :
    Calls Try.prog 37 #[.agg #[.int .i64 a, .int .i64 b, .int .i64 c, .int .i64 d, .int .i64 e, .int .i64 f], .agg #[.int .i64 a', .int .i64 b', .int .i64 c', .int .i64 d', .int .i64 e', .int .i64 f']] w fun E w' => E = .returned (.tuple #[.bool false, .int .i64 1]) ∧ Below w.heap.size w w' := by
  have E := ((Env.nil w).add w.heap.size 30 #[.int .i64 a, .int .i64 b, .int .i64 c, .int .i64 d, .int .i64 e, .int .i64 f] rfl).add (w.heap.size + 1) 30 #[.int .i64 a', .int .i64 b', .int .i64 c', .int .i64 d', .int .i64 e', .int .i64 f'] (by simp)
  have v1 := fun W => valid_any a b c d e f W
  have v2 := fun W => valid_any a' b' c' d' e' f' W
  have C := E.cells
  simp [BC, CF] at C
  cases hv1 : vB a b c d e f
  · rw [hv1] at v1
    clear hv1 hv v2
    go_enter Try.func37, Try.ntmps37
    go_wp2_with (go_at_call 46; ((with_reducible refine (v1 _).mono ?_); rintro X w1 ⟨rfl, hb⟩; replace E := E.on hb; replace C := E.cells; simp [BC, CF] at C; clear hb))
    refine bodyPost_ret (v := .tuple #[.bool false, .int .i64 1]) (by simp [results, Try.results37, go_sem]) rfl ⟨rfl, E.1⟩
  · have hv2 : vB a' b' c' d' e' f' = false := by rcases hv with h | h; rw [hv1] at h; cases h; exact h
    rw [hv1] at v1
    rw [hv2] at v2
    clear hv1 hv2 hv
    go_enter Try.func37, Try.ntmps37
    go_wp2_with (go_at_call 46; first | ((with_reducible refine (v1 _).mono ?_); rintro X w1 ⟨rfl, hb⟩; replace E := E.on hb; replace C := E.cells; simp [BC, CF] at C; clear hb) | ((with_reducible refine (v2 _).mono ?_); rintro X w1 ⟨rfl, hb⟩; replace E := E.on hb; replace C := E.cells; simp [BC, CF] at C; clear hb))
    refine bodyPost_ret (v := .tuple #[.bool false, .int .i64 1]) (by simp [results, Try.results37, go_sem]) rfl ⟨rfl, E.1⟩
end Go.Proofs.Ytkgaahmehmbfjaa
