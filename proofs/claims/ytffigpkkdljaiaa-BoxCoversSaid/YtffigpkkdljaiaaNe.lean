/- Nearest. -/
import Derived.Test.YtffigpkkdljaiaaVa
import Derived.Test.YtffigpkkdljaiaaTw
namespace Go.Proofs.Ytffigpkkdljaiaa
open Go.ChangeShapes Go.WideShapes Go.ChangeAt Go.RowKit
set_option linter.unusedVariables false
set_option linter.unusedSimpArgs false

def DJ (g : Nat) : List Fb → Prop
  | [] => True
  | y :: l => (y.g ≠ g ∧ g ≠ y.g) ∧ DJ g l
def DI : List Fb → Prop
  | [] => True
  | x :: l => DJ x.g l ∧ DI l
theorem dj_of (g : Nat) : ∀ (l : List Fb), (∀ y ∈ l, y.g ≠ g) → DJ g l
  | [], _ => trivial
  | y :: l, h => ⟨⟨h y (List.mem_cons_self ..), fun e => h y (List.mem_cons_self ..) e.symm⟩, dj_of g l fun z hz => h z (List.mem_cons_of_mem _ hz)⟩
theorem Blk.dist {B : Nat} {w : World} : ∀ {l : List Fb}, Blk B w l → DI l
  | [], _ => trivial
  | _ :: _, h => ⟨dj_of _ _ h.2.2.1, Blk.dist h.2.2.2⟩
theorem Env.dist {w0 w : World} {l : List Fb} (h : Env w0 w l) : DI l := h.2.dist
def Lne (n m g k i : Nat) (a b c d e f a' b' c' d' e' f' x0 y0 z0 x1 y1 z1 : Int) : List Fb := [⟨m + 1, 71, #[.pointer (some ⟨n + 1 + 1 + 1 + 1 + 1, 0, none⟩), .pointer (some ⟨n + 1 + 1 + 1 + 1 + 1, 1, none⟩), .pointer (some ⟨n + 1 + 1 + 1 + 1 + 1, 2, none⟩)]⟩, ⟨m, 71, #[.pointer (some ⟨n + 1 + 1 + 1 + 1, 0, none⟩), .pointer (some ⟨n + 1 + 1 + 1 + 1, 1, none⟩), .pointer (some ⟨n + 1 + 1 + 1 + 1, 2, none⟩)]⟩, ⟨k, 68, #[.int .i64 a', .int .i64 d', .int .i64 b', .int .i64 e', .int .i64 c', .int .i64 f']⟩, ⟨g, 68, #[.int .i64 a, .int .i64 d, .int .i64 b, .int .i64 e, .int .i64 c, .int .i64 f]⟩, ⟨n + 1 + 1 + 1 + 1 + 1, 23, #[.int .i64 (if 0 < i then x1 else 0), .int .i64 (if 1 < i then y1 else 0), .int .i64 (if 2 < i then z1 else 0)]⟩, ⟨n + 1 + 1 + 1 + 1, 23, #[.int .i64 (if 0 < i then x0 else 0), .int .i64 (if 1 < i then y0 else 0), .int .i64 (if 2 < i then z0 else 0)]⟩, ⟨n + 1 + 1 + 1, 23, #[.int .i64 0, .int .i64 0, .int .i64 0]⟩, ⟨n + 1 + 1, 23, #[.int .i64 0, .int .i64 0, .int .i64 0]⟩, ⟨n + 1, 25, #[.int .i64 a', .int .i64 b', .int .i64 c', .int .i64 d', .int .i64 e', .int .i64 f']⟩, ⟨n, 25, #[.int .i64 a, .int .i64 b, .int .i64 c, .int .i64 d, .int .i64 e, .int .i64 f]⟩]
set_option maxHeartbeats 16000000 in
set_option maxRecDepth 100000 in
theorem near_f (a b c d e f a' b' c' d' e' f' x0 y0 z0 x1 y1 z1 : Int) (w : World) (hv1 : vB a b c d e f = true) (hv2 : vB a' b' c' d' e' f' = true) (f0 : Fn 42 #[.agg #[.int .i64 a, .int .i64 d], .agg #[.int .i64 a', .int .i64 d']] (.tuple #[.int .i64 x0, .int .i64 x1])) (f1 : Fn 42 #[.agg #[.int .i64 b, .int .i64 e], .agg #[.int .i64 b', .int .i64 e']] (.tuple #[.int .i64 y0, .int .i64 y1])) (f2 : Fn 42 #[.agg #[.int .i64 c, .int .i64 f], .agg #[.int .i64 c', .int .i64 f']] (.tuple #[.int .i64 z0, .int .i64 z1])) :
    Calls Try.prog 13 #[.agg #[.int .i64 a, .int .i64 b, .int .i64 c, .int .i64 d, .int .i64 e, .int .i64 f], .agg #[.int .i64 a', .int .i64 b', .int .i64 c', .int .i64 d', .int .i64 e', .int .i64 f']] w fun E w' => E = .returned (.tuple #[.agg #[.int .i64 x0, .int .i64 y0, .int .i64 z0], .agg #[.int .i64 x1, .int .i64 y1, .int .i64 z1], .int .i64 0]) ∧ Below w.heap.size w w' := by
  unfold Fn at f0 f1 f2
  have k0 := f0
  have k1 := f1
  have k2 := f2
  clear f0 f1 f2
  have E := ((((((Env.nil w).add w.heap.size 25 #[.int .i64 a, .int .i64 b, .int .i64 c, .int .i64 d, .int .i64 e, .int .i64 f] rfl).add (w.heap.size + 1) 25 #[.int .i64 a', .int .i64 b', .int .i64 c', .int .i64 d', .int .i64 e', .int .i64 f'] (by simp)).add (w.heap.size + 1 + 1) 23 #[.int .i64 0, .int .i64 0, .int .i64 0] (by simp)).add (w.heap.size + 1 + 1 + 1) 23 #[.int .i64 0, .int .i64 0, .int .i64 0] (by simp)).add (w.heap.size + 1 + 1 + 1 + 1) 23 #[.int .i64 0, .int .i64 0, .int .i64 0] (by simp)).add (w.heap.size + 1 + 1 + 1 + 1 + 1) 23 #[.int .i64 0, .int .i64 0, .int .i64 0] (by simp)
  have h1 := fun W => sides_any a b c d e f W
  have h2 := fun W => sides_any a' b' c' d' e' f' W
  have v1 := fun W => valid_any a b c d e f W
  have v2 := fun W => valid_any a' b' c' d' e' f' W
  rw [hv1] at v1
  rw [hv2] at v2
  clear hv1 hv2
  have C := E.cells
  simp [BC, CF] at C
  go_enter Try.func13, Try.ntmps13
  go_upto_region 4 with (go_at_call 22; first | ((with_reducible refine (v1 _).mono ?_); rintro X W0 ⟨rfl, hb⟩; replace E := E.on hb; replace C := E.cells; simp [BC, CF] at C; clear hb) | ((with_reducible refine (v2 _).mono ?_); rintro X W0 ⟨rfl, hb⟩; replace E := E.on hb; replace C := E.cells; simp [BC, CF] at C; clear hb))
  clear v1 v2
  go_cut [9, 10] (fun s t wx => ∃ g k : Nat, s = .pointer (some ⟨g, 0, none⟩) ∧ t = .pointer (some ⟨k, 0, none⟩) ∧ Env w wx [⟨k, 68, #[.int .i64 a', .int .i64 d', .int .i64 b', .int .i64 e', .int .i64 c', .int .i64 f']⟩, ⟨g, 68, #[.int .i64 a, .int .i64 d, .int .i64 b, .int .i64 e, .int .i64 c, .int .i64 f]⟩, ⟨w.heap.size + 1 + 1 + 1 + 1 + 1, 23, #[.int .i64 0, .int .i64 0, .int .i64 0]⟩, ⟨w.heap.size + 1 + 1 + 1 + 1, 23, #[.int .i64 0, .int .i64 0, .int .i64 0]⟩, ⟨w.heap.size + 1 + 1 + 1, 23, #[.int .i64 0, .int .i64 0, .int .i64 0]⟩, ⟨w.heap.size + 1 + 1, 23, #[.int .i64 0, .int .i64 0, .int .i64 0]⟩, ⟨w.heap.size + 1, 25, #[.int .i64 a', .int .i64 b', .int .i64 c', .int .i64 d', .int .i64 e', .int .i64 f']⟩, ⟨w.heap.size, 25, #[.int .i64 a, .int .i64 b, .int .i64 c, .int .i64 d, .int .i64 e, .int .i64 f]⟩])
  case first =>
    go_region_law (go_simp; go_at_call 40; first
      | ((with_reducible refine (h1 _).mono ?_); rintro X w1 ⟨rfl, hb⟩; first
          | with_reducible have E := E.on hb
          | with_reducible have E := E.drw.on hb
          | with_reducible have E := (E.add _ _ _ rfl).drw.on hb
          | with_reducible have E := ((E.add _ _ _ rfl).add _ _ _ (sz1 rfl)).drw.on hb
          | with_reducible have E := (E.add _ _ _ rfl).on hb
          | with_reducible have E := ((E.add _ _ _ rfl).add _ _ _ (sz1 rfl)).on hb
         have C := E.cells
         simp only [BC, CF, Nat.reduceAdd] at C
         clear hb)
      | ((with_reducible refine (h2 _).mono ?_); rintro X w1 ⟨rfl, hb⟩; first
          | with_reducible have E := E.on hb
          | with_reducible have E := E.drw.on hb
          | with_reducible have E := (E.add _ _ _ rfl).drw.on hb
          | with_reducible have E := ((E.add _ _ _ rfl).add _ _ _ (sz1 rfl)).drw.on hb
          | with_reducible have E := (E.add _ _ _ rfl).on hb
          | with_reducible have E := ((E.add _ _ _ rfl).add _ _ _ (sz1 rfl)).on hb
         have C := E.cells
         simp only [BC, CF, Nat.reduceAdd] at C
         clear hb))
    all_goals (go_wp2_with fail)
    all_goals go_meet
    all_goals refine ⟨_, _, rfl, rfl, ?_⟩
    all_goals (repeat with_reducible refine Env.drw ?_)
    all_goals first
      | with_reducible exact tw1 E
      | with_reducible exact tw2 E
      | with_reducible exact tw3 E
      | with_reducible exact tw4 E
      | with_reducible exact tw5 E
      | with_reducible exact tw6 E
      | with_reducible exact tw7 E
  case rest =>
    clear E C h1 h2
    obtain ⟨g, k, rfl, rfl, E⟩ := hcut
    have C := E.cells
    simp [BC, CF] at C
    go_wp2_with (go_at_call 41; refine (coord_any _ _ _).mono ?_; rintro X w1 ⟨rfl, hb1⟩; replace E := E.on hb1; clear hb1)
    obtain ⟨W, hW⟩ : ∃ W, W = w1 := ⟨_, rfl⟩
    subst w1
    replace E := (E.add W.heap.size 71 #[.pointer (some ⟨w.heap.size + 1 + 1 + 1 + 1, 0, none⟩), .pointer (some ⟨w.heap.size + 1 + 1 + 1 + 1, 1, none⟩), .pointer (some ⟨w.heap.size + 1 + 1 + 1 + 1, 2, none⟩)] rfl).add (W.heap.size + 1) 71 #[.pointer (some ⟨w.heap.size + 1 + 1 + 1 + 1 + 1, 0, none⟩), .pointer (some ⟨w.heap.size + 1 + 1 + 1 + 1 + 1, 1, none⟩), .pointer (some ⟨w.heap.size + 1 + 1 + 1 + 1 + 1, 2, none⟩)] (by simp)
    clear C
    go_loopw [30] (fun v wr => ∃ i : Nat, v = .int .i64 (i : Int) ∧ i ≤ 3 ∧ Env w wr (Lne w.heap.size W.heap.size g k i a b c d e f a' b' c' d' e' f' x0 y0 z0 x1 y1 z1)) (fun v _ => 3 - (intOf v).toNat)
    case atStart => exact ⟨0, rfl, by omega, E⟩
    case round =>
    clear E
    obtain ⟨i, rfl, hi, E⟩ := hrel
    rcases (by omega : i = 0 ∨ i = 1 ∨ i = 2 ∨ i = 3) with rfl | rfl | rfl | rfl
    · have C := E.cells
      simp [BC, CF, Lne] at C
      have D := E.dist
      simp [DI, DJ, Lne] at D
      go_wp2
      go_region_held3 (fun W' => W'.cell? ⟨W.heap.size, 0, none⟩ = some (.pointer (some ⟨w.heap.size + 1 + 1 + 1 + 1, 0, none⟩)) ∧ W'.cell? ⟨W.heap.size + 1, 0, none⟩ = some (.pointer (some ⟨w.heap.size + 1 + 1 + 1 + 1 + 1, 0, none⟩)) ∧ W'.cell? ⟨g, 0, none⟩ = some (.int .i64 a) ∧ W'.cell? ⟨g, 1, none⟩ = some (.int .i64 d) ∧ W'.cell? ⟨k, 0, none⟩ = some (.int .i64 a') ∧ W'.cell? ⟨k, 1, none⟩ = some (.int .i64 d')) (first | (simp [*]; done) | go_keep) ((go_at_call 42; (with_reducible refine (k0 _).mono ?_); rintro X w1 ⟨rfl, hb⟩; (first | have E := E.drw.on hb | have E := E.on hb); have C := E.cells; simp [BC, CF, Lne] at C; clear hb))
      all_goals go_wp2
      all_goals go_roundw
      all_goals first | exact ⟨1, rfl, by omega, (E.put 5 0 _ rfl).put 4 0 _ rfl⟩ | exact ⟨1, rfl, by omega, (E.put 4 0 _ rfl).put 5 0 _ rfl⟩ | (simp [intOf])
    · have C := E.cells
      simp [BC, CF, Lne] at C
      have D := E.dist
      simp [DI, DJ, Lne] at D
      go_wp2
      go_region_held3 (fun W' => W'.cell? ⟨W.heap.size, 1, none⟩ = some (.pointer (some ⟨w.heap.size + 1 + 1 + 1 + 1, 1, none⟩)) ∧ W'.cell? ⟨W.heap.size + 1, 1, none⟩ = some (.pointer (some ⟨w.heap.size + 1 + 1 + 1 + 1 + 1, 1, none⟩)) ∧ W'.cell? ⟨g, 2, none⟩ = some (.int .i64 b) ∧ W'.cell? ⟨g, 3, none⟩ = some (.int .i64 e) ∧ W'.cell? ⟨k, 2, none⟩ = some (.int .i64 b') ∧ W'.cell? ⟨k, 3, none⟩ = some (.int .i64 e')) (first | (simp [*]; done) | go_keep) ((go_at_call 42; (with_reducible refine (k1 _).mono ?_); rintro X w1 ⟨rfl, hb⟩; (first | have E := E.drw.on hb | have E := E.on hb); have C := E.cells; simp [BC, CF, Lne] at C; clear hb))
      all_goals go_wp2
      all_goals go_roundw
      all_goals first | exact ⟨2, rfl, by omega, (E.put 5 1 _ rfl).put 4 1 _ rfl⟩ | exact ⟨2, rfl, by omega, (E.put 4 1 _ rfl).put 5 1 _ rfl⟩ | (simp [intOf])
    · have C := E.cells
      simp [BC, CF, Lne] at C
      have D := E.dist
      simp [DI, DJ, Lne] at D
      go_wp2
      go_region_held3 (fun W' => W'.cell? ⟨W.heap.size, 2, none⟩ = some (.pointer (some ⟨w.heap.size + 1 + 1 + 1 + 1, 2, none⟩)) ∧ W'.cell? ⟨W.heap.size + 1, 2, none⟩ = some (.pointer (some ⟨w.heap.size + 1 + 1 + 1 + 1 + 1, 2, none⟩)) ∧ W'.cell? ⟨g, 4, none⟩ = some (.int .i64 c) ∧ W'.cell? ⟨g, 5, none⟩ = some (.int .i64 f) ∧ W'.cell? ⟨k, 4, none⟩ = some (.int .i64 c') ∧ W'.cell? ⟨k, 5, none⟩ = some (.int .i64 f')) (first | (simp [*]; done) | go_keep) ((go_at_call 42; (with_reducible refine (k2 _).mono ?_); rintro X w1 ⟨rfl, hb⟩; (first | have E := E.drw.on hb | have E := E.on hb); have C := E.cells; simp [BC, CF, Lne] at C; clear hb))
      all_goals go_wp2
      all_goals go_roundw
      all_goals first | exact ⟨3, rfl, by omega, (E.put 5 2 _ rfl).put 4 2 _ rfl⟩ | exact ⟨3, rfl, by omega, (E.put 4 2 _ rfl).put 5 2 _ rfl⟩ | (simp [intOf])
    · have C := E.cells
      simp [BC, CF, Lne] at C
      go_wp2
      go_region_law (fail)
      all_goals go_wp2
      all_goals refine bodyPost_ret (v := .tuple #[.agg #[.int .i64 x0, .int .i64 y0, .int .i64 z0], .agg #[.int .i64 x1, .int .i64 y1, .int .i64 z1], .int .i64 0]) (by simp [results, Try.results13, go_sem, C]) rfl ⟨rfl, ?_⟩
      all_goals (try refine Below.drew ?_)
      all_goals exact ((((((E.1.setCell (by dsimp only; omega) _).setCell (by dsimp only; omega) _).setCell (by dsimp only; omega) _).setCell (by dsimp only; omega) _).setCell (by dsimp only; omega) _).setCell (by dsimp only; omega) _)
set_option maxHeartbeats 4000000 in
set_option maxRecDepth 100000 in
theorem near_arg (a b c d e f a' b' c' d' e' f' : Int) (w : World) (hv : vB a b c d e f = false ∨ vB a' b' c' d' e' f' = false) :
    Calls Try.prog 13 #[.agg #[.int .i64 a, .int .i64 b, .int .i64 c, .int .i64 d, .int .i64 e, .int .i64 f], .agg #[.int .i64 a', .int .i64 b', .int .i64 c', .int .i64 d', .int .i64 e', .int .i64 f']] w fun E w' => E = .returned (.tuple #[.agg #[.int .i64 0, .int .i64 0, .int .i64 0], .agg #[.int .i64 0, .int .i64 0, .int .i64 0], .int .i64 1]) ∧ Below w.heap.size w w' := by
  have E := ((((((Env.nil w).add w.heap.size 25 #[.int .i64 a, .int .i64 b, .int .i64 c, .int .i64 d, .int .i64 e, .int .i64 f] rfl).add (w.heap.size + 1) 25 #[.int .i64 a', .int .i64 b', .int .i64 c', .int .i64 d', .int .i64 e', .int .i64 f'] (by simp)).add (w.heap.size + 1 + 1) 23 #[.int .i64 0, .int .i64 0, .int .i64 0] (by simp)).add (w.heap.size + 1 + 1 + 1) 23 #[.int .i64 0, .int .i64 0, .int .i64 0] (by simp)).add (w.heap.size + 1 + 1 + 1 + 1) 23 #[.int .i64 0, .int .i64 0, .int .i64 0] (by simp)).add (w.heap.size + 1 + 1 + 1 + 1 + 1) 23 #[.int .i64 0, .int .i64 0, .int .i64 0] (by simp)
  have v1 := fun W => valid_any a b c d e f W
  have v2 := fun W => valid_any a' b' c' d' e' f' W
  have C := E.cells
  simp [BC, CF] at C
  cases hv1 : vB a b c d e f
  · rw [hv1] at v1
    clear hv1 hv v2
    go_enter Try.func13, Try.ntmps13
    go_wp2_with (go_at_call 22; ((with_reducible refine (v1 _).mono ?_); rintro X W0 ⟨rfl, hb⟩; replace E := E.on hb; replace C := E.cells; simp [BC, CF] at C; clear hb))
    go_region_law (fail)
    all_goals go_wp2
    all_goals refine bodyPost_ret (v := .tuple #[.agg #[.int .i64 0, .int .i64 0, .int .i64 0], .agg #[.int .i64 0, .int .i64 0, .int .i64 0], .int .i64 1]) (by simp [results, Try.results13, go_sem, C]) rfl ⟨rfl, ?_⟩
    all_goals (try refine Below.drew ?_)
    all_goals exact ((((((E.1.setCell (by dsimp only; omega) _).setCell (by dsimp only; omega) _).setCell (by dsimp only; omega) _).setCell (by dsimp only; omega) _).setCell (by dsimp only; omega) _).setCell (by dsimp only; omega) _)
  · have hv2 : vB a' b' c' d' e' f' = false := by rcases hv with h | h; rw [hv1] at h; cases h; exact h
    rw [hv1] at v1
    rw [hv2] at v2
    clear hv1 hv2 hv
    go_enter Try.func13, Try.ntmps13
    go_wp2_with (go_at_call 22; first | ((with_reducible refine (v1 _).mono ?_); rintro X W0 ⟨rfl, hb⟩; replace E := E.on hb; replace C := E.cells; simp [BC, CF] at C; clear hb) | ((with_reducible refine (v2 _).mono ?_); rintro X W0 ⟨rfl, hb⟩; replace E := E.on hb; replace C := E.cells; simp [BC, CF] at C; clear hb))
    go_region_law (fail)
    all_goals go_wp2
    all_goals refine bodyPost_ret (v := .tuple #[.agg #[.int .i64 0, .int .i64 0, .int .i64 0], .agg #[.int .i64 0, .int .i64 0, .int .i64 0], .int .i64 1]) (by simp [results, Try.results13, go_sem, C]) rfl ⟨rfl, ?_⟩
    all_goals (try refine Below.drew ?_)
    all_goals exact ((((((E.1.setCell (by dsimp only; omega) _).setCell (by dsimp only; omega) _).setCell (by dsimp only; omega) _).setCell (by dsimp only; omega) _).setCell (by dsimp only; omega) _).setCell (by dsimp only; omega) _)
end Go.Proofs.Ytffigpkkdljaiaa
