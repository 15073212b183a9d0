/- boxOf. combined, with the method sdhull. combined, with the method sdmeet. -/
import Derived.Test.YtkgaahmehmbfjaaZ1
namespace Go.Proofs.Ytkgaahmehmbfjaa
open Go.ChangeShapes Go.WideShapes Go.ChangeAt Go.RowKit
set_option linter.unusedVariables false
set_option linter.unusedSimpArgs false

def C2 (a b : Int) : Array Value := #[.int .i64 a, .int .i64 b]
def B6 (i : Nat) (a b c d e f : Int) : Array Value := #[.int .i64 (if 0 < i then a else 0), .int .i64 (if 1 < i then b else 0), .int .i64 (if 2 < i then c else 0), .int .i64 (if 0 < i then d else 0), .int .i64 (if 1 < i then e else 0), .int .i64 (if 2 < i then f else 0)]
def Lbo (n m i : Nat) (a b c d e f : Int) : List Fb := [⟨m + 1, 132, P6 (n + 1 + 1) 3⟩, ⟨m, 132, P6 (n + 1 + 1) 0⟩, ⟨n + 1 + 1, 30, B6 i a b c d e f⟩, ⟨n + 1, 30, C6 0 0 0 0 0 0⟩, ⟨n, 97, C6 a d b e c f⟩]
set_option maxHeartbeats 4000000 in
set_option maxRecDepth 100000 in
theorem boxOf_any (a b c d e f : Int) (w : World) :
    Calls Try.prog 97 #[.agg #[.int .i64 a, .int .i64 d, .int .i64 b, .int .i64 e, .int .i64 c, .int .i64 f]] w fun E w' => E = .returned (.agg #[.int .i64 a, .int .i64 b, .int .i64 c, .int .i64 d, .int .i64 e, .int .i64 f]) ∧ Below w.heap.size w w' := by
  have E := (((Env.nil w).add w.heap.size 97 (C6 a d b e c f) rfl).add (w.heap.size + 1) 30 (C6 0 0 0 0 0 0) (by simp)).add (w.heap.size + 1 + 1) 30 (C6 0 0 0 0 0 0) (by simp)
  go_enter Try.func97, Try.ntmps97
  go_wp2_with (go_at_call 95; refine (coord_any _ _ _).mono ?_; rintro E w1 ⟨rfl, hb1⟩; replace E := E.on hb1; clear hb1; have C := E.cells; simp [BC, CF, C6, P6] at C)
  clear C
  obtain ⟨W, hW⟩ : ∃ W, W = w1 := ⟨_, rfl⟩
  subst w1
  have L : w.heap.size + 1 + 1 < W.heap.size := E.lt 0 (Nat.zero_lt_succ _)
  have d1 : ¬ W.heap.size = w.heap.size + 1 + 1 := by omega
  have d2 : ¬ W.heap.size = w.heap.size + 1 := by omega
  have d3 : ¬ w.heap.size + 1 + 1 = W.heap.size := by omega
  have d4 : ¬ w.heap.size + 1 = W.heap.size := by omega
  replace E := (E.add W.heap.size 132 (P6 (w.heap.size + 1 + 1) 0) rfl).add (W.heap.size + 1) 132 (P6 (w.heap.size + 1 + 1) 3) (by simp)
  go_loopw [13] (fun v wr => ∃ i : Nat, v = .int .i64 (i : Int) ∧ i ≤ 3 ∧ Env w wr (Lbo w.heap.size W.heap.size i a b c d e f)) (fun v _ => 3 - (intOf v).toNat)
  case atStart => exact ⟨0, rfl, by omega, E⟩
  case round =>
    clear E
    obtain ⟨i, rfl, hi, E⟩ := hrel
    rcases (by omega : i = 0 ∨ i = 1 ∨ i = 2 ∨ i = 3) with rfl | rfl | rfl | rfl
    · have C := E.cells
      simp [BC, CF, Lbo, C6, P6, B6, S6] at C
      have ix := fun W => six0 a d b e c f W
      go_wp2
      go_region_law (fail)
      all_goals go_wp2
      all_goals go_roundw
      all_goals first | (exact ⟨1, rfl, by omega, (((E.add _ 96 (C2 a d) rfl).put 3 0 _ rfl).put 3 3 _ rfl).tail.drw⟩) | (exact ⟨1, rfl, by omega, ((E.put 2 0 _ rfl).put 2 3 _ rfl).drw.more _⟩) | (exact ⟨1, rfl, by omega, ((E.put 2 0 _ rfl).put 2 3 _ rfl).more _⟩) | (simp [intOf])
    · have C := E.cells
      simp [BC, CF, Lbo, C6, P6, B6, S6] at C
      have ix := fun W => six1 a d b e c f W
      go_wp2
      go_region_law (fail)
      all_goals go_wp2
      all_goals go_roundw
      all_goals first | (exact ⟨2, rfl, by omega, (((E.add _ 96 (C2 b e) rfl).put 3 1 _ rfl).put 3 4 _ rfl).tail.drw⟩) | (exact ⟨2, rfl, by omega, ((E.put 2 1 _ rfl).put 2 4 _ rfl).drw.more _⟩) | (exact ⟨2, rfl, by omega, ((E.put 2 1 _ rfl).put 2 4 _ rfl).more _⟩) | (simp [intOf])
    · have C := E.cells
      simp [BC, CF, Lbo, C6, P6, B6, S6] at C
      have ix := fun W => six2 a d b e c f W
      go_wp2
      go_region_law (fail)
      all_goals go_wp2
      all_goals go_roundw
      all_goals first | (exact ⟨3, rfl, by omega, (((E.add _ 96 (C2 c f) rfl).put 3 2 _ rfl).put 3 5 _ rfl).tail.drw⟩) | (exact ⟨3, rfl, by omega, ((E.put 2 2 _ rfl).put 2 5 _ rfl).drw.more _⟩) | (exact ⟨3, rfl, by omega, ((E.put 2 2 _ rfl).put 2 5 _ rfl).more _⟩) | (simp [intOf])
    · have C := E.cells
      simp [BC, CF, Lbo, C6, P6, B6] at C
      go_wp2
      refine bodyPost_ret (v := .agg #[.int .i64 a, .int .i64 b, .int .i64 c, .int .i64 d, .int .i64 e, .int .i64 f]) (by simp [results, Try.results97, go_sem, C]) rfl ⟨rfl, ?_⟩
      exact (E.six 3 rfl).1
end Go.Proofs.Ytkgaahmehmbfjaa
namespace Go.Proofs.Ytkgaahmehmbfjaa
open Go.ChangeShapes Go.WideShapes Go.ChangeAt Go.RowKit
set_option linter.unusedVariables false
set_option linter.unusedSimpArgs false

def LCh (n g k i : Nat) (a b c d e f a' b' c' d' e' f' x0 x1 y0 y1 z0 z1 : Int) : List Fb := [⟨k, 97, #[.int .i64 a', .int .i64 d', .int .i64 b', .int .i64 e', .int .i64 c', .int .i64 f']⟩, ⟨g, 97, #[.int .i64 (if 0 < i then x0 else a), .int .i64 (if 0 < i then x1 else d), .int .i64 (if 1 < i then y0 else b), .int .i64 (if 1 < i then y1 else e), .int .i64 (if 2 < i then z0 else c), .int .i64 (if 2 < i then z1 else f)]⟩, ⟨n + 1 + 1, 30, #[.int .i64 0, .int .i64 0, .int .i64 0, .int .i64 0, .int .i64 0, .int .i64 0]⟩, ⟨n + 1, 30, #[.int .i64 a', .int .i64 b', .int .i64 c', .int .i64 d', .int .i64 e', .int .i64 f']⟩, ⟨n, 30, #[.int .i64 a, .int .i64 b, .int .i64 c, .int .i64 d, .int .i64 e, .int .i64 f]⟩]
set_option maxHeartbeats 8000000 in
set_option maxRecDepth 100000 in
theorem hull2_f (a b c d e f a' b' c' d' e' f' x0 x1 y0 y1 z0 z1 : Int) (w : World) (k0 : Fn 71 #[.agg #[.int .i64 a, .int .i64 d], .agg #[.int .i64 a', .int .i64 d']] (.agg #[.int .i64 x0, .int .i64 x1])) (k1 : Fn 71 #[.agg #[.int .i64 b, .int .i64 e], .agg #[.int .i64 b', .int .i64 e']] (.agg #[.int .i64 y0, .int .i64 y1])) (k2 : Fn 71 #[.agg #[.int .i64 c, .int .i64 f], .agg #[.int .i64 c', .int .i64 f']] (.agg #[.int .i64 z0, .int .i64 z1])) :
    Calls Try.prog 70 #[.agg #[.int .i64 a, .int .i64 b, .int .i64 c, .int .i64 d, .int .i64 e, .int .i64 f], .agg #[.int .i64 a', .int .i64 b', .int .i64 c', .int .i64 d', .int .i64 e', .int .i64 f'], .func (.func 71) #[] #[]] w fun E w' => E = .returned (.agg #[.int .i64 x0, .int .i64 y0, .int .i64 z0, .int .i64 x1, .int .i64 y1, .int .i64 z1]) ∧ Below w.heap.size w w' := by
  unfold Fn at k0 k1 k2
  have E := (((Env.nil w).add w.heap.size 30 #[.int .i64 a, .int .i64 b, .int .i64 c, .int .i64 d, .int .i64 e, .int .i64 f] rfl).add (w.heap.size + 1) 30 #[.int .i64 a', .int .i64 b', .int .i64 c', .int .i64 d', .int .i64 e', .int .i64 f'] (by simp)).add (w.heap.size + 1 + 1) 30 #[.int .i64 0, .int .i64 0, .int .i64 0, .int .i64 0, .int .i64 0, .int .i64 0] (by simp)
  have h1 := fun W => sides_any a b c d e f W
  have h2 := fun W => sides_any a' b' c' d' e' f' W
  have hg := fun W => boxOf_any x0 y0 z0 x1 y1 z1 W
  go_enter Try.func70, Try.ntmps70
  go_upto_region 1 with fail
  have E' : ∃ W0, W0 = _ ∧ Env w W0 _ := ⟨_, rfl, E⟩
  clear E
  obtain ⟨W0, hW0, E⟩ := E'
  rw [← hW0]
  clear hW0
  have C := E.cells
  simp [BC, CF] at C
  go_cut [7, 8] (fun s t wx => ∃ g k : Nat, s = .pointer (some ⟨g, 0, none⟩) ∧ t = .pointer (some ⟨k, 0, none⟩) ∧ Env w wx [⟨k, 97, #[.int .i64 a', .int .i64 d', .int .i64 b', .int .i64 e', .int .i64 c', .int .i64 f']⟩, ⟨g, 97, #[.int .i64 a, .int .i64 d, .int .i64 b, .int .i64 e, .int .i64 c, .int .i64 f]⟩, ⟨w.heap.size + 1 + 1, 30, #[.int .i64 0, .int .i64 0, .int .i64 0, .int .i64 0, .int .i64 0, .int .i64 0]⟩, ⟨w.heap.size + 1, 30, #[.int .i64 a', .int .i64 b', .int .i64 c', .int .i64 d', .int .i64 e', .int .i64 f']⟩, ⟨w.heap.size, 30, #[.int .i64 a, .int .i64 b, .int .i64 c, .int .i64 d, .int .i64 e, .int .i64 f]⟩])
  case first =>
    go_region_law (go_simp; go_at_call 66; first
      | ((with_reducible refine (h1 _).mono ?_); rintro X w1 ⟨rfl, hb⟩; first
          | with_reducible have E := E.on hb
          | with_reducible have E := E.drw.on hb
          | with_reducible have E := (E.add _ _ _ rfl).drw.on hb
          | with_reducible have E := ((E.add _ _ _ rfl).add _ _ _ (sz1 rfl)).drw.on hb
          | with_reducible have E := (E.add _ _ _ rfl).on hb
          | with_reducible have E := ((E.add _ _ _ rfl).add _ _ _ (sz1 rfl)).on hb
         have C := E.cells
         simp only [BC, CF, Nat.reduceAdd] at C
         clear hb)
      | ((with_reducible refine (h2 _).mono ?_); rintro X w1 ⟨rfl, hb⟩; first
          | with_reducible have E := E.on hb
          | with_reducible have E := E.drw.on hb
          | with_reducible have E := (E.add _ _ _ rfl).drw.on hb
          | with_reducible have E := ((E.add _ _ _ rfl).add _ _ _ (sz1 rfl)).drw.on hb
          | with_reducible have E := (E.add _ _ _ rfl).on hb
          | with_reducible have E := ((E.add _ _ _ rfl).add _ _ _ (sz1 rfl)).on hb
         have C := E.cells
         simp only [BC, CF, Nat.reduceAdd] at C
         clear hb))
    all_goals (go_wp2_with fail)
    all_goals go_meet
    all_goals refine ⟨_, _, rfl, rfl, ?_⟩
    all_goals (repeat with_reducible refine Env.drw ?_)
    all_goals first
      | with_reducible exact tw1 E
      | with_reducible exact tw2 E
      | with_reducible exact tw3 E
      | with_reducible exact tw4 E
      | with_reducible exact tw5 E
      | with_reducible exact tw6 E
      | with_reducible exact tw7 E
  case rest =>
    clear E C h1 h2
    obtain ⟨g, k, rfl, rfl, E⟩ := hcut
    go_wp2
    go_loopw [14] (fun v wr => ∃ i : Nat, v = .int .i64 (i : Int) ∧ i ≤ 3 ∧ Env w wr (LCh w.heap.size g k i a b c d e f a' b' c' d' e' f' x0 x1 y0 y1 z0 z1)) (fun v _ => 3 - (intOf v).toNat)
    case atStart => exact ⟨0, rfl, by omega, E⟩
    case round =>
    clear E
    obtain ⟨i, rfl, hi, E⟩ := hrel
    rcases (by omega : i = 0 ∨ i = 1 ∨ i = 2 ∨ i = 3) with rfl | rfl | rfl | rfl
    · have C := E.cells
      simp [BC, CF, LCh] at C
      go_wp2
      go_region_law (go_simp; go_at_call 71; (with_reducible refine (k0 _).mono ?_); rintro X w1 ⟨rfl, hb⟩; (first | have E := E.drw.on hb | have E := E.on hb); have C := E.cells; simp [BC, CF, LCh] at C; clear hb)
      all_goals go_wp2
      all_goals go_roundw
      all_goals first | exact ⟨1, rfl, by omega, (E.put 1 0 _ rfl).put 1 1 _ rfl⟩ | (simp [intOf])
    · have C := E.cells
      simp [BC, CF, LCh] at C
      go_wp2
      go_region_law (go_simp; go_at_call 71; (with_reducible refine (k1 _).mono ?_); rintro X w1 ⟨rfl, hb⟩; (first | have E := E.drw.on hb | have E := E.on hb); have C := E.cells; simp [BC, CF, LCh] at C; clear hb)
      all_goals go_wp2
      all_goals go_roundw
      all_goals first | exact ⟨2, rfl, by omega, (E.put 1 2 _ rfl).put 1 3 _ rfl⟩ | (simp [intOf])
    · have C := E.cells
      simp [BC, CF, LCh] at C
      go_wp2
      go_region_law (go_simp; go_at_call 71; (with_reducible refine (k2 _).mono ?_); rintro X w1 ⟨rfl, hb⟩; (first | have E := E.drw.on hb | have E := E.on hb); have C := E.cells; simp [BC, CF, LCh] at C; clear hb)
      all_goals go_wp2
      all_goals go_roundw
      all_goals first | exact ⟨3, rfl, by omega, (E.put 1 4 _ rfl).put 1 5 _ rfl⟩ | (simp [intOf])
    · have C := E.cells
      simp [BC, CF, LCh] at C
      go_wp2_with (go_at_call 97; (with_reducible refine (hg _).mono ?_); rintro X w3 ⟨rfl, hb⟩; replace E := E.on hb; replace C := E.cells; simp [BC, CF, LCh] at C; clear hb)
      refine bodyPost_ret (v := .agg #[.int .i64 x0, .int .i64 y0, .int .i64 z0, .int .i64 x1, .int .i64 y1, .int .i64 z1]) (by simp [results, Try.results70, go_sem, C]) rfl ⟨rfl, ?_⟩
      exact (E.six 2 rfl).1
theorem hull2_any (a b c d e f a' b' c' d' e' f' : Int) (w : World) :
    Calls Try.prog 70 #[.agg #[.int .i64 a, .int .i64 b, .int .i64 c, .int .i64 d, .int .i64 e, .int .i64 f], .agg #[.int .i64 a', .int .i64 b', .int .i64 c', .int .i64 d', .int .i64 e', .int .i64 f'], .func (.func 71) #[] #[]] w fun E w' => E = .returned (.agg #[.int .i64 (mn a a'), .int .i64 (mn b b'), .int .i64 (mn c c'), .int .i64 (mx d d'), .int .i64 (mx e e'), .int .i64 (mx f f')]) ∧ Below w.heap.size w w' :=
  hull2_f _ _ _ _ _ _ _ _ _ _ _ _ _ _ _ _ _ _ w (fun W => sdhull_any _ _ _ _ W) (fun W => sdhull_any _ _ _ _ W) (fun W => sdhull_any _ _ _ _ W)
end Go.Proofs.Ytkgaahmehmbfjaa
namespace Go.Proofs.Ytkgaahmehmbfjaa
open Go.ChangeShapes Go.WideShapes Go.ChangeAt Go.RowKit
set_option linter.unusedVariables false
set_option linter.unusedSimpArgs false

def LCm (n g k i : Nat) (a b c d e f a' b' c' d' e' f' x0 x1 y0 y1 z0 z1 : Int) : List Fb := [⟨k, 97, #[.int .i64 a', .int .i64 d', .int .i64 b', .int .i64 e', .int .i64 c', .int .i64 f']⟩, ⟨g, 97, #[.int .i64 (if 0 < i then x0 else a), .int .i64 (if 0 < i then x1 else d), .int .i64 (if 1 < i then y0 else b), .int .i64 (if 1 < i then y1 else e), .int .i64 (if 2 < i then z0 else c), .int .i64 (if 2 < i then z1 else f)]⟩, ⟨n + 1 + 1, 30, #[.int .i64 0, .int .i64 0, .int .i64 0, .int .i64 0, .int .i64 0, .int .i64 0]⟩, ⟨n + 1, 30, #[.int .i64 a', .int .i64 b', .int .i64 c', .int .i64 d', .int .i64 e', .int .i64 f']⟩, ⟨n, 30, #[.int .i64 a, .int .i64 b, .int .i64 c, .int .i64 d, .int .i64 e, .int .i64 f]⟩]
end Go.Proofs.Ytkgaahmehmbfjaa
