/- gaps. -/
import Derived.Test.YtffigpkkdljaiaaSm
import Derived.Test.YtffigpkkdljaiaaTw
namespace Go.Proofs.Ytffigpkkdljaiaa
open Go.ChangeShapes Go.WideShapes Go.ChangeAt Go.RowKit
set_option linter.unusedVariables false
set_option linter.unusedSimpArgs false

def G3 (i : Nat) (x y z : Int) : Array Value := #[.int .i64 (if 0 < i then x else 0), .int .i64 (if 1 < i then y else 0), .int .i64 (if 2 < i then z else 0)]
def Lgp (n g k i : Nat) (a b c d e f a' b' c' d' e' f' x y z : Int) : List Fb := [⟨k, 68, #[.int .i64 a', .int .i64 d', .int .i64 b', .int .i64 e', .int .i64 c', .int .i64 f']⟩, ⟨g, 68, #[.int .i64 a, .int .i64 d, .int .i64 b, .int .i64 e, .int .i64 c, .int .i64 f]⟩, ⟨n + 1 + 1 + 1, 62, G3 i x y z⟩, ⟨n + 1 + 1, 62, #[.int .i64 0, .int .i64 0, .int .i64 0]⟩, ⟨n + 1, 25, #[.int .i64 a', .int .i64 b', .int .i64 c', .int .i64 d', .int .i64 e', .int .i64 f']⟩, ⟨n, 25, #[.int .i64 a, .int .i64 b, .int .i64 c, .int .i64 d, .int .i64 e, .int .i64 f]⟩]
set_option maxHeartbeats 8000000 in
set_option maxRecDepth 100000 in
theorem gaps_any (a b c d e f a' b' c' d' e' f' x y z : Int) (w : World) (k0 : Fn 60 #[.agg #[.int .i64 a, .int .i64 d], .agg #[.int .i64 a', .int .i64 d']] (.int .i64 x)) (k1 : Fn 60 #[.agg #[.int .i64 b, .int .i64 e], .agg #[.int .i64 b', .int .i64 e']] (.int .i64 y)) (k2 : Fn 60 #[.agg #[.int .i64 c, .int .i64 f], .agg #[.int .i64 c', .int .i64 f']] (.int .i64 z)) :
    Calls Try.prog 38 #[.agg #[.int .i64 a, .int .i64 b, .int .i64 c, .int .i64 d, .int .i64 e, .int .i64 f], .agg #[.int .i64 a', .int .i64 b', .int .i64 c', .int .i64 d', .int .i64 e', .int .i64 f']] w fun E w' => E = .returned (.agg #[.int .i64 x, .int .i64 y, .int .i64 z]) ∧ Below w.heap.size w w' := by
  unfold Fn at k0 k1 k2
  have E := ((((Env.nil w).add w.heap.size 25 #[.int .i64 a, .int .i64 b, .int .i64 c, .int .i64 d, .int .i64 e, .int .i64 f] rfl).add (w.heap.size + 1) 25 #[.int .i64 a', .int .i64 b', .int .i64 c', .int .i64 d', .int .i64 e', .int .i64 f'] (by simp)).add (w.heap.size + 1 + 1) 62 #[.int .i64 0, .int .i64 0, .int .i64 0] (by simp)).add (w.heap.size + 1 + 1 + 1) 62 #[.int .i64 0, .int .i64 0, .int .i64 0] (by simp)
  have h1 := fun W => sides_any a b c d e f W
  have h2 := fun W => sides_any a' b' c' d' e' f' W
  go_enter Try.func38, Try.ntmps38
  go_upto_region 2 with fail
  have E' : ∃ W0, W0 = _ ∧ Env w W0 _ := ⟨_, rfl, E⟩
  clear E
  obtain ⟨W0, hW0, E⟩ := E'
  rw [← hW0]
  clear hW0
  have C := E.cells
  simp [BC, CF] at C
  go_cut [6, 7] (fun s t wx => ∃ g k : Nat, s = .pointer (some ⟨g, 0, none⟩) ∧ t = .pointer (some ⟨k, 0, none⟩) ∧ Env w wx [⟨k, 68, #[.int .i64 a', .int .i64 d', .int .i64 b', .int .i64 e', .int .i64 c', .int .i64 f']⟩, ⟨g, 68, #[.int .i64 a, .int .i64 d, .int .i64 b, .int .i64 e, .int .i64 c, .int .i64 f]⟩, ⟨w.heap.size + 1 + 1 + 1, 62, #[.int .i64 0, .int .i64 0, .int .i64 0]⟩, ⟨w.heap.size + 1 + 1, 62, #[.int .i64 0, .int .i64 0, .int .i64 0]⟩, ⟨w.heap.size + 1, 25, #[.int .i64 a', .int .i64 b', .int .i64 c', .int .i64 d', .int .i64 e', .int .i64 f']⟩, ⟨w.heap.size, 25, #[.int .i64 a, .int .i64 b, .int .i64 c, .int .i64 d, .int .i64 e, .int .i64 f]⟩])
  case first =>
    go_region_law (go_simp; go_at_call 40; first
      | ((with_reducible refine (h1 _).mono ?_); rintro X w1 ⟨rfl, hb⟩; first
          | with_reducible have E := E.on hb
          | with_reducible have E := E.drw.on hb
          | with_reducible have E := (E.add _ _ _ rfl).drw.on hb
          | with_reducible have E := ((E.add _ _ _ rfl).add _ _ _ (sz1 rfl)).drw.on hb
          | with_reducible have E := (E.add _ _ _ rfl).on hb
          | with_reducible have E := ((E.add _ _ _ rfl).add _ _ _ (sz1 rfl)).on hb
         have C := E.cells
         simp only [BC, CF, Nat.reduceAdd] at C
         clear hb)
      | ((with_reducible refine (h2 _).mono ?_); rintro X w1 ⟨rfl, hb⟩; first
          | with_reducible have E := E.on hb
          | with_reducible have E := E.drw.on hb
          | with_reducible have E := (E.add _ _ _ rfl).drw.on hb
          | with_reducible have E := ((E.add _ _ _ rfl).add _ _ _ (sz1 rfl)).drw.on hb
          | with_reducible have E := (E.add _ _ _ rfl).on hb
          | with_reducible have E := ((E.add _ _ _ rfl).add _ _ _ (sz1 rfl)).on hb
         have C := E.cells
         simp only [BC, CF, Nat.reduceAdd] at C
         clear hb))
    all_goals (go_wp2_with fail)
    all_goals go_meet
    all_goals refine ⟨_, _, rfl, rfl, ?_⟩
    all_goals (repeat with_reducible refine Env.drw ?_)
    all_goals first
      | with_reducible exact tw1 E
      | with_reducible exact tw2 E
      | with_reducible exact tw3 E
      | with_reducible exact tw4 E
      | with_reducible exact tw5 E
      | with_reducible exact tw6 E
      | with_reducible exact tw7 E
  case rest =>
    clear E C h1 h2
    obtain ⟨g, k, rfl, rfl, E⟩ := hcut
    go_wp2
    go_loopw [13] (fun v wr => ∃ i : Nat, v = .int .i64 (i : Int) ∧ i ≤ 3 ∧ Env w wr (Lgp w.heap.size g k i a b c d e f a' b' c' d' e' f' x y z)) (fun v _ => 3 - (intOf v).toNat)
    case atStart => exact ⟨0, rfl, by omega, E⟩
    case round =>
    clear E
    obtain ⟨i, rfl, hi, E⟩ := hrel
    rcases (by omega : i = 0 ∨ i = 1 ∨ i = 2 ∨ i = 3) with rfl | rfl | rfl | rfl
    · have C := E.cells
      simp [BC, CF, Lgp, G3] at C
      go_wp2
      go_region_law (go_simp; go_at_call 60; (with_reducible refine (k0 _).mono ?_); rintro X w1 ⟨rfl, hb⟩; (first | have E := E.drw.on hb | have E := E.on hb); have C := E.cells; simp [BC, CF, Lgp, G3] at C; clear hb)
      all_goals go_wp2
      all_goals go_roundw
      all_goals first | exact ⟨1, rfl, by omega, E.put 2 0 _ rfl⟩ | (simp [intOf])
    · have C := E.cells
      simp [BC, CF, Lgp, G3] at C
      go_wp2
      go_region_law (go_simp; go_at_call 60; (with_reducible refine (k1 _).mono ?_); rintro X w1 ⟨rfl, hb⟩; (first | have E := E.drw.on hb | have E := E.on hb); have C := E.cells; simp [BC, CF, Lgp, G3] at C; clear hb)
      all_goals go_wp2
      all_goals go_roundw
      all_goals first | exact ⟨2, rfl, by omega, E.put 2 1 _ rfl⟩ | (simp [intOf])
    · have C := E.cells
      simp [BC, CF, Lgp, G3] at C
      go_wp2
      go_region_law (go_simp; go_at_call 60; (with_reducible refine (k2 _).mono ?_); rintro X w1 ⟨rfl, hb⟩; (first | have E := E.drw.on hb | have E := E.on hb); have C := E.cells; simp [BC, CF, Lgp, G3] at C; clear hb)
      all_goals go_wp2
      all_goals go_roundw
      all_goals first | exact ⟨3, rfl, by omega, E.put 2 2 _ rfl⟩ | (simp [intOf])
    · have C := E.cells
      simp [BC, CF, Lgp, G3] at C
      go_wp2
      refine bodyPost_ret (v := .agg #[.int .i64 x, .int .i64 y, .int .i64 z]) (by simp [results, Try.results38, go_sem, C]) rfl ⟨rfl, ?_⟩
      exact (((E.put 3 0 _ rfl).put 3 1 _ rfl).put 3 2 _ rfl).1
end Go.Proofs.Ytffigpkkdljaiaa
