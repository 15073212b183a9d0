/- Grown. -/
import Derived.Test.YtffigpkkdljaiaaBo
namespace Go.Proofs.Ytffigpkkdljaiaa
open Go.ChangeShapes Go.WideShapes Go.ChangeAt Go.RowKit
set_option linter.unusedVariables false
set_option linter.unusedSimpArgs false

theorem sdV_t {lo hi : Int} : sdV lo hi = true ↔ -1048576 ≤ lo ∧ lo ≤ hi ∧ hi ≤ 1048576 := by
  unfold sdV; simp [and_assoc]
theorem vB_t {a b c d e f : Int} : vB a b c d e f = true ↔ (-1048576 ≤ a ∧ a ≤ d ∧ d ≤ 1048576) ∧ (-1048576 ≤ b ∧ b ≤ e ∧ e ≤ 1048576) ∧ (-1048576 ≤ c ∧ c ≤ f ∧ f ≤ 1048576) := by
  unfold vB; simp only [Bool.and_eq_true, sdV_t, and_assoc]
def S7 (i : Nat) (a b c d e f n : Int) : Array Value := #[.int .i64 (if 0 < i then a - n else a), .int .i64 (if 0 < i then d + n else d), .int .i64 (if 1 < i then b - n else b), .int .i64 (if 1 < i then e + n else e), .int .i64 (if 2 < i then c - n else c), .int .i64 (if 2 < i then f + n else f)]
def Lgw (m g i : Nat) (a b c d e f n : Int) : List Fb := [⟨g, 68, S7 i a b c d e f n⟩, ⟨m + 1, 25, #[.int .i64 0, .int .i64 0, .int .i64 0, .int .i64 0, .int .i64 0, .int .i64 0]⟩, ⟨m, 25, #[.int .i64 a, .int .i64 b, .int .i64 c, .int .i64 d, .int .i64 e, .int .i64 f]⟩]
set_option maxRecDepth 100000 in
theorem grown_arg (a b c d e f n : Int) (w : World) (hv0 : vB a b c d e f = false) :
    Calls Try.prog 21 #[.agg #[.int .i64 a, .int .i64 b, .int .i64 c, .int .i64 d, .int .i64 e, .int .i64 f], .int .i64 n] w fun E w' => E = .returned (.tuple #[.agg #[.int .i64 0, .int .i64 0, .int .i64 0, .int .i64 0, .int .i64 0, .int .i64 0], .int .i64 1]) ∧ Below w.heap.size w w' := by
  have hv := fun W => valid_any a b c d e f W
  rw [hv0] at hv
  clear hv0
  have E := ((Env.nil w).add w.heap.size 25 #[.int .i64 a, .int .i64 b, .int .i64 c, .int .i64 d, .int .i64 e, .int .i64 f] rfl).add (w.heap.size + 1) 25 #[.int .i64 0, .int .i64 0, .int .i64 0, .int .i64 0, .int .i64 0, .int .i64 0] (by simp)
  have C := E.cells
  simp [BC, CF] at C
  go_enter Try.func21, Try.ntmps21
  go_wp2_with (go_at_call 22; (with_reducible refine (hv _).mono ?_); rintro X w1 ⟨rfl, hb⟩; replace E := E.on hb; replace C := E.cells; simp [BC, CF] at C; clear hb)
  refine bodyPost_ret (v := .tuple #[.agg #[.int .i64 0, .int .i64 0, .int .i64 0, .int .i64 0, .int .i64 0, .int .i64 0], .int .i64 1]) (by simp [results, Try.results21, go_sem, C]) rfl ⟨rfl, ?_⟩
  exact (E.six 0 rfl).1
set_option maxRecDepth 100000 in
theorem grown_rng (a b c d e f n : Int) (w : World) (hv0 : vB a b c d e f = true) (hn : n < 0 ∨ 1048576 < n) :
    Calls Try.prog 21 #[.agg #[.int .i64 a, .int .i64 b, .int .i64 c, .int .i64 d, .int .i64 e, .int .i64 f], .int .i64 n] w fun E w' => E = .returned (.tuple #[.agg #[.int .i64 0, .int .i64 0, .int .i64 0, .int .i64 0, .int .i64 0, .int .i64 0], .int .i64 2]) ∧ Below w.heap.size w w' := by
  have hv := fun W => valid_any a b c d e f W
  rw [hv0] at hv
  clear hv0
  have E := ((Env.nil w).add w.heap.size 25 #[.int .i64 a, .int .i64 b, .int .i64 c, .int .i64 d, .int .i64 e, .int .i64 f] rfl).add (w.heap.size + 1) 25 #[.int .i64 0, .int .i64 0, .int .i64 0, .int .i64 0, .int .i64 0, .int .i64 0] (by simp)
  have C := E.cells
  simp [BC, CF] at C
  by_cases h1 : n < 0
  · clear hn
    go_enter Try.func21, Try.ntmps21
    go_wp2_with (go_at_call 22; (with_reducible refine (hv _).mono ?_); rintro X w1 ⟨rfl, hb⟩; replace E := E.on hb; replace C := E.cells; simp [BC, CF] at C; clear hb)
    refine bodyPost_ret (v := .tuple #[.agg #[.int .i64 0, .int .i64 0, .int .i64 0, .int .i64 0, .int .i64 0, .int .i64 0], .int .i64 2]) (by simp [results, Try.results21, go_sem, C]) rfl ⟨rfl, ?_⟩
    exact (E.six 0 rfl).1
  · have h2 : 1048576 < n := by omega
    have t1 : decide (n < 0) = false := by simp; omega
    clear hn
    go_enter Try.func21, Try.ntmps21
    go_wp2_with (go_at_call 22; (with_reducible refine (hv _).mono ?_); rintro X w1 ⟨rfl, hb⟩; replace E := E.on hb; replace C := E.cells; simp [BC, CF] at C; clear hb)
    refine bodyPost_ret (v := .tuple #[.agg #[.int .i64 0, .int .i64 0, .int .i64 0, .int .i64 0, .int .i64 0, .int .i64 0], .int .i64 2]) (by simp [results, Try.results21, go_sem, C]) rfl ⟨rfl, ?_⟩
    exact (E.six 0 rfl).1
set_option maxHeartbeats 8000000 in
set_option maxRecDepth 100000 in
theorem grown_ok (a b c d e f n : Int) (w : World) (hv0 : vB a b c d e f = true) (hn0 : 0 ≤ n) (hn1 : n ≤ 1048576) (hgv : vB (a - n) (b - n) (c - n) (d + n) (e + n) (f + n) = true) :
    Calls Try.prog 21 #[.agg #[.int .i64 a, .int .i64 b, .int .i64 c, .int .i64 d, .int .i64 e, .int .i64 f], .int .i64 n] w fun E w' => E = .returned (.tuple #[.agg #[.int .i64 (a - n), .int .i64 (b - n), .int .i64 (c - n), .int .i64 (d + n), .int .i64 (e + n), .int .i64 (f + n)], .int .i64 0]) ∧ Below w.heap.size w w' := by
  have hz := vB_t.1 hv0
  obtain ⟨⟨i1, i2, i3⟩, ⟨i4, i5, i6⟩, i7, i8, i9⟩ := hz
  have k0 := fun W => sdgrown_any a d n W (by unfold Sml at *; omega) (by unfold Sml at *; omega) (by unfold Sml at *; omega)
  have k1 := fun W => sdgrown_any b e n W (by unfold Sml at *; omega) (by unfold Sml at *; omega) (by unfold Sml at *; omega)
  have k2 := fun W => sdgrown_any c f n W (by unfold Sml at *; omega) (by unfold Sml at *; omega) (by unfold Sml at *; omega)
  clear i1 i2 i3 i4 i5 i6 i7 i8 i9
  have hv := fun W => valid_any a b c d e f W
  rw [hv0] at hv
  have hs := fun W => sides_any a b c d e f W
  have hg := fun W => boxOf_any (a - n) (b - n) (c - n) (d + n) (e + n) (f + n) W
  have hw := fun W => valid_any (a - n) (b - n) (c - n) (d + n) (e + n) (f + n) W
  rw [hgv] at hw
  clear hv0 hgv
  have t1 : decide (n < 0) = false := by simp; omega
  have t2 : decide (1048576 < n) = false := by simp; omega
  have E := ((Env.nil w).add w.heap.size 25 #[.int .i64 a, .int .i64 b, .int .i64 c, .int .i64 d, .int .i64 e, .int .i64 f] rfl).add (w.heap.size + 1) 25 #[.int .i64 0, .int .i64 0, .int .i64 0, .int .i64 0, .int .i64 0, .int .i64 0] (by simp)
  have C := E.cells
  simp [BC, CF] at C
  go_enter Try.func21, Try.ntmps21
  go_wp2_with (first | (go_at_call 22; (with_reducible refine (hv _).mono ?_); rintro X w1 ⟨rfl, hb⟩; replace E := E.on hb; replace C := E.cells; simp [BC, CF] at C; clear hb) | (go_at_call 40; (with_reducible refine (hs _).mono ?_); rintro X w2 ⟨rfl, hb⟩; replace E := E.on hb; replace C := E.cells; simp [BC, CF] at C; clear hb))
  replace E := E.add w2.heap.size 68 #[.int .i64 a, .int .i64 d, .int .i64 b, .int .i64 e, .int .i64 c, .int .i64 f] rfl
  clear C hv hs
  go_loopw [22] (fun v wr => ∃ i : Nat, v = .int .i64 (i : Int) ∧ i ≤ 3 ∧ Env w wr (Lgw w.heap.size w2.heap.size i a b c d e f n)) (fun v _ => 3 - (intOf v).toNat)
  case atStart => exact ⟨0, rfl, by omega, E⟩
  case round =>
    clear E
    obtain ⟨i, rfl, hi, E⟩ := hrel
    rcases (by omega : i = 0 ∨ i = 1 ∨ i = 2 ∨ i = 3) with rfl | rfl | rfl | rfl
    · have C := E.cells
      simp [BC, CF, Lgw, S7] at C
      go_wp2_with (go_at_call 52; (with_reducible refine (k0 _).mono ?_); rintro X w1 ⟨rfl, hb⟩; replace E := E.on hb; replace C := E.cells; simp [BC, CF, Lgw, S7] at C; clear hb)
      exact ⟨⟨1, rfl, by omega, (E.put 0 0 _ rfl).put 0 1 _ rfl⟩, by simp [intOf]⟩
    · have C := E.cells
      simp [BC, CF, Lgw, S7] at C
      go_wp2_with (go_at_call 52; (with_reducible refine (k1 _).mono ?_); rintro X w1 ⟨rfl, hb⟩; replace E := E.on hb; replace C := E.cells; simp [BC, CF, Lgw, S7] at C; clear hb)
      exact ⟨⟨2, rfl, by omega, (E.put 0 2 _ rfl).put 0 3 _ rfl⟩, by simp [intOf]⟩
    · have C := E.cells
      simp [BC, CF, Lgw, S7] at C
      go_wp2_with (go_at_call 52; (with_reducible refine (k2 _).mono ?_); rintro X w1 ⟨rfl, hb⟩; replace E := E.on hb; replace C := E.cells; simp [BC, CF, Lgw, S7] at C; clear hb)
      exact ⟨⟨3, rfl, by omega, (E.put 0 4 _ rfl).put 0 5 _ rfl⟩, by simp [intOf]⟩
    · have C := E.cells
      simp [BC, CF, Lgw, S7] at C
      go_wp2_with (first | (go_at_call 53; (with_reducible refine (hg _).mono ?_); rintro X w3 ⟨rfl, hb⟩; replace E := (E.on hb).add w3.heap.size 25 #[.int .i64 (a - n), .int .i64 (b - n), .int .i64 (c - n), .int .i64 (d + n), .int .i64 (e + n), .int .i64 (f + n)] rfl; replace C := E.cells; simp [BC, CF, Lgw, S7] at C; clear hb) | (go_at_call 22; (with_reducible refine (hw _).mono ?_); rintro X w4 ⟨rfl, hb⟩; replace E := E.on hb; replace C := E.cells; simp [BC, CF, Lgw, S7] at C; clear hb))
      refine bodyPost_ret (v := .tuple #[.agg #[.int .i64 (a - n), .int .i64 (b - n), .int .i64 (c - n), .int .i64 (d + n), .int .i64 (e + n), .int .i64 (f + n)], .int .i64 0]) (by simp [results, Try.results21, go_sem, C]) rfl ⟨rfl, ?_⟩
      exact (E.six 2 rfl).1
set_option maxHeartbeats 8000000 in
set_option maxRecDepth 100000 in
theorem grown_big (a b c d e f n : Int) (w : World) (hv0 : vB a b c d e f = true) (hn0 : 0 ≤ n) (hn1 : n ≤ 1048576) (hgv : vB (a - n) (b - n) (c - n) (d + n) (e + n) (f + n) = false) :
    Calls Try.prog 21 #[.agg #[.int .i64 a, .int .i64 b, .int .i64 c, .int .i64 d, .int .i64 e, .int .i64 f], .int .i64 n] w fun E w' => E = .returned (.tuple #[.agg #[.int .i64 0, .int .i64 0, .int .i64 0, .int .i64 0, .int .i64 0, .int .i64 0], .int .i64 2]) ∧ Below w.heap.size w w' := by
  have hz := vB_t.1 hv0
  obtain ⟨⟨i1, i2, i3⟩, ⟨i4, i5, i6⟩, i7, i8, i9⟩ := hz
  have k0 := fun W => sdgrown_any a d n W (by unfold Sml at *; omega) (by unfold Sml at *; omega) (by unfold Sml at *; omega)
  have k1 := fun W => sdgrown_any b e n W (by unfold Sml at *; omega) (by unfold Sml at *; omega) (by unfold Sml at *; omega)
  have k2 := fun W => sdgrown_any c f n W (by unfold Sml at *; omega) (by unfold Sml at *; omega) (by unfold Sml at *; omega)
  clear i1 i2 i3 i4 i5 i6 i7 i8 i9
  have hv := fun W => valid_any a b c d e f W
  rw [hv0] at hv
  have hs := fun W => sides_any a b c d e f W
  have hg := fun W => boxOf_any (a - n) (b - n) (c - n) (d + n) (e + n) (f + n) W
  have hw := fun W => valid_any (a - n) (b - n) (c - n) (d + n) (e + n) (f + n) W
  rw [hgv] at hw
  clear hv0 hgv
  have t1 : decide (n < 0) = false := by simp; omega
  have t2 : decide (1048576 < n) = false := by simp; omega
  have E := ((Env.nil w).add w.heap.size 25 #[.int .i64 a, .int .i64 b, .int .i64 c, .int .i64 d, .int .i64 e, .int .i64 f] rfl).add (w.heap.size + 1) 25 #[.int .i64 0, .int .i64 0, .int .i64 0, .int .i64 0, .int .i64 0, .int .i64 0] (by simp)
  have C := E.cells
  simp [BC, CF] at C
  go_enter Try.func21, Try.ntmps21
  go_wp2_with (first | (go_at_call 22; (with_reducible refine (hv _).mono ?_); rintro X w1 ⟨rfl, hb⟩; replace E := E.on hb; replace C := E.cells; simp [BC, CF] at C; clear hb) | (go_at_call 40; (with_reducible refine (hs _).mono ?_); rintro X w2 ⟨rfl, hb⟩; replace E := E.on hb; replace C := E.cells; simp [BC, CF] at C; clear hb))
  replace E := E.add w2.heap.size 68 #[.int .i64 a, .int .i64 d, .int .i64 b, .int .i64 e, .int .i64 c, .int .i64 f] rfl
  clear C hv hs
  go_loopw [22] (fun v wr => ∃ i : Nat, v = .int .i64 (i : Int) ∧ i ≤ 3 ∧ Env w wr (Lgw w.heap.size w2.heap.size i a b c d e f n)) (fun v _ => 3 - (intOf v).toNat)
  case atStart => exact ⟨0, rfl, by omega, E⟩
  case round =>
    clear E
    obtain ⟨i, rfl, hi, E⟩ := hrel
    rcases (by omega : i = 0 ∨ i = 1 ∨ i = 2 ∨ i = 3) with rfl | rfl | rfl | rfl
    · have C := E.cells
      simp [BC, CF, Lgw, S7] at C
      go_wp2_with (go_at_call 52; (with_reducible refine (k0 _).mono ?_); rintro X w1 ⟨rfl, hb⟩; replace E := E.on hb; replace C := E.cells; simp [BC, CF, Lgw, S7] at C; clear hb)
      exact ⟨⟨1, rfl, by omega, (E.put 0 0 _ rfl).put 0 1 _ rfl⟩, by simp [intOf]⟩
    · have C := E.cells
      simp [BC, CF, Lgw, S7] at C
      go_wp2_with (go_at_call 52; (with_reducible refine (k1 _).mono ?_); rintro X w1 ⟨rfl, hb⟩; replace E := E.on hb; replace C := E.cells; simp [BC, CF, Lgw, S7] at C; clear hb)
      exact ⟨⟨2, rfl, by omega, (E.put 0 2 _ rfl).put 0 3 _ rfl⟩, by simp [intOf]⟩
    · have C := E.cells
      simp [BC, CF, Lgw, S7] at C
      go_wp2_with (go_at_call 52; (with_reducible refine (k2 _).mono ?_); rintro X w1 ⟨rfl, hb⟩; replace E := E.on hb; replace C := E.cells; simp [BC, CF, Lgw, S7] at C; clear hb)
      exact ⟨⟨3, rfl, by omega, (E.put 0 4 _ rfl).put 0 5 _ rfl⟩, by simp [intOf]⟩
    · have C := E.cells
      simp [BC, CF, Lgw, S7] at C
      go_wp2_with (first | (go_at_call 53; (with_reducible refine (hg _).mono ?_); rintro X w3 ⟨rfl, hb⟩; replace E := (E.on hb).add w3.heap.size 25 #[.int .i64 (a - n), .int .i64 (b - n), .int .i64 (c - n), .int .i64 (d + n), .int .i64 (e + n), .int .i64 (f + n)] rfl; replace C := E.cells; simp [BC, CF, Lgw, S7] at C; clear hb) | (go_at_call 22; (with_reducible refine (hw _).mono ?_); rintro X w4 ⟨rfl, hb⟩; replace E := E.on hb; replace C := E.cells; simp [BC, CF, Lgw, S7] at C; clear hb))
      refine bodyPost_ret (v := .tuple #[.agg #[.int .i64 0, .int .i64 0, .int .i64 0, .int .i64 0, .int .i64 0, .int .i64 0], .int .i64 2]) (by simp [results, Try.results21, go_sem, C]) rfl ⟨rfl, ?_⟩
      exact (E.six 2 rfl).1
end Go.Proofs.Ytffigpkkdljaiaa
