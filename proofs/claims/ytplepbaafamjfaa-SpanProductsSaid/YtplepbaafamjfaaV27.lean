/- The reference's Times and Of. -/
import Derived.Test.YtplepbaafamjfaaV26
namespace Go.Proofs.Ytplepbaafamjfaa
open Go.ChangeShapes Go.WideShapes Go.ChangeAt Go.RowKit
set_option linter.unusedVariables false
set_option linter.unusedSimpArgs false

theorem has_nn (W : World) (o : Obj) (t : TypeId) (cs : Array Value) : Has ((W.alloc o).alloc (.cells cs t)) (W.heap.size + 1) t cs := by
  have s1 : (W.alloc o).heap.size = W.heap.size + 1 := by simp
  have h := Has.new_ (W.alloc o) t cs
  rw [s1] at h; exact h

set_option maxRecDepth 100000 in
set_option maxHeartbeats 4000000 in
theorem rtimes_0 (al ah num den v0 v1 v2 v3 : Int) (b1 b2 b3 : Bool) (w : World) (m1 : -1152921504606846976 ≤ num) (m2 : num ≤ 1152921504606846976) (d1 : -1152921504606846976 ≤ den) (d2 : den ≤ 1152921504606846976) (h0 : (den == 0) = false) (p0 : ∀ W, Calls Try.prog 36 #[.int .i64 al, .int .i64 num, .int .i64 den, .bool false] W fun e w' => e = .returned (.tuple #[.int .i64 v0, .bool false]) ∧ Below W.heap.size W w') (p1 : ∀ W, Calls Try.prog 36 #[.int .i64 al, .int .i64 num, .int .i64 den, .bool true] W fun e w' => e = .returned (.tuple #[.int .i64 v1, .bool b1]) ∧ Below W.heap.size W w') (p2 : ∀ W, Calls Try.prog 36 #[.int .i64 ah, .int .i64 num, .int .i64 den, .bool false] W fun e w' => e = .returned (.tuple #[.int .i64 v2, .bool b2]) ∧ Below W.heap.size W w') (p3 : ∀ W, Calls Try.prog 36 #[.int .i64 ah, .int .i64 num, .int .i64 den, .bool true] W fun e w' => e = .returned (.tuple #[.int .i64 v3, .bool b3]) ∧ Below W.heap.size W w') :
    Calls Try.prog 30 #[.agg #[.int .i64 al, .int .i64 ah], .int .i64 num, .int .i64 den] w fun e w' => e = .returned (.tuple #[.agg #[.int .i64 0, .int .i64 0], .int .i64 5]) ∧ Below w.heap.size w w' := by
  have E := env_two w al ah 0 0 23 23
  have C := E.cells
  simp only [BC] at C
  go_enter Try.func30, Try.ntmps30
  go_wp2_with (first | (go_at_call 36; first | ((with_reducible refine (p0 _).mono ?_); rintro e w9 ⟨rfl, hb⟩; replace E := E.on hb; replace C := E.cells; simp only [BC] at C; clear hb) | ((with_reducible refine (p1 _).mono ?_); rintro e w9 ⟨rfl, hb⟩; replace E := E.on hb; replace C := E.cells; simp only [BC] at C; clear hb) | ((with_reducible refine (p2 _).mono ?_); rintro e w9 ⟨rfl, hb⟩; replace E := E.on hb; replace C := E.cells; simp only [BC] at C; clear hb) | ((with_reducible refine (p3 _).mono ?_); rintro e w9 ⟨rfl, hb⟩; replace E := E.on hb; replace C := E.cells; simp only [BC] at C; clear hb)))
  refine bodyPost_ret (v := .tuple #[.agg #[.int .i64 0, .int .i64 0], .int .i64 5]) (by simp [results, Try.results30, go_sem, C]) rfl ⟨rfl, ?_⟩
  exact (E.1.setCell (by simp) _).setCell (by simp) _

set_option maxRecDepth 100000 in
set_option maxHeartbeats 4000000 in
theorem rtimes_1 (al ah num den v0 v1 v2 v3 : Int) (b2 b3 : Bool) (w : World) (m1 : -1152921504606846976 ≤ num) (m2 : num ≤ 1152921504606846976) (d1 : -1152921504606846976 ≤ den) (d2 : den ≤ 1152921504606846976) (h0 : (den == 0) = false) (p0 : ∀ W, Calls Try.prog 36 #[.int .i64 al, .int .i64 num, .int .i64 den, .bool false] W fun e w' => e = .returned (.tuple #[.int .i64 v0, .bool true]) ∧ Below W.heap.size W w') (p1 : ∀ W, Calls Try.prog 36 #[.int .i64 al, .int .i64 num, .int .i64 den, .bool true] W fun e w' => e = .returned (.tuple #[.int .i64 v1, .bool false]) ∧ Below W.heap.size W w') (p2 : ∀ W, Calls Try.prog 36 #[.int .i64 ah, .int .i64 num, .int .i64 den, .bool false] W fun e w' => e = .returned (.tuple #[.int .i64 v2, .bool b2]) ∧ Below W.heap.size W w') (p3 : ∀ W, Calls Try.prog 36 #[.int .i64 ah, .int .i64 num, .int .i64 den, .bool true] W fun e w' => e = .returned (.tuple #[.int .i64 v3, .bool b3]) ∧ Below W.heap.size W w') :
    Calls Try.prog 30 #[.agg #[.int .i64 al, .int .i64 ah], .int .i64 num, .int .i64 den] w fun e w' => e = .returned (.tuple #[.agg #[.int .i64 0, .int .i64 0], .int .i64 5]) ∧ Below w.heap.size w w' := by
  have E := env_two w al ah 0 0 23 23
  have C := E.cells
  simp only [BC] at C
  go_enter Try.func30, Try.ntmps30
  go_wp2_with (first | (go_at_call 36; first | ((with_reducible refine (p0 _).mono ?_); rintro e w9 ⟨rfl, hb⟩; replace E := E.on hb; replace C := E.cells; simp only [BC] at C; clear hb) | ((with_reducible refine (p1 _).mono ?_); rintro e w9 ⟨rfl, hb⟩; replace E := E.on hb; replace C := E.cells; simp only [BC] at C; clear hb) | ((with_reducible refine (p2 _).mono ?_); rintro e w9 ⟨rfl, hb⟩; replace E := E.on hb; replace C := E.cells; simp only [BC] at C; clear hb) | ((with_reducible refine (p3 _).mono ?_); rintro e w9 ⟨rfl, hb⟩; replace E := E.on hb; replace C := E.cells; simp only [BC] at C; clear hb)))
  refine bodyPost_ret (v := .tuple #[.agg #[.int .i64 0, .int .i64 0], .int .i64 5]) (by simp [results, Try.results30, go_sem, C]) rfl ⟨rfl, ?_⟩
  exact (E.1.setCell (by simp) _).setCell (by simp) _

set_option maxRecDepth 100000 in
set_option maxHeartbeats 4000000 in
theorem rtimes_2 (al ah num den v0 v1 v2 v3 : Int) (b3 : Bool) (w : World) (m1 : -1152921504606846976 ≤ num) (m2 : num ≤ 1152921504606846976) (d1 : -1152921504606846976 ≤ den) (d2 : den ≤ 1152921504606846976) (h0 : (den == 0) = false) (p0 : ∀ W, Calls Try.prog 36 #[.int .i64 al, .int .i64 num, .int .i64 den, .bool false] W fun e w' => e = .returned (.tuple #[.int .i64 v0, .bool true]) ∧ Below W.heap.size W w') (p1 : ∀ W, Calls Try.prog 36 #[.int .i64 al, .int .i64 num, .int .i64 den, .bool true] W fun e w' => e = .returned (.tuple #[.int .i64 v1, .bool true]) ∧ Below W.heap.size W w') (p2 : ∀ W, Calls Try.prog 36 #[.int .i64 ah, .int .i64 num, .int .i64 den, .bool false] W fun e w' => e = .returned (.tuple #[.int .i64 v2, .bool false]) ∧ Below W.heap.size W w') (p3 : ∀ W, Calls Try.prog 36 #[.int .i64 ah, .int .i64 num, .int .i64 den, .bool true] W fun e w' => e = .returned (.tuple #[.int .i64 v3, .bool b3]) ∧ Below W.heap.size W w') :
    Calls Try.prog 30 #[.agg #[.int .i64 al, .int .i64 ah], .int .i64 num, .int .i64 den] w fun e w' => e = .returned (.tuple #[.agg #[.int .i64 0, .int .i64 0], .int .i64 5]) ∧ Below w.heap.size w w' := by
  have E := env_two w al ah 0 0 23 23
  have C := E.cells
  simp only [BC] at C
  go_enter Try.func30, Try.ntmps30
  go_wp2_with (first | (go_at_call 36; first | ((with_reducible refine (p0 _).mono ?_); rintro e w9 ⟨rfl, hb⟩; replace E := E.on hb; replace C := E.cells; simp only [BC] at C; clear hb) | ((with_reducible refine (p1 _).mono ?_); rintro e w9 ⟨rfl, hb⟩; replace E := E.on hb; replace C := E.cells; simp only [BC] at C; clear hb) | ((with_reducible refine (p2 _).mono ?_); rintro e w9 ⟨rfl, hb⟩; replace E := E.on hb; replace C := E.cells; simp only [BC] at C; clear hb) | ((with_reducible refine (p3 _).mono ?_); rintro e w9 ⟨rfl, hb⟩; replace E := E.on hb; replace C := E.cells; simp only [BC] at C; clear hb)))
  refine bodyPost_ret (v := .tuple #[.agg #[.int .i64 0, .int .i64 0], .int .i64 5]) (by simp [results, Try.results30, go_sem, C]) rfl ⟨rfl, ?_⟩
  exact (E.1.setCell (by simp) _).setCell (by simp) _

set_option maxRecDepth 100000 in
set_option maxHeartbeats 4000000 in
theorem rtimes_3 (al ah num den v0 v1 v2 v3 : Int) (w : World) (m1 : -1152921504606846976 ≤ num) (m2 : num ≤ 1152921504606846976) (d1 : -1152921504606846976 ≤ den) (d2 : den ≤ 1152921504606846976) (h0 : (den == 0) = false) (p0 : ∀ W, Calls Try.prog 36 #[.int .i64 al, .int .i64 num, .int .i64 den, .bool false] W fun e w' => e = .returned (.tuple #[.int .i64 v0, .bool true]) ∧ Below W.heap.size W w') (p1 : ∀ W, Calls Try.prog 36 #[.int .i64 al, .int .i64 num, .int .i64 den, .bool true] W fun e w' => e = .returned (.tuple #[.int .i64 v1, .bool true]) ∧ Below W.heap.size W w') (p2 : ∀ W, Calls Try.prog 36 #[.int .i64 ah, .int .i64 num, .int .i64 den, .bool false] W fun e w' => e = .returned (.tuple #[.int .i64 v2, .bool true]) ∧ Below W.heap.size W w') (p3 : ∀ W, Calls Try.prog 36 #[.int .i64 ah, .int .i64 num, .int .i64 den, .bool true] W fun e w' => e = .returned (.tuple #[.int .i64 v3, .bool false]) ∧ Below W.heap.size W w') :
    Calls Try.prog 30 #[.agg #[.int .i64 al, .int .i64 ah], .int .i64 num, .int .i64 den] w fun e w' => e = .returned (.tuple #[.agg #[.int .i64 0, .int .i64 0], .int .i64 5]) ∧ Below w.heap.size w w' := by
  have E := env_two w al ah 0 0 23 23
  have C := E.cells
  simp only [BC] at C
  go_enter Try.func30, Try.ntmps30
  go_wp2_with (first | (go_at_call 36; first | ((with_reducible refine (p0 _).mono ?_); rintro e w9 ⟨rfl, hb⟩; replace E := E.on hb; replace C := E.cells; simp only [BC] at C; clear hb) | ((with_reducible refine (p1 _).mono ?_); rintro e w9 ⟨rfl, hb⟩; replace E := E.on hb; replace C := E.cells; simp only [BC] at C; clear hb) | ((with_reducible refine (p2 _).mono ?_); rintro e w9 ⟨rfl, hb⟩; replace E := E.on hb; replace C := E.cells; simp only [BC] at C; clear hb) | ((with_reducible refine (p3 _).mono ?_); rintro e w9 ⟨rfl, hb⟩; replace E := E.on hb; replace C := E.cells; simp only [BC] at C; clear hb)))
  refine bodyPost_ret (v := .tuple #[.agg #[.int .i64 0, .int .i64 0], .int .i64 5]) (by simp [results, Try.results30, go_sem, C]) rfl ⟨rfl, ?_⟩
  exact (E.1.setCell (by simp) _).setCell (by simp) _

set_option maxRecDepth 100000 in
set_option maxHeartbeats 4000000 in
theorem rtimes_4 (al ah num den v0 v1 v2 v3 : Int) (w : World) (m1 : -1152921504606846976 ≤ num) (m2 : num ≤ 1152921504606846976) (d1 : -1152921504606846976 ≤ den) (d2 : den ≤ 1152921504606846976) (h0 : (den == 0) = false) (p0 : ∀ W, Calls Try.prog 36 #[.int .i64 al, .int .i64 num, .int .i64 den, .bool false] W fun e w' => e = .returned (.tuple #[.int .i64 v0, .bool true]) ∧ Below W.heap.size W w') (p1 : ∀ W, Calls Try.prog 36 #[.int .i64 al, .int .i64 num, .int .i64 den, .bool true] W fun e w' => e = .returned (.tuple #[.int .i64 v1, .bool true]) ∧ Below W.heap.size W w') (p2 : ∀ W, Calls Try.prog 36 #[.int .i64 ah, .int .i64 num, .int .i64 den, .bool false] W fun e w' => e = .returned (.tuple #[.int .i64 v2, .bool true]) ∧ Below W.heap.size W w') (p3 : ∀ W, Calls Try.prog 36 #[.int .i64 ah, .int .i64 num, .int .i64 den, .bool true] W fun e w' => e = .returned (.tuple #[.int .i64 v3, .bool true]) ∧ Below W.heap.size W w') {x y e0 : Int} (hr : fitS (mn v0 v2) (mx v1 v3) = (x, y, e0)) :
    Calls Try.prog 30 #[.agg #[.int .i64 al, .int .i64 ah], .int .i64 num, .int .i64 den] w fun e w' => e = .returned (.tuple #[.agg #[.int .i64 x, .int .i64 y], .int .i64 e0]) ∧ Below w.heap.size w w' := by
  have E := env_two w al ah 0 0 23 23
  have C := E.cells
  simp only [BC] at C
  have hl := fun W g h => least2 v0 v2 W g h
  have hg := fun W g h => greatest2 v1 v3 W g h
  generalize mn v0 v2 = m at *
  generalize mx v1 v3 = M at *
  have hF := fun W => rfits_any m M W hr
  clear hr
  go_enter Try.func30, Try.ntmps30
  go_wp2_with (first | (go_at_call 36; first | ((with_reducible refine (p0 _).mono ?_); rintro e w9 ⟨rfl, hb⟩; replace E := E.on hb; replace C := E.cells; simp only [BC] at C; clear hb) | ((with_reducible refine (p1 _).mono ?_); rintro e w9 ⟨rfl, hb⟩; replace E := E.on hb; replace C := E.cells; simp only [BC] at C; clear hb) | ((with_reducible refine (p2 _).mono ?_); rintro e w9 ⟨rfl, hb⟩; replace E := E.on hb; replace C := E.cells; simp only [BC] at C; clear hb) | ((with_reducible refine (p3 _).mono ?_); rintro e w9 ⟨rfl, hb⟩; replace E := E.on hb; replace C := E.cells; simp only [BC] at C; clear hb)) | (go_at_call 49; (with_reducible refine (hl _ _ (Has.new_ _ _ _)).mono ?_); rintro e w8 ⟨rfl, rfl⟩) | (go_at_call 48; (with_reducible refine (hg _ _ (has_nn _ _ _ _)).mono ?_); rintro e w8 ⟨rfl, rfl⟩) | (go_at_call 47; (with_reducible refine (hF _).mono ?_); rintro e w7 ⟨rfl, hb⟩; replace E := ((E.more _).more _).on hb; replace C := E.cells; simp only [BC] at C; clear hb))
  refine bodyPost_ret (v := .tuple #[.agg #[.int .i64 x, .int .i64 y], .int .i64 e0]) (by simp [results, Try.results30, go_sem, C]) rfl ⟨rfl, ?_⟩
  exact (E.1.setCell (by simp) _).setCell (by simp) _

theorem rtimes_zero (al ah num : Int) (w : World) :
    Calls Try.prog 30 #[.agg #[.int .i64 al, .int .i64 ah], .int .i64 num, .int .i64 0] w fun e w' => e = .returned (.tuple #[.agg #[.int .i64 0, .int .i64 0], .int .i64 16]) ∧ Below w.heap.size w w' := by
  go_enter Try.func30, Try.ntmps30
  go_wp2
  refine bodyPost_ret (v := .tuple #[.agg #[.int .i64 0, .int .i64 0], .int .i64 16]) (by simp [results, Try.results30, go_sem]) rfl ⟨rfl, al2 _ _ _⟩
theorem rtimes_far (al ah num den : Int) (w : World) (h0 : (den == 0) = false) (hr : num < -1152921504606846976 ∨ 1152921504606846976 < num ∨ den < -1152921504606846976 ∨ 1152921504606846976 < den) :
    Calls Try.prog 30 #[.agg #[.int .i64 al, .int .i64 ah], .int .i64 num, .int .i64 den] w fun e w' => e = .returned (.tuple #[.agg #[.int .i64 0, .int .i64 0], .int .i64 2]) ∧ Below w.heap.size w w' := by
  by_cases c1 : num < -1152921504606846976
  · clear hr
    go_enter Try.func30, Try.ntmps30
    go_wp2
    refine bodyPost_ret (v := .tuple #[.agg #[.int .i64 0, .int .i64 0], .int .i64 2]) (by simp [results, Try.results30, go_sem]) rfl ⟨rfl, al2 _ _ _⟩
  · by_cases c2 : 1152921504606846976 < num
    · clear hr
      go_enter Try.func30, Try.ntmps30
      go_wp2
      refine bodyPost_ret (v := .tuple #[.agg #[.int .i64 0, .int .i64 0], .int .i64 2]) (by simp [results, Try.results30, go_sem]) rfl ⟨rfl, al2 _ _ _⟩
    · by_cases c3 : den < -1152921504606846976
      · clear hr
        go_enter Try.func30, Try.ntmps30
        go_wp2
        refine bodyPost_ret (v := .tuple #[.agg #[.int .i64 0, .int .i64 0], .int .i64 2]) (by simp [results, Try.results30, go_sem]) rfl ⟨rfl, al2 _ _ _⟩
      · have c4 : 1152921504606846976 < den := by omega
        clear hr
        go_enter Try.func30, Try.ntmps30
        go_wp2
        refine bodyPost_ret (v := .tuple #[.agg #[.int .i64 0, .int .i64 0], .int .i64 2]) (by simp [results, Try.results30, go_sem]) rfl ⟨rfl, al2 _ _ _⟩
theorem pAny (n num den : Int) (up : Bool) (n1 : -1152921504606846976 ≤ n) (n2 : n ≤ 1152921504606846976) (m1 : -1152921504606846976 ≤ num) (m2 : num ≤ 1152921504606846976) (d1 : -1152921504606846976 ≤ den) (d2 : den ≤ 1152921504606846976) (d0 : den ≠ 0) : ∀ W, Calls Try.prog 36 #[.int .i64 n, .int .i64 num, .int .i64 den, .bool up] W fun e w' => e = .returned (.tuple #[.int .i64 ((partR n num den up).1), .bool ((partR n num den up).2)]) ∧ Below W.heap.size W w' :=
  fun W => part_any n num den up W n1 n2 m1 m2 d1 d2 d0
theorem rtimes_in (al ah num den : Int) (w : World) (va : SV al ah) (m1 : -1152921504606846976 ≤ num) (m2 : num ≤ 1152921504606846976) (d1 : -1152921504606846976 ≤ den) (d2 : den ≤ 1152921504606846976) (d0 : den ≠ 0) :
    Calls Try.prog 30 #[.agg #[.int .i64 al, .int .i64 ah], .int .i64 num, .int .i64 den] w (Tup w (timesS al ah num den)) := by
  have h0 : (den == 0) = false := by simp [d0]
  obtain ⟨a1, a2, a3⟩ := va
  have P0 := pAny al num den false (by omega) (by omega) m1 m2 d1 d2 d0
  have P1 := pAny al num den true (by omega) (by omega) m1 m2 d1 d2 d0
  have P2 := pAny ah num den false (by omega) (by omega) m1 m2 d1 d2 d0
  have P3 := pAny ah num den true (by omega) (by omega) m1 m2 d1 d2 d0
  have l1 := s_le al num den d0
  have l2 := s_le ah num den d0
  have k1 := mn_le (sLo al num den) (sLo ah num den)
  have k2 := mx_ge (sHi al num den) (sHi ah num den)
  have no : (sLo al num den < -1152921504606846976 ∨ 1152921504606846976 < sLo al num den) ∨ (sHi al num den < -1152921504606846976 ∨ 1152921504606846976 < sHi al num den) ∨ (sLo ah num den < -1152921504606846976 ∨ 1152921504606846976 < sLo ah num den) ∨ (sHi ah num den < -1152921504606846976 ∨ 1152921504606846976 < sHi ah num den) → timesS al ah num den = (0, 0, 5) := by
    intro h
    unfold timesS
    refine fitS_no fun v => ?_
    obtain ⟨v0, v1, v2⟩ := v
    omega
  rcases part_lo al num den with ⟨e0, -⟩ | ⟨e0, f⟩
  · rw [e0] at P0
    rcases part_hi al num den with ⟨e1, -⟩ | ⟨e1, f⟩
    · rw [e1] at P1
      rcases part_lo ah num den with ⟨e2, -⟩ | ⟨e2, f⟩
      · rw [e2] at P2
        rcases part_hi ah num den with ⟨e3, -⟩ | ⟨e3, f⟩
        · rw [e3] at P3
          exact tup_of (rtimes_4 al ah num den _ _ _ _ w m1 m2 d1 d2 h0 P0 P1 P2 P3 (pr3 _)) rfl
        · rw [e3] at P3
          exact tup_of (rtimes_3 al ah num den _ _ _ _ w m1 m2 d1 d2 h0 P0 P1 P2 P3) (no (.inr (.inr (.inr f))))
      · rw [e2] at P2
        exact tup_of (rtimes_2 al ah num den _ _ _ _ _ w m1 m2 d1 d2 h0 P0 P1 P2 P3) (no (.inr (.inr (.inl f))))
    · rw [e1] at P1
      exact tup_of (rtimes_1 al ah num den _ _ _ _ _ _ w m1 m2 d1 d2 h0 P0 P1 P2 P3) (no (.inr (.inl f)))
  · rw [e0] at P0
    exact tup_of (rtimes_0 al ah num den _ _ _ _ _ _ _ w m1 m2 d1 d2 h0 P0 P1 P2 P3) (no (.inl f))
theorem rtimes_p (al ah num den : Int) (w : World) (va : SV al ah) : Calls Try.prog 30 #[.agg #[.int .i64 al, .int .i64 ah], .int .i64 num, .int .i64 den] w (Tup w (timesR al ah num den)) := by
  have h := sB_t.2 va
  by_cases c : den = 0
  · subst c
    exact tup_of (rtimes_zero al ah num w) (by unfold timesR; rw [h]; rfl)
  · by_cases d : -1152921504606846976 ≤ num ∧ num ≤ 1152921504606846976 ∧ -1152921504606846976 ≤ den ∧ den ≤ 1152921504606846976
    · have e : timesR al ah num den = timesS al ah num den := by unfold timesR; rw [h, if_pos rfl, if_neg c, if_pos d]
      rw [e]
      exact rtimes_in al ah num den w va d.1 d.2.1 d.2.2.1 d.2.2.2 c
    · exact tup_of (rtimes_far al ah num den w (by simp [c]) (by omega)) (by unfold timesR; rw [h, if_pos rfl, if_neg c, if_neg d])

set_option maxRecDepth 100000 in
set_option maxHeartbeats 4000000 in
theorem rof_0 (n d u v0 v1 : Int) (b1 : Bool) (w : World) (u1 : 1 ≤ u) (u2 : u ≤ 1099511627776) (p0 : ∀ W, Calls Try.prog 36 #[.int .i64 n, .int .i64 u, .int .i64 d, .bool false] W fun e w' => e = .returned (.tuple #[.int .i64 v0, .bool false]) ∧ Below W.heap.size W w') (p1 : ∀ W, Calls Try.prog 36 #[.int .i64 n, .int .i64 u, .int .i64 d, .bool true] W fun e w' => e = .returned (.tuple #[.int .i64 v1, .bool b1]) ∧ Below W.heap.size W w') :
    Calls Try.prog 33 #[.agg #[.int .i64 n, .int .i64 d], .int .i64 u] w fun e w' => e = .returned (.tuple #[.agg #[.int .i64 0, .int .i64 0], .int .i64 5]) ∧ Below w.heap.size w w' := by
  have E := env_two w n d 0 0 35 23
  have C := E.cells
  simp only [BC] at C
  go_enter Try.func33, Try.ntmps33
  go_wp2_with (first | (go_at_call 36; first | ((with_reducible refine (p0 _).mono ?_); rintro e w9 ⟨rfl, hb⟩; replace E := E.on hb; replace C := E.cells; simp only [BC] at C; clear hb) | ((with_reducible refine (p1 _).mono ?_); rintro e w9 ⟨rfl, hb⟩; replace E := E.on hb; replace C := E.cells; simp only [BC] at C; clear hb)))
  refine bodyPost_ret (v := .tuple #[.agg #[.int .i64 0, .int .i64 0], .int .i64 5]) (by simp [results, Try.results33, go_sem, C]) rfl ⟨rfl, ?_⟩
  exact (E.1.setCell (by simp) _).setCell (by simp) _

set_option maxRecDepth 100000 in
set_option maxHeartbeats 4000000 in
theorem rof_1 (n d u v0 v1 : Int) (w : World) (u1 : 1 ≤ u) (u2 : u ≤ 1099511627776) (p0 : ∀ W, Calls Try.prog 36 #[.int .i64 n, .int .i64 u, .int .i64 d, .bool false] W fun e w' => e = .returned (.tuple #[.int .i64 v0, .bool true]) ∧ Below W.heap.size W w') (p1 : ∀ W, Calls Try.prog 36 #[.int .i64 n, .int .i64 u, .int .i64 d, .bool true] W fun e w' => e = .returned (.tuple #[.int .i64 v1, .bool false]) ∧ Below W.heap.size W w') :
    Calls Try.prog 33 #[.agg #[.int .i64 n, .int .i64 d], .int .i64 u] w fun e w' => e = .returned (.tuple #[.agg #[.int .i64 0, .int .i64 0], .int .i64 5]) ∧ Below w.heap.size w w' := by
  have E := env_two w n d 0 0 35 23
  have C := E.cells
  simp only [BC] at C
  go_enter Try.func33, Try.ntmps33
  go_wp2_with (first | (go_at_call 36; first | ((with_reducible refine (p0 _).mono ?_); rintro e w9 ⟨rfl, hb⟩; replace E := E.on hb; replace C := E.cells; simp only [BC] at C; clear hb) | ((with_reducible refine (p1 _).mono ?_); rintro e w9 ⟨rfl, hb⟩; replace E := E.on hb; replace C := E.cells; simp only [BC] at C; clear hb)))
  refine bodyPost_ret (v := .tuple #[.agg #[.int .i64 0, .int .i64 0], .int .i64 5]) (by simp [results, Try.results33, go_sem, C]) rfl ⟨rfl, ?_⟩
  exact (E.1.setCell (by simp) _).setCell (by simp) _

set_option maxRecDepth 100000 in
set_option maxHeartbeats 4000000 in
theorem rof_2 (n d u v0 v1 : Int) (w : World) (u1 : 1 ≤ u) (u2 : u ≤ 1099511627776) (p0 : ∀ W, Calls Try.prog 36 #[.int .i64 n, .int .i64 u, .int .i64 d, .bool false] W fun e w' => e = .returned (.tuple #[.int .i64 v0, .bool true]) ∧ Below W.heap.size W w') (p1 : ∀ W, Calls Try.prog 36 #[.int .i64 n, .int .i64 u, .int .i64 d, .bool true] W fun e w' => e = .returned (.tuple #[.int .i64 v1, .bool true]) ∧ Below W.heap.size W w') :
    Calls Try.prog 33 #[.agg #[.int .i64 n, .int .i64 d], .int .i64 u] w fun e w' => e = .returned (.tuple #[.agg #[.int .i64 v0, .int .i64 v1], .int .i64 0]) ∧ Below w.heap.size w w' := by
  have E := env_two w n d 0 0 35 23
  have C := E.cells
  simp only [BC] at C
  go_enter Try.func33, Try.ntmps33
  go_wp2_with (first | (go_at_call 36; first | ((with_reducible refine (p0 _).mono ?_); rintro e w9 ⟨rfl, hb⟩; replace E := E.on hb; replace C := E.cells; simp only [BC] at C; clear hb) | ((with_reducible refine (p1 _).mono ?_); rintro e w9 ⟨rfl, hb⟩; replace E := E.on hb; replace C := E.cells; simp only [BC] at C; clear hb)))
  refine bodyPost_ret (v := .tuple #[.agg #[.int .i64 v0, .int .i64 v1], .int .i64 0]) (by simp [results, Try.results33, go_sem, C]) rfl ⟨rfl, ?_⟩
  exact (E.1.setCell (by simp) _).setCell (by simp) _

theorem rof_far (n d u : Int) (w : World) (h : u < 1 ∨ (¬ u < 1 ∧ 1099511627776 < u)) :
    Calls Try.prog 33 #[.agg #[.int .i64 n, .int .i64 d], .int .i64 u] w fun e w' => e = .returned (.tuple #[.agg #[.int .i64 0, .int .i64 0], .int .i64 2]) ∧ Below w.heap.size w w' := by
  rcases h with c | ⟨c, c'⟩
  · go_enter Try.func33, Try.ntmps33
    go_wp2
    refine bodyPost_ret (v := .tuple #[.agg #[.int .i64 0, .int .i64 0], .int .i64 2]) (by simp [results, Try.results33, go_sem]) rfl ⟨rfl, al2 _ _ _⟩
  · go_enter Try.func33, Try.ntmps33
    go_wp2
    refine bodyPost_ret (v := .tuple #[.agg #[.int .i64 0, .int .i64 0], .int .i64 2]) (by simp [results, Try.results33, go_sem]) rfl ⟨rfl, al2 _ _ _⟩
theorem rof_p (n d u : Int) (w : World) (v : V n d) : Calls Try.prog 33 #[.agg #[.int .i64 n, .int .i64 d], .int .i64 u] w (Tup w (ofR n d u)) := by
  have hv := vB_t.2 v
  by_cases c : 1 ≤ u ∧ u ≤ 1099511627776
  · have e : ofR n d u = fitS (sLo n u d) (sHi n u d) := by unfold ofR; rw [hv, if_pos rfl, if_pos c]
    rw [e]
    obtain ⟨d1, d2, n1, n2, -⟩ := v
    have d0 : d ≠ 0 := by omega
    have P0 := pAny n u d false n1 n2 (by omega) (by omega) (by omega) (by omega) d0
    have P1 := pAny n u d true n1 n2 (by omega) (by omega) (by omega) (by omega) d0
    have l := s_le n u d d0
    have no : (sLo n u d < -1152921504606846976 ∨ 1152921504606846976 < sLo n u d) ∨ (sHi n u d < -1152921504606846976 ∨ 1152921504606846976 < sHi n u d) → fitS (sLo n u d) (sHi n u d) = (0, 0, 5) := by
      intro h
      refine fitS_no fun v => ?_
      obtain ⟨v0, v1, v2⟩ := v
      omega
    rcases part_lo n u d with ⟨e0, f0, f0'⟩ | ⟨e0, f⟩
    · rw [e0] at P0
      rcases part_hi n u d with ⟨e1, f1, f1'⟩ | ⟨e1, f⟩
      · rw [e1] at P1
        exact tup_of (rof_2 n d u _ _ w c.1 c.2 P0 P1) (fitS_of ⟨l, f0, f1'⟩)
      · rw [e1] at P1
        exact tup_of (rof_1 n d u _ _ w c.1 c.2 P0 P1) (no (.inr f))
    · rw [e0] at P0
      exact tup_of (rof_0 n d u _ _ _ w c.1 c.2 P0 P1) (no (.inl f))
  · exact tup_of (rof_far n d u w (by omega)) (by unfold ofR; rw [hv, if_pos rfl, if_neg c])

end Go.Proofs.Ytplepbaafamjfaa
