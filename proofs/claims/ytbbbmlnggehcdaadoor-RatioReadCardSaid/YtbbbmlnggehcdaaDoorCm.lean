/- Blocks that a call has begun with; the contract of Cmp. -/
import Derived.Test.YtbbbmlnggehcdaaDoorMk
namespace Go.Proofs.YtbbbmlnggehcdaaDoor
open Go.ChangeShapes Go.WideShapes Go.ChangeAt Go.RowKit Go.Shelf
set_option linter.unusedVariables false

/-- The arguments of a call, in their two blocks. -/
def Two (w0 w : World) (an ad bn bd : Int) : Prop :=
  Has w w0.heap.size 23 #[.int .i64 an, .int .i64 ad] ∧ Has w (w0.heap.size + 1) 23 #[.int .i64 bn, .int .i64 bd] ∧ Below w0.heap.size w0 w ∧ w0.heap.size + 2 ≤ w.heap.size
theorem two_start (w : World) (an ad bn bd : Int) : Two w ((w.alloc (.cells #[.int .i64 an, .int .i64 ad] 23)).alloc (.cells #[.int .i64 bn, .int .i64 bd] 23)) an ad bn bd := by
  have s1 : (w.alloc (.cells #[.int .i64 an, .int .i64 ad] 23)).heap.size = w.heap.size + 1 := by simp
  have h1 := ((Has.new_ w 23 #[.int .i64 an, .int .i64 ad]).alloc_ (.cells #[.int .i64 bn, .int .i64 bd] 23))
  have h2 := Has.new_ (w.alloc (.cells #[.int .i64 an, .int .i64 ad] 23)) 23 #[.int .i64 bn, .int .i64 bd]
  rw [s1] at h2
  exact ⟨h1, h2, al2 _ _ _, by simp⟩
theorem Two.next {w0 w w1 : World} {an ad bn bd : Int} (h : Two w0 w an ad bn bd) (hb : Below w.heap.size w w1) : Two w0 w1 an ad bn bd :=
  ⟨h.1.below_ hb (by have := h.2.2.2; omega), h.2.1.below_ hb (by have := h.2.2.2; omega), h.2.2.1.trans (hb.mono (by have := h.2.2.2; omega)), Nat.le_trans h.2.2.2 hb.size⟩
theorem Two.alloc {w0 w : World} {an ad bn bd : Int} (h : Two w0 w an ad bn bd) (o : Obj) : Two w0 (w.alloc o) an ad bn bd := h.next (al1 _ _)
theorem Two.dr {w0 w w1 : World} {an ad bn bd : Int} (h : Two w0 w an ad bn bd) (hb : Dr w w1) : Two w0 w1 an ad bn bd := h.next (Dr.below' hb)
theorem Two.drewN {w0 w : World} {an ad bn bd : Int} (h : Two w0 w an ad bn bd) (n : Nat) : Two w0 (w.drewN n) an ad bn bd := h.dr ⟨n, rfl⟩
theorem Two.drew {w0 w : World} {an ad bn bd : Int} (h : Two w0 w an ad bn bd) : Two w0 w.drew an ad bn bd := ⟨h.1, h.2.1, h.2.2.1.drew, h.2.2.2⟩
theorem Two.cells {w0 w : World} {an ad bn bd : Int} (h : Two w0 w an ad bn bd) :
    w.cell? ⟨w0.heap.size, 0, none⟩ = some (.int .i64 an) ∧ w.cell? ⟨w0.heap.size, 1, none⟩ = some (.int .i64 ad) ∧ w.cell? ⟨w0.heap.size + 1, 0, none⟩ = some (.int .i64 bn) ∧ w.cell? ⟨w0.heap.size + 1, 1, none⟩ = some (.int .i64 bd) :=
  ⟨h.1.read 0, h.1.read 1, h.2.1.read 0, h.2.1.read 1⟩
theorem Two.kept' {w0 w : World} {an ad bn bd : Int} (h : Two w0 w an ad bn bd) :
    w.cell? ⟨w0.heap.size, 0, none⟩ = some (.int .i64 an) ∧ w.cell? ⟨w0.heap.size, 1, none⟩ = some (.int .i64 ad) ∧ w.cell? ⟨w0.heap.size + 1, 0, none⟩ = some (.int .i64 bn) ∧ w.cell? ⟨w0.heap.size + 1, 1, none⟩ = some (.int .i64 bd) ∧ Two w0 w an ad bn bd :=
  ⟨h.cells.1, h.cells.2.1, h.cells.2.2.1, h.cells.2.2.2, h⟩

theorem cmp_bad (an ad bn bd : Int) (w : World) (x1 : -9223372036854775808 ≤ an) (x2 : an ≤ 9223372036854775807) (x3 : -9223372036854775808 ≤ ad) (x4 : ad ≤ 9223372036854775807)
    (y1 : -9223372036854775808 ≤ bn) (y2 : bn ≤ 9223372036854775807) (y3 : -9223372036854775808 ≤ bd) (y4 : bd ≤ 9223372036854775807) (hv : vB an ad = true → vB bn bd = false) :
    Calls Tryd.prog 25 #[.agg #[.int .i64 an, .int .i64 ad], .agg #[.int .i64 bn, .int .i64 bd]] w fun e w' => e = .returned (.tuple #[.int .i64 0, .int .i64 1]) ∧ Below w.heap.size w w' := by
  cases hA : vB an ad
  · clear hv
    go_enter Tryd.func25, Tryd.ntmps25
    go_wp2_with (first | (go_at_call 17; refine (valid_any _ _ _ (by omega) (by omega) (by omega) (by omega)).mono ?_; rw [hA]; rintro e w1 ⟨rfl, hb⟩))
    go_ret2
    exact ⟨rfl, belows (al2 _ _ _) hb⟩
  · have hB := hv hA
    clear hv
    go_enter Tryd.func25, Tryd.ntmps25
    go_wp2_with (first | (go_at_call 17; refine (valid_any _ _ _ (by omega) (by omega) (by omega) (by omega)).mono ?_; (first | (rw [hA]; rintro e w1 ⟨rfl, hb⟩; have B1 := (two_start w an ad bn bd).next hb; clear hb; obtain ⟨c0, c1, d0, d1⟩ := B1.cells) | (rw [hB]; rintro e w2 ⟨rfl, hb⟩; have B2 := B1.next hb; clear hb))))
    go_ret2
    exact ⟨rfl, B2.2.2.1⟩

theorem Sm_mul {a b : Int} (h1 : -1152921504606846976 ≤ a) (h2 : a ≤ 1152921504606846976) (h3 : 0 < b) (h4 : b ≤ 1152921504606846976) : Sm (mI a b) := by
  unfold Sm mI ab
  rw [Int.natAbs_mul, Int.natCast_mul]
  have : (a.natAbs : Int) * (b.natAbs : Int) ≤ 1152921504606846976 * 1152921504606846976 := Int.mul_le_mul (by omega) (by omega) (by omega) (by omega)
  omega

theorem cmp_ok (an ad bn bd : Int) (w : World) (va : V an ad) (vb : V bn bd) :
    Calls Tryd.prog 25 #[.agg #[.int .i64 an, .int .i64 ad], .agg #[.int .i64 bn, .int .i64 bd]] w fun e w' => e = .returned (.tuple #[.int .i64 (cmpQ an ad bn bd), .int .i64 0]) ∧ Below w.heap.size w w' := by
  have hA := vB_t.2 va
  have hB := vB_t.2 vb
  have hR : cmpI (aI (mI an (ab bd)) (mI (-bn) (ab ad))) 0 = cmpQ an ad bn bd := by
    rw [ab_pos (Int.le_of_lt (V0 va)), ab_pos (Int.le_of_lt (V0 vb))]
    unfold cmpI aI mI cmpQ
    rw [Int.neg_mul]
    generalize an * bd = p
    generalize bn * ad = q
    repeat' split
    all_goals omega
  have a0 := V0 va
  have b0 := V0 vb
  obtain ⟨a1, a2, a3, a4, -⟩ := va
  obtain ⟨b1, b2, b3, b4, -⟩ := vb
  have p1 : Sm (mI an (ab bd)) := Sm_mul a3 a4 (by rw [ab_pos (by omega)]; omega) (by rw [ab_pos (by omega)]; omega)
  have p2 : Sm (mI (-bn) (ab ad)) := Sm_mul (by omega) (by omega) (by rw [ab_pos (by omega)]; omega) (by rw [ab_pos (by omega)]; omega)
  have e1 : 0 < ab ad ∧ ab ad ≤ 1152921504606846976 := by rw [ab_pos (by omega)]; omega
  have e2 : 0 < ab bd ∧ ab bd ≤ 1152921504606846976 := by rw [ab_pos (by omega)]; omega
  have N1 := IntWalk.i64_in (-bn) (by omega)
  have hS := fun w => sign_any (aI (mI an (ab bd)) (mI (-bn) (ab ad))) w
  simp only [hR] at hS
  clear hR
  generalize cmpQ an ad bn bd = R at *
  go_enter Tryd.func25, Tryd.ntmps25
  go_wp2_with (first | (go_at_call 17; refine (valid_any _ _ _ (by omega) (by omega) (by omega) (by omega)).mono ?_; (first | (rw [hA]; rintro e w1 ⟨rfl, hb⟩; have B1 := (two_start w an ad bn bd).next hb; clear hb; obtain ⟨c0, c1, d0, d1⟩ := B1.cells) | (rw [hB]; rintro e w2 ⟨rfl, hb⟩; have B2 := B1.next hb; clear hb; obtain ⟨c0, c1, d0, d1⟩ := B2.cells))))
  go_region_held3 (fun w' => w'.cell? ⟨w.heap.size, 0, none⟩ = some (.int .i64 an) ∧ w'.cell? ⟨w.heap.size, 1, none⟩ = some (.int .i64 ad) ∧ w'.cell? ⟨w.heap.size + 1, 0, none⟩ = some (.int .i64 bn) ∧ w'.cell? ⟨w.heap.size + 1, 1, none⟩ = some (.int .i64 bd) ∧ Two w w' an ad bn bd)
    (first | exact Two.kept' (B2.drew) | exact Two.kept' (Two.next (by go_split_ands; assumption) hb) | go_keep)
    (first | (go_at_call 41; refine (size_any _ _ (by omega) (by omega)).mono ?_; rintro e w1 ⟨rfl, rfl⟩) | (go_at_call 47; refine (times_dr _ _ _ (by omega) (by omega) (by omega) (by omega)).mono ?_; rintro e w1 ⟨rfl, hb⟩) | (go_at_call 48; refine (plus_any _ _ _ p1 p2).mono ?_; rintro e w1 ⟨rfl, hb⟩) | (go_at_call 52; refine (hS _).mono ?_; rintro e w1 ⟨rfl, hb⟩))
  rename_i hH
  have hZ := hH.2.2.2.2.2.2.1
  clear hH
  go_wp2
  go_ret2
  exact ⟨rfl, hZ⟩
end Go.Proofs.YtbbbmlnggehcdaaDoor
