/- Contracts of the numbers of two words: times, order, plus, sign, modulo, over. -/
import Derived.Test.YtbbbmlnggehcdaaDoorAr
import Derived.Test.YtbbbmlnggehcdaaDoorDv
import Derived.Shelf.Spec.BitsCarry
namespace Go.Proofs.YtbbbmlnggehcdaaDoor
open Go.ChangeShapes Go.WideShapes Go.ChangeAt Go.RowKit Go.Shelf
set_option linter.unusedVariables false

def mI (a b : Int) : Int := a * b
def aI (a b : Int) : Int := a + b
/-- The parts of a number of two words: its sign, and the words of its absolute value. -/
def wS (x : Int) : Bool := decide (x < 0)
def wH (x : Int) : Int := ab x / 18446744073709551616
def wL (x : Int) : Int := ab x % 18446744073709551616
/-- Numbers whose absolute values have 2 to the 126 at most. -/
def Sm (x : Int) : Prop := ab x ≤ 85070591730234615865843651857942052864
theorem wH_b {x : Int} (h : Sm x) : 0 ≤ wH x ∧ wH x ≤ 4611686018427387904 := by unfold Sm at h; have := ab_nn x; unfold wH; omega
theorem wL_b (x : Int) : 0 ≤ wL x ∧ wL x ≤ 18446744073709551615 := by have := ab_nn x; unfold wL; omega
theorem wHL (x : Int) : wH x * 18446744073709551616 + wL x = ab x := by unfold wH wL; omega

def add_ren : Ren := ⟨fun | 25 => 66 | n => n, fun | 22 => 56 | n => n, fun n => n⟩
def sub_ren : Ren := ⟨fun | 26 => 68 | n => n, fun | 22 => 56 | n => n, fun n => n⟩
theorem lays_add : Go.Proofs.Lays7.n25 Tryd.prog add_ren := { mixed := by kernel_rfl, t22 := Tryd.underlying56, a22 := Tryd.isAgg56, z22 := Tryd.sizeOf56, v22 := Tryd.zeroValue56, i22 := by kernel_rfl, f25 := Tryd.func66.trans (congrArg some (by kernel_rfl)) }
theorem lays_sub : Go.Proofs.Lays7.n26 Tryd.prog sub_ren := { mixed := by kernel_rfl, t22 := Tryd.underlying56, a22 := Tryd.isAgg56, z22 := Tryd.sizeOf56, v22 := Tryd.zeroValue56, i22 := by kernel_rfl, f26 := Tryd.func68.trans (congrArg some (by kernel_rfl)) }
theorem run_add (x y : Int) (hx : 0 ≤ x) (hy : 0 ≤ y) (w : World) :
    (callFunc 66 #[.int .u64 x, .int .u64 y, .int .u64 0]).run Tryd.prog w = .ok (.value (.tuple #[.int .u64 ((x + y) % 18446744073709551616), .int .u64 ((x + y) / 18446744073709551616)])) w := by
  have h := Any7.bits_Add64 lays_add x.toNat y.toNat 0 (by omega) w
  have e1 : ((x.toNat : Nat) : Int) = x := by omega
  have e2 : ((y.toNat : Nat) : Int) = y := by omega
  simp only [Int.natCast_ediv, Int.natCast_emod, Int.natCast_add, e1, e2, Nat.add_zero] at h
  exact h
theorem run_sub (x y : Int) (hx : 0 ≤ x) (hy : 0 ≤ y) (hy2 : y ≤ 18446744073709551615) (w : World) :
    (callFunc 68 #[.int .u64 x, .int .u64 y, .int .u64 0]).run Tryd.prog w = .ok (.value (.tuple #[.int .u64 ((x - y) % 18446744073709551616), .int .u64 (if x < y then 1 else 0)])) w := by
  have h := Any7.bits_Sub64 lays_sub x.toNat y.toNat 0 (by omega) w
  have e1 : ((x.toNat : Nat) : Int) = x := by omega
  have e2 : ((y.toNat : Nat) : Int) = y := by omega
  have e3 : (((x.toNat + 18446744073709551616 - y.toNat - 0) % 18446744073709551616 : Nat) : Int) = (x - y) % 18446744073709551616 := by omega
  have e4 : ((if x.toNat < y.toNat + 0 then 1 else 0 : Nat) : Int) = if x < y then 1 else 0 := by
    by_cases h : x < y
    · rw [if_pos h, if_pos (by omega)]; rfl
    · rw [if_neg h, if_neg (by omega)]; rfl
  rw [e3, e4, e1, e2] at h
  exact h

/-- times. -/
theorem times_dr (a b : Int) (w : World) (a1 : -9223372036854775808 ≤ a) (a2 : a ≤ 9223372036854775807) (b1 : 0 < b) (b2 : b ≤ 18446744073709551615) :
    Calls Tryd.prog 47 #[.int .i64 a, .int .u64 b] w fun e w' => e = .returned (.agg #[.bool (wS (mI a b)), .int .u64 (wH (mI a b)), .int .u64 (wL (mI a b))]) ∧ Below w.heap.size w w' := by
  have hb := ab_u (n := a) ⟨a1, a2⟩
  have hM : ∀ w, Calls Tryd.prog 65 #[.int .u64 (ab a), .int .u64 b] w fun e w' => e = .returned (.tuple #[.int .u64 (wH (mI a b)), .int .u64 (wL (mI a b))]) ∧ w' = w := fun w => by
    have h := Tryd.bits_Mul64 (ab a).toNat b.toNat (by omega) (by omega) w
    have e1 : (((ab a).toNat : Nat) : Int) = ab a := by omega
    have e2 : ((b.toNat : Nat) : Int) = b := by omega
    simp only [Int.natCast_ediv, Int.natCast_emod, Int.natCast_mul, e1, e2] at h
    have e3 : ab (mI a b) = ab a * b := by
      unfold ab mI; rw [Int.natAbs_mul, Int.natCast_mul]
      have : (b.natAbs : Int) = b := by omega
      rw [this]
    unfold wH wL; rw [e3]; exact h
  have hS : wS (mI a b) = decide (a < 0) := by
    unfold wS mI
    rw [Bool.eq_iff_iff]; simp only [decide_eq_true_eq]
    constructor
    · intro h
      rcases Int.lt_or_le a 0 with k | k
      · exact k
      · have := Int.mul_nonneg k (Int.le_of_lt b1); omega
    · intro h; exact Int.mul_neg_of_neg_of_pos h b1
  rw [hS]
  clear hS
  generalize wH (mI a b) = H at *
  generalize wL (mI a b) = L at *
  go_enter Tryd.func47, Tryd.ntmps47
  go_wp2_with (first | (go_at_call 65; refine (hM _).mono ?_; rintro e w1 ⟨rfl, rfl⟩) | (go_at_call 41; refine (size_any _ _ (by omega) (by omega)).mono ?_; rintro e w1 ⟨rfl, rfl⟩))
  refine bodyPost_ret (v := .agg #[.bool (decide (a < 0)), .int .u64 H, .int .u64 L]) (by simp [results, Tryd.results47, go_sem]) rfl ⟨rfl, al1 _ _⟩

def cmpI (x y : Int) : Int := if x < y then -1 else if y < x then 1 else 0
theorem isNaN_any (x : Int) (w : World) : Calls Tryd.prog 85 #[.int .u64 x] w fun e w' => e = .returned (.bool false) ∧ w = w' := by
  go_enter Tryd.func85, Tryd.ntmps85
  go_wp2
  go_ret
  exact ⟨rfl, rfl⟩
theorem compare_any (x y : Int) (w : World) : Calls Tryd.prog 76 #[.int .u64 x, .int .u64 y] w fun e w' => e = .returned (.int .i64 (cmpI x y)) ∧ w = w' := by
  unfold cmpI
  by_cases h1 : x < y
  · rw [if_pos h1]
    go_enter Tryd.func76, Tryd.ntmps76
    go_wp2_with (first | (go_at_call 85; refine (isNaN_any _ _).mono ?_; rintro e w1 ⟨rfl, rfl⟩))
    go_ret
    exact ⟨rfl, rfl⟩
  · rw [if_neg h1]
    by_cases h2 : y < x
    · rw [if_pos h2]
      go_enter Tryd.func76, Tryd.ntmps76
      go_wp2_with (first | (go_at_call 85; refine (isNaN_any _ _).mono ?_; rintro e w1 ⟨rfl, rfl⟩))
      go_ret
      exact ⟨rfl, rfl⟩
    · rw [if_neg h2]
      go_enter Tryd.func76, Tryd.ntmps76
      go_wp2_with (first | (go_at_call 85; refine (isNaN_any _ _).mono ?_; rintro e w1 ⟨rfl, rfl⟩))
      go_ret
      exact ⟨rfl, rfl⟩
theorem compare_dr (x y : Int) (w : World) : Calls Tryd.prog 76 #[.int .u64 x, .int .u64 y] w fun e w' => e = .returned (.int .i64 (cmpI x y)) ∧ Dr w w' :=
  (compare_any x y w).mono fun e w' h => ⟨h.1, by rw [h.2]; exact Dr.refl _⟩

def orI (a b : Int) : Int := if a = 0 then b else a
theorem or_any (a b : Int) (g : Nat) (w : World) (ha : w.cell? ⟨g, 0, none⟩ = some (.int .i64 a)) (hb : w.cell? ⟨g, 1, none⟩ = some (.int .i64 b)) :
    Calls Tryd.prog 75 #[.slice (some ⟨g, 0, none⟩) 2 2] w fun e w' => e = .returned (.int .i64 (orI a b)) ∧ Dr w w' := by
  obtain ⟨r, hr⟩ : ∃ r, r = if a = 0 then b else a := ⟨_, rfl⟩
  unfold orI
  rw [← hr]
  have HR := Lib.hid hr; clear hr
  go_enter Tryd.func75, Tryd.ntmps75
  go_wp2
  go_loop [8] (fun i => ∃ k : Int, i = .int .i64 k ∧ (k = 0 ∨ (k = 1 ∧ a = 0) ∨ (k = 2 ∧ a = 0 ∧ b = 0))) (fun i => (2 - intOf i).toNat)
  case atStart => exact ⟨0, rfl, .inl rfl⟩
  case round =>
    obtain ⟨k, rfl, hk⟩ := hrel
    rcases hk with rfl | ⟨rfl, h⟩ | ⟨rfl, h, h'⟩
    · by_cases h : a = 0
      · have h1 : (a == 0) = true := by simp [h]
        have HH := Lib.hid h
        go_wp2
        go_round
        case rel => exact ⟨1, rfl, .inr (.inl ⟨rfl, HH.out⟩)⟩
        case measure => simp [intOf]
      · have h1 : (a == 0) = false := by simp [h]
        go_wp2
        go_ret
        exact ⟨ret_one (by rw [HR.out, if_neg h]), Dr.refl _⟩
    · have HH := Lib.hid h
      clear h
      by_cases h2 : b = 0
      · have h1 : (b == 0) = true := by simp [h2]
        have HH2 := Lib.hid h2; clear h2
        go_wp2
        go_round
        case rel => exact ⟨2, rfl, .inr (.inr ⟨rfl, HH.out, HH2.out⟩)⟩
        case measure => simp [intOf]
      · have h1 : (b == 0) = false := by simp [h2]
        go_wp2
        go_ret
        exact ⟨ret_one (by rw [HR.out, if_pos HH.out]), Dr.refl _⟩
    · have HH := Lib.hid h; have HH2 := Lib.hid h'; clear h h'
      go_wp2
      go_ret
      exact ⟨ret_one (by rw [HR.out, if_pos HH.out, HH2.out]), Dr.refl _⟩
end Go.Proofs.YtbbbmlnggehcdaaDoor
