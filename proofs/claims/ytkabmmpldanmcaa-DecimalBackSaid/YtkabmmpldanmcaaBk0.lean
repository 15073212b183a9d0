/- DecimalBack: contracts in the form that its walk wants. -/
import Derived.Test.YtkabmmpldanmcaaLawF
import Derived.Test.YtkabmmpldanmcaaLawP
import Derived.Test.YtkabmmpldanmcaaBkP
namespace Go.Proofs.Ytkabmmpldanmcaa
open Go.ChangeShapes Go.WideShapes Go.ChangeAt Go.RowKit
set_option linter.unusedVariables false

theorem fmtN (n : Int) (k : Nat) (x : ByteArray) (w : World) (hk : k ≤ 9) (h1 : -1152921504606846976 ≤ n) (h2 : n ≤ 1152921504606846976) (hx : x = ⟨(fmtL n k).toArray⟩) :
    Calls Try.prog 11 #[.int .i64 n, .int .i64 k] w fun e w' => e = .returned (.tuple #[.string x, .int .i64 0]) ∧ Below w.heap.size w w' := by
  subst hx; exact format_ok n k w hk h1 h2
theorem parN (s : ByteArray) (k : Nat) (a b : Int) (w : World) (hk : k ≤ 9) (hs : s.size ≤ 100) (h : parseL s.data.toList k = (a, b)) :
    Calls Try.prog 14 #[.string s, .int .i64 k] w fun e w' => e = .returned (.tuple #[.int .i64 a, .int .i64 b]) ∧ Below w.heap.size w w' := by
  have h2 := parse_any s k w hk (by omega)
  rw [h] at h2; exact h2
theorem index_is (s : ByteArray) (pt : Int) (w : World) (h : Lib.indexByte s.data.toList 46 = pt) :
    Calls Try.prog 24 #[.string s, .int .u8 46] w fun e w' => e = .returned (.int .i64 pt) ∧ w = w' := by
  have h2 := Try.strings_IndexByte s 46 w
  have e : (46 : Int).toNat.toUInt8 = (46 : UInt8) := rfl
  rw [e, h] at h2
  exact h2.mono fun e w' ⟨h1, h2⟩ => ⟨h1, h2.symm⟩
theorem toN {l : List UInt8} {k r : Nat} {p : Int × Int} (h : parseL l (k + r) = p) : parseL l ((k : Int) + r).toNat = p := by
  rw [show ((k : Int) + r).toNat = k + r by omega]; exact h

/-- One division by ten. -/
theorem ten_step (n z : Int) (r i : Nat) (h : i < r) (hz : z = n * 10 ^ (r - i)) (h1 : -1152921504606846976 ≤ z) (h2 : z ≤ 1152921504606846976) :
    ∃ z' : Int, z.tmod 10 = 0 ∧ z.tdiv 10 = z' ∧ -1152921504606846976 ≤ z' ∧ z' ≤ 1152921504606846976 ∧ z' = n * 10 ^ (r - (i + 1)) := by
  have e : z = n * 10 ^ (r - (i + 1)) * 10 := by
    rw [hz, show r - i = r - (i + 1) + 1 by omega, Int.pow_succ, ← Int.mul_assoc]
  generalize hy : n * 10 ^ (r - (i + 1)) = y at e
  refine ⟨y, ?_, ?_, by omega, by omega, rfl⟩
  · rw [e]; exact Int.mul_tmod_left y 10
  · rw [e]; exact Int.mul_tdiv_cancel y (by omega)
end Go.Proofs.Ytkabmmpldanmcaa
