/- Contracts of span: size, wholeRoot. -/
import Derived.Test.YtplepbaafamjfaaV1
namespace Go.Proofs.Ytplepbaafamjfaa
open Go.ChangeShapes Go.WideShapes Go.ChangeAt Go.RowKit
set_option linter.unusedVariables false
set_option linter.unusedSimpArgs false

theorem size2_any (n : Int) (w : World) (h1 : -9223372036854775807 ≤ n) (h2 : n ≤ 9223372036854775807) :
    Calls Try.prog 66 #[.int .i64 n] w fun e w' => e = .returned (.int .u64 (ab n)) ∧ w = w' := by
  by_cases h : n < 0
  · go_enter Try.func66, Try.ntmps66
    go_wp2
    go_ret
    exact ⟨ret_one (by unfold ab; omega), rfl⟩
  · go_enter Try.func66, Try.ntmps66
    go_wp2
    go_ret
    exact ⟨ret_one (by unfold ab; omega), rfl⟩

/-- What the search holds: the root so far, and twice the bit that comes. -/
def RI (n r P : Int) : Prop := 0 ≤ r ∧ r * r ≤ n ∧ n < (r + P) * (r + P) ∧ ∃ k : Nat, k ≤ 31 ∧ P = 2 ^ k
theorem RI.start {n : Int} (h0 : 0 ≤ n) (h : n ≤ 1152921504606846976) : RI n 0 2147483648 := ⟨by omega, by omega, by omega, 31, by omega, by decide⟩
theorem RI.done {n r P : Int} (h : RI n r P) (hp : P / 2 = 0) : IsRoot r n := by
  obtain ⟨h1, h2, h3, k, hk, e⟩ := h
  have : 0 < P := by rw [e]; exact Int.pow_pos (by omega)
  have : P = 1 := by omega
  subst this
  exact ⟨h1, h2, h3⟩
theorem RI.step {n r P : Int} (h : RI n r P) (hp : ¬ P / 2 = 0) (hn : n ≤ 1152921504606846976) :
    ∃ q, P / 2 = q ∧ 0 < q ∧ q ≤ 1073741824 ∧ r ≤ 1073741824 ∧ 0 ≤ r ∧ (r + q) * (r + q) ≤ 4611686018427387904 ∧ 0 ≤ (r + q) * (r + q) ∧ ((r + q) * (r + q) ≤ n → RI n (r + q) q) ∧ (¬ (r + q) * (r + q) ≤ n → RI n r q) := by
  obtain ⟨h1, h2, h3, k, hk, e⟩ := h
  cases k with
  | zero => exfalso; apply hp; rw [e]; decide
  | succ j =>
    have e2 : P = 2 * 2 ^ j := by rw [e, Int.pow_succ]; omega
    have e3 : P / 2 = 2 ^ j := by omega
    have p0 : (0 : Int) < 2 ^ j := Int.pow_pos (by omega)
    have p1 : (2 : Int) ^ j ≤ 2 ^ 30 := by exact_mod_cast Nat.pow_le_pow_right (n := 2) (by omega) (show j ≤ 30 by omega)
    have p2 : (2 : Int) ^ 30 = 1073741824 := by decide
    have r1 : r ≤ 1073741824 := by
      have := @sq_lt r 1073741825 (by omega) (by omega)
      omega
    generalize hq : (2 : Int) ^ j = q at *
    have s1 : (r + q) * (r + q) ≤ 2147483648 * 2147483648 := sq_le (by omega) (by omega)
    have s2 : 0 ≤ (r + q) * (r + q) := Int.mul_nonneg (by omega) (by omega)
    refine ⟨q, e3, p0, by omega, r1, h1, by omega, s2, fun c => ⟨by omega, c, ?_, j, by omega, hq.symm⟩, fun c => ⟨h1, h2, by omega, j, by omega, hq.symm⟩⟩
    rw [show r + q + q = r + P by omega]; exact h3

def AnyRoot (n : Int) (w : World) (e : Ending) (w' : World) : Prop := ∃ r, IsRoot r n ∧ e = .returned (.int .i64 r) ∧ w = w'
set_option maxHeartbeats 1000000 in
theorem root_any (n : Int) (w : World) (h1 : 0 ≤ n) (h2 : n ≤ 1152921504606846976) :
    Calls Try.prog 54 #[.int .i64 n] w (AnyRoot n w) := by
  go_enter Try.func54, Try.ntmps54
  go_wp2
  go_loop [3, 4] (fun s t => ∃ r P : Int, RI n r P ∧ s = .int .i64 r ∧ t = .int .i64 (P / 2)) (fun _ t => (intOf t).toNat)
  case atStart => exact ⟨0, 2147483648, RI.start h1 h2, rfl, rfl⟩
  case round =>
    obtain ⟨r, P, hI, rfl, rfl⟩ := hrel
    by_cases c : P / 2 = 0
    · rw [c]
      have HC := Lib.hid (hI.done c); clear hI c
      go_wp2
      go_ret
      exact ⟨r, HC.out, rfl, rfl⟩
    · obtain ⟨q, e, q0, q1, r1, r0, z1, z0, yes, no⟩ := hI.step c h2
      rw [e]
      clear hI c
      have HE := Lib.hid e; clear e
      have HY := Lib.hid yes; clear yes
      have HN := Lib.hid no; clear no
      have W1 : IntKind.i64.wrap (r + q) = r + q := IntWalk.i64_in _ (by omega)
      have W2 : IntKind.i64.wrap ((r + q) * (r + q)) = (r + q) * (r + q) := IntWalk.i64_in _ (by omega)
      by_cases d : (r + q) * (r + q) ≤ n
      · have HD := Lib.hid (HY.out d)
        go_wp2
        go_round
        case rel => exact ⟨r + q, q, HD.out, rfl, rfl⟩
        case measure => simp [intOf]; omega
      · have HD := Lib.hid (HN.out d)
        go_wp2
        go_round
        case rel => exact ⟨r, q, HD.out, rfl, rfl⟩
        case measure => simp [intOf]; omega
end Go.Proofs.Ytplepbaafamjfaa
