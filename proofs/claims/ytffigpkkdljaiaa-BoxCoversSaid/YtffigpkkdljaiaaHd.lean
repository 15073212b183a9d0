/- holding: which sides contain a part. -/
import Derived.Test.YtffigpkkdljaiaaRw
namespace Go.Proofs.Ytffigpkkdljaiaa
open Go.ChangeShapes Go.WideShapes Go.ChangeAt Go.RowKit
set_option linter.unusedVariables false
set_option linter.unusedSimpArgs false

theorem two_lt {k : Nat} (h : k < 40) : (2 : Nat) ^ k < 18446744073709551616 := by
  have : (2 : Nat) ^ k ≤ 2 ^ 40 := Nat.pow_le_pow_right (by decide) (by omega)
  omega
theorem hmk_small (os : List S2) (p : S2) {k : Nat} (h : k ≤ 40) : hmk os p k < 18446744073709551616 := by
  have h1 := hmk_lt os p k
  have : (2 : Nat) ^ k ≤ 2 ^ 40 := Nat.pow_le_pow_right (by decide) h
  omega
set_option maxRecDepth 100000 in
theorem holding_any (v : Value) (os : List S2) (p : S2) (w : World) (hR : Rd sc 2 w v os) (hl : os.length ≤ 40) :
    Calls Try.prog 65 #[v, .agg #[.int .i64 p.1, .int .i64 p.2]] w fun e w' => e = .returned (.int .u64 (hmk os p os.length : Nat)) ∧ Below w.heap.size w w' := by
  obtain ⟨q, c, rfl, hC⟩ := hR.s
  have hP := Has.new_ w 67 #[.int .i64 p.1, .int .i64 p.2]
  have hB0 := al1 w (.cells #[.int .i64 p.1, .int .i64 p.2] 67)
  go_enter Try.func65, Try.ntmps65
  go_wp2
  go_loopw [5, 10] (fun v5 v10 wr => ∃ k : Nat, v10 = .int .i64 k ∧ k ≤ os.length ∧ v5 = .int .u64 (hmk os p k : Nat) ∧ Has wr w.heap.size 67 #[.int .i64 p.1, .int .i64 p.2] ∧ Below w.heap.size w wr) (fun _ v _ => os.length - (intOf v).toNat)
  case atStart => exact ⟨0, rfl, Nat.zero_le _, rfl, hP, hB0⟩
  case round =>
    clear hP hB0
    obtain ⟨k, rfl, hk, rfl, hP, hB⟩ := hrel
    by_cases hlt : k < os.length
    · have g1 : decide ((k : Int) < (os.length : Int)) = true := by simp [hlt]
      obtain ⟨g, rfl, c0, c1⟩ := hC k hlt
      have d0 := cell_later hB c0
      have d1 := cell_later hB c1
      have p0 := hP.read 0
      have p1 := hP.read 1
      simp at p0 p1
      have hz := hP.size_
      have hz2 : ¬ w.heap.size = wr.heap.size := by omega
      have hz3 : ¬ wr.heap.size = w.heap.size := by omega
      have hP1 := hP.on (al1 wr (.cells #[.int .i64 os[k].1, .int .i64 os[k].2] 67))
      have hB1 := al hB (.cells #[.int .i64 os[k].1, .int .i64 os[k].2] 67)
      have W1 : IntKind.i64.wrap ((k : Int) + 1) = ((k + 1 : Nat) : Int) := by rw [IntWalk.i64_in _ (by omega)]; omega
      have h := fun w => sdcon_any os[k].1 os[k].2 p.1 p.2 w
      have e : os.getD k (0, 0) = os[k] := by simp [hlt]
      clear hC
      cases hv : cn os[k] p
      · have e2 : hmk os p (k + 1) = hmk os p k := by rw [hmk, e, hv]; simp
        unfold cn at hv
        rw [hv] at h
        go_wp2_with (go_at_call 51; (with_reducible refine (h _).mono ?_); rintro X w1 ⟨rfl, hb⟩)
        exact ⟨⟨k + 1, rfl, hlt, by rw [e2], hP1.on hb, belows hB1 hb⟩, by simp [intOf]; omega⟩
      · have e2 : hmk os p (k + 1) = hmk os p k ||| 2 ^ k := by rw [hmk, e, hv]; simp
        have hs := hmk_small os p (k := k) (by omega)
        have ht := two_lt (k := k) (by omega)
        have e3 : (2 : Int) ^ k = ((2 ^ k : Nat) : Int) := by simp
        have W3 : IntKind.u64.wrap ((2 : Int) ^ k) = (2 : Int) ^ k := by
          rw [e3]
          generalize (2 : Nat) ^ k = m at ht
          exact IntWalk.u64_in _ (by omega)
        have W2 : bits .or .u64 ((hmk os p k : Nat) : Int) ((2 ^ k : Nat) : Int) = ((hmk os p (k + 1) : Nat) : Int) := by rw [e2]; exact bits_or_u64_nat _ _ hs (two_lt (by omega))
        have E3 := Lib.hid e3
        unfold cn at hv
        rw [hv] at h
        clear e3
        go_wp2_with (go_at_call 51; (with_reducible refine (h _).mono ?_); rintro X w1 ⟨rfl, hb⟩)
        exact ⟨⟨k + 1, rfl, hlt, by rw [E3.out, W2], hP1.on hb, belows hB1 hb⟩, by simp [intOf]; omega⟩
    · have g1 : decide ((k : Int) < (os.length : Int)) = false := by simp; omega
      have e : k = os.length := by omega
      subst e
      go_wp2
      go_ret
      exact ⟨rfl, hB⟩
end Go.Proofs.Ytffigpkkdljaiaa
