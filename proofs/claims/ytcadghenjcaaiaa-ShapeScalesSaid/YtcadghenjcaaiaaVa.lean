/- Valid. -/
import Derived.Test.YtcadghenjcaaiaaSm
namespace Go.Proofs.Ytcadghenjcaaiaa
open Go.ChangeShapes Go.WideShapes Go.ChangeAt Go.RowKit
set_option linter.unusedVariables false
set_option linter.unusedSimpArgs false

theorem six0 (a b c d e f : Int) (w : World) : Sem.run Try.prog (Instr.index 83 (.agg #[.int .i64 a, .int .i64 b, .int .i64 c, .int .i64 d, .int .i64 e, .int .i64 f]) (.int .i64 0)) w = .ok (.agg #[.int .i64 a, .int .i64 b]) w := by
  simp [Instr.index, go_sem, Try.underlying83]
theorem six1 (a b c d e f : Int) (w : World) : Sem.run Try.prog (Instr.index 83 (.agg #[.int .i64 a, .int .i64 b, .int .i64 c, .int .i64 d, .int .i64 e, .int .i64 f]) (.int .i64 1)) w = .ok (.agg #[.int .i64 c, .int .i64 d]) w := by
  simp [Instr.index, go_sem, Try.underlying83]
theorem six2 (a b c d e f : Int) (w : World) : Sem.run Try.prog (Instr.index 83 (.agg #[.int .i64 a, .int .i64 b, .int .i64 c, .int .i64 d, .int .i64 e, .int .i64 f]) (.int .i64 2)) w = .ok (.agg #[.int .i64 e, .int .i64 f]) w := by
  simp [Instr.index, go_sem, Try.underlying83]
def vB (a b c d e f : Int) : Bool := sdV a d && sdV b e && sdV c f
set_option maxHeartbeats 4000000 in
set_option maxRecDepth 100000 in
theorem valid_any (a b c d e f : Int) (w : World) :
    Calls Try.prog 55 #[.agg #[.int .i64 a, .int .i64 b, .int .i64 c, .int .i64 d, .int .i64 e, .int .i64 f]] w fun E w' => E = .returned (.bool (vB a b c d e f)) ∧ Below w.heap.size w w' := by
  have h1 := fun W => sides_any a b c d e f W
  have k0 := fun W => sdvalid_any a d W
  have k1 := fun W => sdvalid_any b e W
  have k2 := fun W => sdvalid_any c f W
  unfold vB
  generalize sdV a d = x at *
  generalize sdV b e = y at *
  generalize sdV c f = z at *
  have B0 := al1 w (.cells (C6 a b c d e f) 42)
  go_enter Try.func55, Try.ntmps55
  go_wp2_with (go_at_call 56; (with_reducible refine (h1 _).mono ?_); rintro X w1 ⟨rfl, hb⟩; replace B0 := belows B0 hb; clear hb h1)
  go_loopw [7] (fun v wr => ∃ i : Nat, v = .int .i64 (i : Int) ∧ i ≤ 3 ∧ Below w.heap.size w wr ∧ (0 < i → x = true) ∧ (1 < i → y = true) ∧ (2 < i → z = true)) (fun v _ => 3 - (intOf v).toNat)
  case atStart => exact ⟨0, rfl, by omega, B0, by omega, by omega, by omega⟩
  case round =>
    clear B0
    obtain ⟨i, rfl, hi, B, hx, hy, hz⟩ := hrel
    rcases (by omega : i = 0 ∨ i = 1 ∨ i = 2 ∨ i = 3) with rfl | rfl | rfl | rfl
    · clear hx hy hz
      have ix := fun W => six0 a d b e c f W
      cases x
      · go_wp2_with (go_at_call 64; (with_reducible refine (k0 _).mono ?_); rintro X w2 ⟨rfl, hb⟩; replace B := belows (al B _) hb; clear hb)
        go_ret
        exact ⟨rfl, B⟩
      · go_wp2_with (go_at_call 64; (with_reducible refine (k0 _).mono ?_); rintro X w2 ⟨rfl, hb⟩; replace B := belows (al B _) hb; clear hb)
        exact ⟨⟨1, rfl, by omega, B, by simp, by simp, by simp⟩, by simp [intOf]⟩
    · have e := hx (by omega); subst e
      clear hx hy hz
      have ix := fun W => six1 a d b e c f W
      cases y
      · go_wp2_with (go_at_call 64; (with_reducible refine (k1 _).mono ?_); rintro X w2 ⟨rfl, hb⟩; replace B := belows (al B _) hb; clear hb)
        go_ret
        exact ⟨rfl, B⟩
      · go_wp2_with (go_at_call 64; (with_reducible refine (k1 _).mono ?_); rintro X w2 ⟨rfl, hb⟩; replace B := belows (al B _) hb; clear hb)
        exact ⟨⟨2, rfl, by omega, B, by simp, by simp, by simp⟩, by simp [intOf]⟩
    · have e := hx (by omega); subst e
      have e := hy (by omega); subst e
      clear hx hy hz
      have ix := fun W => six2 a d b e c f W
      cases z
      · go_wp2_with (go_at_call 64; (with_reducible refine (k2 _).mono ?_); rintro X w2 ⟨rfl, hb⟩; replace B := belows (al B _) hb; clear hb)
        go_ret
        exact ⟨rfl, B⟩
      · go_wp2_with (go_at_call 64; (with_reducible refine (k2 _).mono ?_); rintro X w2 ⟨rfl, hb⟩; replace B := belows (al B _) hb; clear hb)
        exact ⟨⟨3, rfl, by omega, B, by simp, by simp, by simp⟩, by simp [intOf]⟩
    · have e := hx (by omega); subst e
      have e := hy (by omega); subst e
      have e := hz (by omega); subst e
      clear hx hy hz
      go_wp2
      go_ret
      exact ⟨rfl, B⟩
end Go.Proofs.Ytcadghenjcaaiaa
