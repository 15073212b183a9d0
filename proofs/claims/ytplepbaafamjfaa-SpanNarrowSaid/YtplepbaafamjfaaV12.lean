/- The contracts for whatever arguments. -/
import Derived.Test.YtplepbaafamjfaaV8
import Derived.Test.YtplepbaafamjfaaV9
import Derived.Test.YtplepbaafamjfaaV10
import Derived.Test.YtplepbaafamjfaaV11
namespace Go.Proofs.Ytplepbaafamjfaa
open Go.ChangeShapes Go.WideShapes Go.ChangeAt Go.RowKit
set_option linter.unusedVariables false
set_option linter.unusedSimpArgs false

/-- The whole root, as a function. -/
def rtK : Nat → Nat
  | 0 => 0
  | k + 1 => if (rtK k + 1) * (rtK k + 1) ≤ k + 1 then rtK k + 1 else rtK k
theorem rtK_spec (m : Nat) : rtK m * rtK m ≤ m ∧ m < (rtK m + 1) * (rtK m + 1) := by
  induction m with
  | zero => exact ⟨by decide, by decide⟩
  | succ k ih =>
    unfold rtK
    obtain ⟨a, b⟩ := ih
    generalize rtK k = r at *
    split
    · rename_i c
      have e : (r + 1 + 1) * (r + 1 + 1) = (r + 1) * (r + 1) + 2 * r + 3 := by grind
      exact ⟨c, by omega⟩
    · exact ⟨by omega, by omega⟩
def rt (n : Int) : Int := (rtK n.toNat : Int)
theorem rt_is {n : Int} (h : 0 ≤ n) : IsRoot (rt n) n := by
  obtain ⟨a, b⟩ := rtK_spec n.toNat
  unfold rt
  generalize rtK n.toNat = r at *
  refine ⟨by omega, ?_, ?_⟩
  · have : ((r * r : Nat) : Int) ≤ n := by omega
    rw [Int.natCast_mul] at this; exact this
  · have : n < (((r + 1) * (r + 1) : Nat) : Int) := by omega
    rw [Int.natCast_mul] at this; exact this
def rtU (n : Int) : Int := if rt n * rt n < n then rt n + 1 else rt n
def rootR (al ah : Int) : Int × Int × Int := if sB al ah then (if al < 0 then (0, 0, 2) else (rt al, rtU ah, 0)) else (0, 0, 1)

def Tup (w : World) (r : Int × Int × Int) (e : Ending) (w' : World) : Prop := e = .returned (.tuple #[.agg #[.int .i64 r.1, .int .i64 r.2.1], .int .i64 r.2.2]) ∧ Below w.heap.size w w'
theorem tup_of {K : Nat} {args : Array Value} {w : World} {x y e0 : Int} {r : Int × Int × Int} (h : Calls Try.prog K args w fun e w' => e = .returned (.tuple #[.agg #[.int .i64 x, .int .i64 y], .int .i64 e0]) ∧ Below w.heap.size w w') (e : r = (x, y, e0)) : Calls Try.prog K args w (Tup w r) := by
  subst e; exact h
theorem pr3 (r : Int × Int × Int) : r = (r.1, r.2.1, r.2.2) := rfl
theorem ok2_t {al ah bl bh : Int} (h : ok2 al ah bl bh = true) : SV al ah ∧ SV bl bh := by
  unfold ok2 at h; rw [Bool.and_eq_true] at h; exact ⟨sB_t.1 h.1, sB_t.1 h.2⟩

theorem sadd_p (al ah bl bh : Int) (w : World) : Calls Try.prog 12 #[.agg #[.int .i64 al, .int .i64 ah], .agg #[.int .i64 bl, .int .i64 bh]] w (Tup w (addR al ah bl bh)) := by
  cases h : ok2 al ah bl bh
  · exact tup_of (sadd_bad al ah bl bh w h) (by unfold addR; rw [h]; rfl)
  · exact tup_of (sadd_ok al ah bl bh w (ok2_t h).1 (ok2_t h).2 (pr3 _)) (by unfold addR; rw [h]; rfl)
theorem ssub_p (al ah bl bh : Int) (w : World) : Calls Try.prog 13 #[.agg #[.int .i64 al, .int .i64 ah], .agg #[.int .i64 bl, .int .i64 bh]] w (Tup w (subR al ah bl bh)) := by
  cases h : ok2 al ah bl bh
  · exact tup_of (ssub_bad al ah bl bh w h) (by unfold subR; rw [h]; rfl)
  · exact tup_of (ssub_ok al ah bl bh w (ok2_t h).1 (ok2_t h).2 (pr3 _)) (by unfold subR; rw [h]; rfl)
theorem hull_p (al ah bl bh : Int) (w : World) : Calls Try.prog 14 #[.agg #[.int .i64 al, .int .i64 ah], .agg #[.int .i64 bl, .int .i64 bh]] w (Tup w (hullR al ah bl bh)) := by
  cases h : ok2 al ah bl bh
  · exact tup_of (hull_bad al ah bl bh w h) (by unfold hullR; rw [h]; rfl)
  · exact tup_of (hull_ok al ah bl bh w (ok2_t h).1 (ok2_t h).2) (by unfold hullR; rw [h]; rfl)
theorem meet_p (al ah bl bh : Int) (w : World) : Calls Try.prog 15 #[.agg #[.int .i64 al, .int .i64 ah], .agg #[.int .i64 bl, .int .i64 bh]] w (Tup w (meetR al ah bl bh)) := by
  cases h : ok2 al ah bl bh
  · exact tup_of (meet_bad al ah bl bh w h) (by unfold meetR; rw [h]; rfl)
  · exact tup_of (meet_ok al ah bl bh w (ok2_t h).1 (ok2_t h).2 (pr3 _)) rfl
theorem smul_p (al ah bl bh : Int) (w : World) : Calls Try.prog 23 #[.agg #[.int .i64 al, .int .i64 ah], .agg #[.int .i64 bl, .int .i64 bh]] w (Tup w (mulR al ah bl bh)) := by
  cases h : ok2 al ah bl bh
  · exact tup_of (smul_bad al ah bl bh w h) (by unfold mulR; rw [h]; rfl)
  · exact tup_of (smul_ok al ah bl bh w (ok2_t h).1 (ok2_t h).2 (pr3 _)) (by unfold mulR; rw [h]; rfl)
theorem sdiv_p (al ah bl bh : Int) (w : World) : Calls Try.prog 24 #[.agg #[.int .i64 al, .int .i64 ah], .agg #[.int .i64 bl, .int .i64 bh]] w (Tup w (divR al ah bl bh)) := by
  cases h : ok2 al ah bl bh
  · exact tup_of (sdiv_bad al ah bl bh w h) (by unfold divR; rw [h]; rfl)
  · by_cases c : bl ≤ 0 ∧ 0 ≤ bh
    · exact tup_of (sdiv_zero al ah bl bh w (ok2_t h).1 (ok2_t h).2 c.1 c.2) (by unfold divR; rw [h, if_pos rfl, if_pos c])
    · exact tup_of (sdiv_ok al ah bl bh w (ok2_t h).1 (ok2_t h).2 (by omega) (pr3 _)) (by unfold divR; rw [h, if_pos rfl, if_neg c])
theorem stimes_p (al ah num den : Int) (w : World) : Calls Try.prog 27 #[.agg #[.int .i64 al, .int .i64 ah], .int .i64 num, .int .i64 den] w (Tup w (timesR al ah num den)) := by
  cases h : sB al ah
  · exact tup_of (stimes_bad al ah num den w h) (by unfold timesR; rw [h]; rfl)
  · by_cases c : den = 0
    · subst c
      exact tup_of (stimes_zero al ah num w h) (by unfold timesR; rw [h]; rfl)
    · by_cases d : -1152921504606846976 ≤ num ∧ num ≤ 1152921504606846976 ∧ -1152921504606846976 ≤ den ∧ den ≤ 1152921504606846976
      · exact tup_of (stimes_ok al ah num den w (sB_t.1 h) c d.1 d.2.1 d.2.2.1 d.2.2.2 (pr3 _)) (by unfold timesR; rw [h, if_pos rfl, if_neg c, if_pos d])
      · exact tup_of (stimes_far al ah num den w h (by simp [c]) (by omega)) (by unfold timesR; rw [h, if_pos rfl, if_neg c, if_neg d])
theorem sroot_p (al ah : Int) (w : World) : Calls Try.prog 28 #[.agg #[.int .i64 al, .int .i64 ah]] w (Tup w (rootR al ah)) := by
  cases h : sB al ah
  · exact tup_of (sroot_bad al ah w h) (by unfold rootR; rw [h]; rfl)
  · have v := sB_t.1 h
    have v1 := v.1
    by_cases c : al < 0
    · exact tup_of (sroot_neg al ah w v c) (by unfold rootR; rw [h, if_pos rfl, if_pos c])
    · exact tup_of (sroot_ok al ah _ _ (rt ah) w v (by omega) (rt_is (by omega)) (rt_is (by omega)) rfl) (by unfold rootR; rw [h, if_pos rfl, if_neg c]; rfl)
theorem sof_p (n d unit : Int) (w : World) (n1 : -9223372036854775808 ≤ n) (n2 : n ≤ 9223372036854775807) (d1 : -9223372036854775808 ≤ d) (d2 : d ≤ 9223372036854775807) : Calls Try.prog 29 #[.agg #[.int .i64 n, .int .i64 d], .int .i64 unit] w (Tup w (ofR n d unit)) := by
  cases h : vB n d
  · exact tup_of (sof_bad n d unit w n1 n2 d1 d2 h) (by unfold ofR; rw [h]; rfl)
  · by_cases c : 1 ≤ unit ∧ unit ≤ 1099511627776
    · exact tup_of (sof_ok n d unit w (vB_t.1 h) c.1 c.2 (pr3 _)) (by unfold ofR; rw [h, if_pos rfl, if_pos c])
    · exact tup_of (sof_far n d unit w (vB_t.1 h) (by omega)) (by unfold ofR; rw [h, if_pos rfl, if_neg c])
theorem of_le (a b : Int) (w : World) (h : a ≤ b) :
    Calls Try.prog 39 #[.int .i64 a, .int .i64 b] w fun e w' => e = .returned (.agg #[.int .i64 a, .int .i64 b]) ∧ Below w.heap.size w w' := by
  have k := of_any a b w
  unfold mn mx at k
  rw [if_pos h, if_pos h] at k
  exact k
end Go.Proofs.Ytplepbaafamjfaa
