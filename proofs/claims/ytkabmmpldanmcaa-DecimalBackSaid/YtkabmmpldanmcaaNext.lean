/- Contracts of the reference: Symbol and next. -/
import Derived.Test.YtkabmmpldanmcaaFst
namespace Go.Proofs.Ytkabmmpldanmcaa
open Go.ChangeShapes Go.WideShapes Go.ChangeAt Go.RowKit
set_option linter.unusedVariables false

def aloneL : List Int := [45, 43, 58, 44, 59, 47, 61, 40, 41, 60, 62, 42]

/-- The rest of Symbol: the loop over the lone symbols. -/
theorem symbol_two (s : ByteArray) (k0 : Nat) (w : World) (hs : s.size ≤ maxLen) (h1 : k0 + 1 < s.size) (he : ((s[k0 + 1].toNat : Nat) : Int) = 61) (hc : ((s[k0].toNat : Nat) : Int) = 62 ∨ ((s[k0].toNat : Nat) : Int) = 60 ∨ ((s[k0].toNat : Nat) : Int) = 58) :
    Calls Try.prog 53 #[.string s, .int .i64 k0] w fun e w' => e = .returned (.int .i64 2) ∧ w = w' := by
  unfold maxLen at hs
  rcases hc with hc | hc | hc
  all_goals
    go_enter Try.func53, Try.ntmps53
    go_wp2
    go_ret
    exact ⟨rfl, rfl⟩

def SymRet (c : Int) (w : World) (e : Ending) (w' : World) : Prop := e = .returned (.int .i64 (if c ∈ aloneL then 1 else 0)) ∧ ∃ n, w' = w.drewN n
def NoneTo (c : Int) (k : Nat) : Prop := ∀ j, j < k → aloneL.getD j 0 ≠ c
theorem symRet_yes {c : Int} {w : World} {n : Nat} {v : Int} (h : v = c) (hm : v ∈ aloneL) : SymRet c w (.returned (.int .i64 1)) (w.drewN n) := ⟨by rw [← h, if_pos hm], n, rfl⟩
theorem symRet_no {c : Int} {w : World} {n : Nat} (h : NoneTo c 12) : SymRet c w (.returned (.int .i64 0)) (w.drewN n) := by
  refine ⟨?_, n, rfl⟩
  rw [if_neg]
  intro hm
  obtain ⟨j, hj, e⟩ := List.getElem_of_mem hm
  exact h j (by simpa [aloneL] using hj) (by rw [← e]; simp [hj])
theorem noneTo_succ {c : Int} {k : Nat} (h : NoneTo c k) (h2 : aloneL.getD k 0 ≠ c) : NoneTo c (k + 1) := by
  intro j hj
  by_cases e : j = k
  · subst e; exact h2
  · exact h j (by omega)

theorem symRet_beq {c x v : Int} {w : World} {n : Nat} (hx : x = c) (h : (x == v) = true) (hm : v ∈ aloneL) : SymRet c w (.returned (.int .i64 1)) (w.drewN n) :=
  symRet_yes ((eq_of_beq h).symm.trans hx) hm
theorem noneTo_beq {c x v : Int} {k : Nat} (hx : x = c) (h : (x == v) = false) (hv : aloneL.getD k 0 = v) (hn : NoneTo c k) : NoneTo c (k + 1) :=
  noneTo_succ hn (by rw [hv, ← hx]; intro e; rw [e] at h; simp at h)

set_option maxHeartbeats 2000000 in
theorem symbol_end (s : ByteArray) (k0 : Nat) (w : World) (c : Int) (hs : s.size ≤ maxLen) (h0 : k0 < s.size) (HC : Hid (((s[k0].toNat : Nat) : Int) = c))
    (h : s.size ≤ k0 + 1) :
    Calls Try.prog 53 #[.string s, .int .i64 k0] w (SymRet c w) := by
  unfold maxLen at hs
  go_enter Try.func53, Try.ntmps53
  go_wp2
  go_loopw [6] (fun i wr => ∃ k : Nat, k ≤ 12 ∧ i = .int .i64 k ∧ NoneTo c k ∧ ∃ n, wr = w.drewN n) (fun i _ => 12 - (intOf i).toNat)
  case atStart => exact ⟨0, by omega, rfl, fun j hj => absurd hj (by omega), 0, rfl⟩
  case round =>
    obtain ⟨k, hk, rfl, hn, n, rfl⟩ := hrel
    have HN := Lib.hid hn; clear hn
    rcases (show k = 12 ∨ k = 0 ∨ k = 1 ∨ k = 2 ∨ k = 3 ∨ k = 4 ∨ k = 5 ∨ k = 6 ∨ k = 7 ∨ k = 8 ∨ k = 9 ∨ k = 10 ∨ k = 11 by omega) with rfl | rfl | rfl | rfl | rfl | rfl | rfl | rfl | rfl | rfl | rfl | rfl | rfl
    · go_wp2
      go_ret
      exact symRet_no HN.out
    · go_wp2
      go_quiet (fail)
      go_wp2
      · rename_i ht
        go_ret
        rw [World.drewN_drewN]
        exact symRet_beq HC.out ht (by decide)
      · rename_i ht
        go_roundw
        case rel => exact ⟨1, by omega, by go_num, noneTo_beq HC.out ht rfl HN.out, _, rfl⟩
        case measure => simp [intOf]
    · go_wp2
      go_quiet (fail)
      go_wp2
      · rename_i ht
        go_ret
        rw [World.drewN_drewN]
        exact symRet_beq HC.out ht (by decide)
      · rename_i ht
        go_roundw
        case rel => exact ⟨2, by omega, by go_num, noneTo_beq HC.out ht rfl HN.out, _, rfl⟩
        case measure => simp [intOf]
    · go_wp2
      go_quiet (fail)
      go_wp2
      · rename_i ht
        go_ret
        rw [World.drewN_drewN]
        exact symRet_beq HC.out ht (by decide)
      · rename_i ht
        go_roundw
        case rel => exact ⟨3, by omega, by go_num, noneTo_beq HC.out ht rfl HN.out, _, rfl⟩
        case measure => simp [intOf]
    · go_wp2
      go_quiet (fail)
      go_wp2
      · rename_i ht
        go_ret
        rw [World.drewN_drewN]
        exact symRet_beq HC.out ht (by decide)
      · rename_i ht
        go_roundw
        case rel => exact ⟨4, by omega, by go_num, noneTo_beq HC.out ht rfl HN.out, _, rfl⟩
        case measure => simp [intOf]
    · go_wp2
      go_quiet (fail)
      go_wp2
      · rename_i ht
        go_ret
        rw [World.drewN_drewN]
        exact symRet_beq HC.out ht (by decide)
      · rename_i ht
        go_roundw
        case rel => exact ⟨5, by omega, by go_num, noneTo_beq HC.out ht rfl HN.out, _, rfl⟩
        case measure => simp [intOf]
    · go_wp2
      go_quiet (fail)
      go_wp2
      · rename_i ht
        go_ret
        rw [World.drewN_drewN]
        exact symRet_beq HC.out ht (by decide)
      · rename_i ht
        go_roundw
        case rel => exact ⟨6, by omega, by go_num, noneTo_beq HC.out ht rfl HN.out, _, rfl⟩
        case measure => simp [intOf]
    · go_wp2
      go_quiet (fail)
      go_wp2
      · rename_i ht
        go_ret
        rw [World.drewN_drewN]
        exact symRet_beq HC.out ht (by decide)
      · rename_i ht
        go_roundw
        case rel => exact ⟨7, by omega, by go_num, noneTo_beq HC.out ht rfl HN.out, _, rfl⟩
        case measure => simp [intOf]
    · go_wp2
      go_quiet (fail)
      go_wp2
      · rename_i ht
        go_ret
        rw [World.drewN_drewN]
        exact symRet_beq HC.out ht (by decide)
      · rename_i ht
        go_roundw
        case rel => exact ⟨8, by omega, by go_num, noneTo_beq HC.out ht rfl HN.out, _, rfl⟩
        case measure => simp [intOf]
    · go_wp2
      go_quiet (fail)
      go_wp2
      · rename_i ht
        go_ret
        rw [World.drewN_drewN]
        exact symRet_beq HC.out ht (by decide)
      · rename_i ht
        go_roundw
        case rel => exact ⟨9, by omega, by go_num, noneTo_beq HC.out ht rfl HN.out, _, rfl⟩
        case measure => simp [intOf]
    · go_wp2
      go_quiet (fail)
      go_wp2
      · rename_i ht
        go_ret
        rw [World.drewN_drewN]
        exact symRet_beq HC.out ht (by decide)
      · rename_i ht
        go_roundw
        case rel => exact ⟨10, by omega, by go_num, noneTo_beq HC.out ht rfl HN.out, _, rfl⟩
        case measure => simp [intOf]
    · go_wp2
      go_quiet (fail)
      go_wp2
      · rename_i ht
        go_ret
        rw [World.drewN_drewN]
        exact symRet_beq HC.out ht (by decide)
      · rename_i ht
        go_roundw
        case rel => exact ⟨11, by omega, by go_num, noneTo_beq HC.out ht rfl HN.out, _, rfl⟩
        case measure => simp [intOf]
    · go_wp2
      go_quiet (fail)
      go_wp2
      · rename_i ht
        go_ret
        rw [World.drewN_drewN]
        exact symRet_beq HC.out ht (by decide)
      · rename_i ht
        go_roundw
        case rel => exact ⟨12, by omega, by go_num, noneTo_beq HC.out ht rfl HN.out, _, rfl⟩
        case measure => simp [intOf]

set_option maxHeartbeats 2000000 in
theorem symbol_other (s : ByteArray) (k0 : Nat) (w : World) (c : Int) (hs : s.size ≤ maxLen) (h0 : k0 < s.size) (HC : Hid (((s[k0].toNat : Nat) : Int) = c))
    (h1 : k0 + 1 < s.size) (h : (((s[k0 + 1].toNat : Nat) : Int) == 61) = false) :
    Calls Try.prog 53 #[.string s, .int .i64 k0] w (SymRet c w) := by
  unfold maxLen at hs
  go_enter Try.func53, Try.ntmps53
  go_wp2
  go_loopw [6] (fun i wr => ∃ k : Nat, k ≤ 12 ∧ i = .int .i64 k ∧ NoneTo c k ∧ ∃ n, wr = w.drewN n) (fun i _ => 12 - (intOf i).toNat)
  case atStart => exact ⟨0, by omega, rfl, fun j hj => absurd hj (by omega), 0, rfl⟩
  case round =>
    obtain ⟨k, hk, rfl, hn, n, rfl⟩ := hrel
    have HN := Lib.hid hn; clear hn
    rcases (show k = 12 ∨ k = 0 ∨ k = 1 ∨ k = 2 ∨ k = 3 ∨ k = 4 ∨ k = 5 ∨ k = 6 ∨ k = 7 ∨ k = 8 ∨ k = 9 ∨ k = 10 ∨ k = 11 by omega) with rfl | rfl | rfl | rfl | rfl | rfl | rfl | rfl | rfl | rfl | rfl | rfl | rfl
    · go_wp2
      go_ret
      exact symRet_no HN.out
    · go_wp2
      go_quiet (fail)
      go_wp2
      · rename_i ht
        go_ret
        rw [World.drewN_drewN]
        exact symRet_beq HC.out ht (by decide)
      · rename_i ht
        go_roundw
        case rel => exact ⟨1, by omega, by go_num, noneTo_beq HC.out ht rfl HN.out, _, rfl⟩
        case measure => simp [intOf]
    · go_wp2
      go_quiet (fail)
      go_wp2
      · rename_i ht
        go_ret
        rw [World.drewN_drewN]
        exact symRet_beq HC.out ht (by decide)
      · rename_i ht
        go_roundw
        case rel => exact ⟨2, by omega, by go_num, noneTo_beq HC.out ht rfl HN.out, _, rfl⟩
        case measure => simp [intOf]
    · go_wp2
      go_quiet (fail)
      go_wp2
      · rename_i ht
        go_ret
        rw [World.drewN_drewN]
        exact symRet_beq HC.out ht (by decide)
      · rename_i ht
        go_roundw
        case rel => exact ⟨3, by omega, by go_num, noneTo_beq HC.out ht rfl HN.out, _, rfl⟩
        case measure => simp [intOf]
    · go_wp2
      go_quiet (fail)
      go_wp2
      · rename_i ht
        go_ret
        rw [World.drewN_drewN]
        exact symRet_beq HC.out ht (by decide)
      · rename_i ht
        go_roundw
        case rel => exact ⟨4, by omega, by go_num, noneTo_beq HC.out ht rfl HN.out, _, rfl⟩
        case measure => simp [intOf]
    · go_wp2
      go_quiet (fail)
      go_wp2
      · rename_i ht
        go_ret
        rw [World.drewN_drewN]
        exact symRet_beq HC.out ht (by decide)
      · rename_i ht
        go_roundw
        case rel => exact ⟨5, by omega, by go_num, noneTo_beq HC.out ht rfl HN.out, _, rfl⟩
        case measure => simp [intOf]
    · go_wp2
      go_quiet (fail)
      go_wp2
      · rename_i ht
        go_ret
        rw [World.drewN_drewN]
        exact symRet_beq HC.out ht (by decide)
      · rename_i ht
        go_roundw
        case rel => exact ⟨6, by omega, by go_num, noneTo_beq HC.out ht rfl HN.out, _, rfl⟩
        case measure => simp [intOf]
    · go_wp2
      go_quiet (fail)
      go_wp2
      · rename_i ht
        go_ret
        rw [World.drewN_drewN]
        exact symRet_beq HC.out ht (by decide)
      · rename_i ht
        go_roundw
        case rel => exact ⟨7, by omega, by go_num, noneTo_beq HC.out ht rfl HN.out, _, rfl⟩
        case measure => simp [intOf]
    · go_wp2
      go_quiet (fail)
      go_wp2
      · rename_i ht
        go_ret
        rw [World.drewN_drewN]
        exact symRet_beq HC.out ht (by decide)
      · rename_i ht
        go_roundw
        case rel => exact ⟨8, by omega, by go_num, noneTo_beq HC.out ht rfl HN.out, _, rfl⟩
        case measure => simp [intOf]
    · go_wp2
      go_quiet (fail)
      go_wp2
      · rename_i ht
        go_ret
        rw [World.drewN_drewN]
        exact symRet_beq HC.out ht (by decide)
      · rename_i ht
        go_roundw
        case rel => exact ⟨9, by omega, by go_num, noneTo_beq HC.out ht rfl HN.out, _, rfl⟩
        case measure => simp [intOf]
    · go_wp2
      go_quiet (fail)
      go_wp2
      · rename_i ht
        go_ret
        rw [World.drewN_drewN]
        exact symRet_beq HC.out ht (by decide)
      · rename_i ht
        go_roundw
        case rel => exact ⟨10, by omega, by go_num, noneTo_beq HC.out ht rfl HN.out, _, rfl⟩
        case measure => simp [intOf]
    · go_wp2
      go_quiet (fail)
      go_wp2
      · rename_i ht
        go_ret
        rw [World.drewN_drewN]
        exact symRet_beq HC.out ht (by decide)
      · rename_i ht
        go_roundw
        case rel => exact ⟨11, by omega, by go_num, noneTo_beq HC.out ht rfl HN.out, _, rfl⟩
        case measure => simp [intOf]
    · go_wp2
      go_quiet (fail)
      go_wp2
      · rename_i ht
        go_ret
        rw [World.drewN_drewN]
        exact symRet_beq HC.out ht (by decide)
      · rename_i ht
        go_roundw
        case rel => exact ⟨12, by omega, by go_num, noneTo_beq HC.out ht rfl HN.out, _, rfl⟩
        case measure => simp [intOf]

set_option maxHeartbeats 2000000 in
theorem symbol_lone (s : ByteArray) (k0 : Nat) (w : World) (c : Int) (hs : s.size ≤ maxLen) (h0 : k0 < s.size) (HC : Hid (((s[k0].toNat : Nat) : Int) = c))
    (h1 : k0 + 1 < s.size) (h : (((s[k0 + 1].toNat : Nat) : Int) == 61) = true) (g1 : (((s[k0].toNat : Nat) : Int) == 62) = false) (g2 : (((s[k0].toNat : Nat) : Int) == 60) = false) (g3 : (((s[k0].toNat : Nat) : Int) == 58) = false) :
    Calls Try.prog 53 #[.string s, .int .i64 k0] w (SymRet c w) := by
  unfold maxLen at hs
  go_enter Try.func53, Try.ntmps53
  go_wp2
  go_loopw [6] (fun i wr => ∃ k : Nat, k ≤ 12 ∧ i = .int .i64 k ∧ NoneTo c k ∧ ∃ n, wr = w.drewN n) (fun i _ => 12 - (intOf i).toNat)
  case atStart => exact ⟨0, by omega, rfl, fun j hj => absurd hj (by omega), 0, rfl⟩
  case round =>
    obtain ⟨k, hk, rfl, hn, n, rfl⟩ := hrel
    have HN := Lib.hid hn; clear hn
    rcases (show k = 12 ∨ k = 0 ∨ k = 1 ∨ k = 2 ∨ k = 3 ∨ k = 4 ∨ k = 5 ∨ k = 6 ∨ k = 7 ∨ k = 8 ∨ k = 9 ∨ k = 10 ∨ k = 11 by omega) with rfl | rfl | rfl | rfl | rfl | rfl | rfl | rfl | rfl | rfl | rfl | rfl | rfl
    · go_wp2
      go_ret
      exact symRet_no HN.out
    · go_wp2
      go_quiet (fail)
      go_wp2
      · rename_i ht
        go_ret
        rw [World.drewN_drewN]
        exact symRet_beq HC.out ht (by decide)
      · rename_i ht
        go_roundw
        case rel => exact ⟨1, by omega, by go_num, noneTo_beq HC.out ht rfl HN.out, _, rfl⟩
        case measure => simp [intOf]
    · go_wp2
      go_quiet (fail)
      go_wp2
      · rename_i ht
        go_ret
        rw [World.drewN_drewN]
        exact symRet_beq HC.out ht (by decide)
      · rename_i ht
        go_roundw
        case rel => exact ⟨2, by omega, by go_num, noneTo_beq HC.out ht rfl HN.out, _, rfl⟩
        case measure => simp [intOf]
    · go_wp2
      go_quiet (fail)
      go_wp2
      · rename_i ht
        go_ret
        rw [World.drewN_drewN]
        exact symRet_beq HC.out ht (by decide)
      · rename_i ht
        go_roundw
        case rel => exact ⟨3, by omega, by go_num, noneTo_beq HC.out ht rfl HN.out, _, rfl⟩
        case measure => simp [intOf]
    · go_wp2
      go_quiet (fail)
      go_wp2
      · rename_i ht
        go_ret
        rw [World.drewN_drewN]
        exact symRet_beq HC.out ht (by decide)
      · rename_i ht
        go_roundw
        case rel => exact ⟨4, by omega, by go_num, noneTo_beq HC.out ht rfl HN.out, _, rfl⟩
        case measure => simp [intOf]
    · go_wp2
      go_quiet (fail)
      go_wp2
      · rename_i ht
        go_ret
        rw [World.drewN_drewN]
        exact symRet_beq HC.out ht (by decide)
      · rename_i ht
        go_roundw
        case rel => exact ⟨5, by omega, by go_num, noneTo_beq HC.out ht rfl HN.out, _, rfl⟩
        case measure => simp [intOf]
    · go_wp2
      go_quiet (fail)
      go_wp2
      · rename_i ht
        go_ret
        rw [World.drewN_drewN]
        exact symRet_beq HC.out ht (by decide)
      · rename_i ht
        go_roundw
        case rel => exact ⟨6, by omega, by go_num, noneTo_beq HC.out ht rfl HN.out, _, rfl⟩
        case measure => simp [intOf]
    · go_wp2
      go_quiet (fail)
      go_wp2
      · rename_i ht
        go_ret
        rw [World.drewN_drewN]
        exact symRet_beq HC.out ht (by decide)
      · rename_i ht
        go_roundw
        case rel => exact ⟨7, by omega, by go_num, noneTo_beq HC.out ht rfl HN.out, _, rfl⟩
        case measure => simp [intOf]
    · go_wp2
      go_quiet (fail)
      go_wp2
      · rename_i ht
        go_ret
        rw [World.drewN_drewN]
        exact symRet_beq HC.out ht (by decide)
      · rename_i ht
        go_roundw
        case rel => exact ⟨8, by omega, by go_num, noneTo_beq HC.out ht rfl HN.out, _, rfl⟩
        case measure => simp [intOf]
    · go_wp2
      go_quiet (fail)
      go_wp2
      · rename_i ht
        go_ret
        rw [World.drewN_drewN]
        exact symRet_beq HC.out ht (by decide)
      · rename_i ht
        go_roundw
        case rel => exact ⟨9, by omega, by go_num, noneTo_beq HC.out ht rfl HN.out, _, rfl⟩
        case measure => simp [intOf]
    · go_wp2
      go_quiet (fail)
      go_wp2
      · rename_i ht
        go_ret
        rw [World.drewN_drewN]
        exact symRet_beq HC.out ht (by decide)
      · rename_i ht
        go_roundw
        case rel => exact ⟨10, by omega, by go_num, noneTo_beq HC.out ht rfl HN.out, _, rfl⟩
        case measure => simp [intOf]
    · go_wp2
      go_quiet (fail)
      go_wp2
      · rename_i ht
        go_ret
        rw [World.drewN_drewN]
        exact symRet_beq HC.out ht (by decide)
      · rename_i ht
        go_roundw
        case rel => exact ⟨11, by omega, by go_num, noneTo_beq HC.out ht rfl HN.out, _, rfl⟩
        case measure => simp [intOf]
    · go_wp2
      go_quiet (fail)
      go_wp2
      · rename_i ht
        go_ret
        rw [World.drewN_drewN]
        exact symRet_beq HC.out ht (by decide)
      · rename_i ht
        go_roundw
        case rel => exact ⟨12, by omega, by go_num, noneTo_beq HC.out ht rfl HN.out, _, rfl⟩
        case measure => simp [intOf]


end Go.Proofs.Ytkabmmpldanmcaa
