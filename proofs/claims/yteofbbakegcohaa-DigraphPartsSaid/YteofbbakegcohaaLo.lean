/- The longest path: longest, nodes, MaxFunc. -/
import Derived.Test.YteofbbakegcohaaLf
namespace Go.Proofs.Yteofbbakegcohaa
open Go.ChangeShapes Go.WideShapes Go.ChangeAt Go.RowKit
set_option linter.unusedVariables false
set_option linter.unusedSimpArgs false


theorem info71 : (Try.prog.info? 71).map (fun i => (i.zero, i.size, i.bytes)) = some (some (.pointer none), 1, 8) := by kernel_rfl
theorem compare_s (a b : Int) (w : World) : Calls Try.prog 66 #[.int .i64 a, .int .i64 b] w fun e w' => e = .returned (.int .i64 (cmpZ a b)) ∧ w' = w :=
  (compare_any a b w).mono fun e w' h => ⟨h.1, h.2.symm⟩
/-- Paths in memory. -/
def Pm (w : World) (S : Nat → Int) (Nx : Nat → Option Nat) (bp : Nat → Option Nat) : Prop := ∀ v b, bp v = some b → Has w b 74 #[.int .i64 v, .int .i64 (S v), rst bp (Nx v)] ∧ ∀ u, Nx v = some u → ∃ d, bp u = some d
theorem Pm.on {w w1 : World} {S : Nat → Int} {Nx bp : Nat → Option Nat} (h : Pm w S Nx bp) (hb : Below w.heap.size w w1) : Pm w1 S Nx bp := fun v b e => ⟨Has.on (h v b e).1 hb, (h v b e).2⟩
set_option maxRecDepth 100000 in
theorem clo65 (a b : Nat) (S : Nat → Int) (Nx bp : Nat → Option Nat) (x y : Nat) (w : World) (h : Pm w S Nx bp) (ha : bp x = some a) (hb : bp y = some b) :
    Calls Try.prog 65 #[.pointer (some ⟨a, 0, none⟩), .pointer (some ⟨b, 0, none⟩)] w fun e w' => e = .returned (.int .i64 (cmpZ (S x) (S y))) ∧ ∃ m, w' = w.drewN m := by
  have c1 := (h x a ha).1.read 1
  have c2 := (h y b hb).1.read 1
  have hc := fun W => compare_s (S x) (S y) W
  clear h ha hb
  go_enter Try.func65, Try.ntmps65
  go_wp2_with fail
  go_quiet (exact Calls.quiet_of_same (hc _))
  go_wp2
  go_ret
  exact ⟨rfl, _, rfl⟩
theorem cmp_gt (a b : Int) : decide (0 < cmpZ a b) = decide (b < a) := by
  unfold cmpZ
  by_cases h1 : a < b
  · simp [h1]; omega
  · by_cases h2 : b < a <;> simp [h1, h2]
theorem cmp_lt (a b : Int) : decide (cmpZ a b < 0) = decide (a < b) := by
  unfold cmpZ
  by_cases h1 : a < b
  · simp [h1]
  · by_cases h2 : b < a <;> simp [h1, h2]
set_option maxRecDepth 100000 in
set_option maxHeartbeats 2000000 in
theorem max_any (R n : Nat) (S : Nat → Int) (Nx bp : Nat → Option Nat) (w : World) (hn0 : 0 < n) (hn : n ≤ 60) (hR : PRow w R n bp) (h : Pm w S Nx bp) (hall : ∀ v, v < n → ∃ b, bp v = some b) :
    Calls Try.prog 64 #[.slice (some ⟨R, 0, none⟩) n n, .func (.func 65) #[] #[]] w fun e w' => ∃ b, e = .returned (.pointer (some ⟨b, 0, none⟩)) ∧ bp (amx S n) = some b ∧ Below w.heap.size w w' := by
  obtain ⟨b0, hb0⟩ := hall 0 hn0
  have c0 := hR.read hn0
  rw [hb0] at c0
  replace c0 : w.cell? ⟨R, 0, none⟩ = some (.pointer (some ⟨b0, 0, none⟩)) := c0
  have t0 : decide (n < 1) = false := by simp; omega
  have t00 : ¬ n < 1 := by omega
  have t01 : decide ((n : Int) < 1) = false := by simp; omega
  have HA := Lib.hid hall
  have HH := Lib.hid h
  have HRw := Lib.hid hR
  have hz : amx S 1 = 0 := by simp [amx]
  have H0 : Hid (bp (amx S 1) = some b0) := Lib.hid (by rw [hz]; exact hb0)
  clear hb0 hz hall h hR
  go_enter Try.func64, Try.ntmps64
  go_wp2
  go_loopw [5, 6] (fun v5 v6 wr => ∃ (k b : Nat), v6 = .int .i64 k ∧ v5 = .pointer (some ⟨b, 0, none⟩) ∧ 1 ≤ k ∧ k ≤ n ∧ Hid (bp (amx S k) = some b) ∧ Below w.heap.size w wr) (fun _ v _ => n - (intOf v).toNat)
  case atStart => exact ⟨1, b0, rfl, rfl, Nat.le_refl _, by omega, H0, Below.refl _ _⟩
  case round =>
    clear H0 c0
    obtain ⟨k, b, rfl, rfl, hk1, hk, HB, hB⟩ := hrel
    by_cases hlt : k < n
    · have g1 : decide ((k : Int) < (n : Int)) = true := by simp [hlt]
      have W1 : IntKind.i64.wrap ((k : Int) + 1) = ((k + 1 : Nat) : Int) := by rw [IntWalk.i64_in _ (by omega)]; omega
      have q1 : (0 : Int) ≤ (k : Int) := by omega
      have q2 : (k : Int) < (n : Int) := by omega
      obtain ⟨d, hd⟩ := HA.out k hlt
      have ck := cell_later hB (HRw.out.read hlt)
      rw [hd] at ck
      replace ck : wr.cell? ⟨R, k, none⟩ = some (.pointer (some ⟨d, 0, none⟩)) := ck
      have hc := clo65 d b S Nx bp k (amx S k) wr (HH.out.on hB) hd HB.out
      have HD := Lib.hid hd
      have hgt := cmp_gt (S k) (S (amx S k))
      obtain ⟨z, hz⟩ : ∃ z, z = cmpZ (S k) (S (amx S k)) := ⟨_, rfl⟩
      rw [← hz] at hc hgt
      have HGT := Lib.hid hgt
      clear hd hz hgt
      by_cases hm : S (amx S k) < S k
      · have t1 : decide (0 < z) = true := by rw [HGT.out]; simp [hm]
        have HB2 : Hid (bp (amx S (k + 1)) = some d) := Lib.hid (by unfold amx; rw [if_pos hm]; exact HD.out)
        clear hm
        go_wp2_with (go_at_call 65; (with_reducible refine hc.mono ?_); rintro e w5 ⟨rfl, m, rfl⟩; have ck := cell_later (below_drewN (Below.refl _ wr) m) ck)
        exact ⟨⟨k + 1, d, by go_num, rfl, by omega, hlt, HB2, below_drewN hB _⟩, by simp [intOf]; omega⟩
      · have t1 : decide (0 < z) = false := by rw [HGT.out]; simp; omega
        have HB2 : Hid (bp (amx S (k + 1)) = some b) := Lib.hid (by unfold amx; rw [if_neg hm]; exact HB.out)
        clear hm
        go_wp2_with (go_at_call 65; (with_reducible refine hc.mono ?_); rintro e w5 ⟨rfl, m, rfl⟩)
        exact ⟨⟨k + 1, b, by go_num, rfl, by omega, hlt, HB2, below_drewN hB _⟩, by simp [intOf]; omega⟩
    · have g1 : decide ((k : Int) < (n : Int)) = false := by simp; omega
      have e : k = n := by omega
      have HB2 : Hid (bp (amx S n) = some b) := Lib.hid (by rw [← e]; exact HB.out)
      clear e
      go_wp2
      go_ret
      exact ⟨b, rfl, HB2.out, hB⟩
end Go.Proofs.Yteofbbakegcohaa
