/- The least index of a set, by the library's table. -/
import Derived.Test.YtepcokgpepcccaaDoorBit
import Derived.Lib.TrailingZeros
import Derived.Lib.LaidTab
import Derived.Lib.AppendIntMem
namespace Go.Proofs.YtepcokgpepcccaaDoor
open Go.ChangeShapes Go.WideShapes Go.ChangeAt Go.RowKit
set_option linter.unusedVariables false
set_option linter.unusedSimpArgs false

/-- The library's table lies where it is laid. -/
def Tab (w : World) : Prop := Lib.TabIs Tryd.prog w "math/bits.deBruijn64tab" .u8 (Lib.deBruijn64tab.map fun (n : Nat) => (n : Int))
theorem Tab.cell {w : World} (h : Tab w) (j : Nat) (hj : j < 64) : w.cell? ⟨1, j, none⟩ = some (.int .u8 (Lib.deBruijn64tab.getD j 0 : Nat)) := by
  have k := Lib.TabIs.cell h (g := 1) (by kernel_rfl) j (by simpa [Lib.deBruijn64tab] using hj)
  rw [k]
  simp only [List.getD, List.getElem?_map]
  cases Lib.deBruijn64tab[j]? <;> rfl
theorem Tab.on {w w1 : World} (h : Tab w) (hb : Below w.heap.size w w1) : Tab w1 := (Lib.tabBelow_of_tabIs h) w1 hb
def tzi (s : Nat) : Nat := low s * 285870213051353865 % 18446744073709551616 / 288230376151711744
/-- The least index. -/
def tz (s : Nat) : Nat := Lib.deBruijn64tab.getD (tzi s) 0
theorem tzs : ∀ s : Nat, s < 1024 → IntKind.u64.wrap ((low s : Int) * 285870213051353865) / 288230376151711744 = (tzi s : Int) ∧ tzi s < 64 ∧ tz s < 64 := by
  have h : chk (fun s => decide (IntKind.u64.wrap ((low s : Int) * 285870213051353865) / 288230376151711744 = (tzi s : Int) ∧ tzi s < 64 ∧ tz s < 64)) 10 0 = true := by decide +kernel
  intro s hs
  exact of_decide_eq_true (chk_all _ 10 0 h s (Nat.zero_le _) (by omega))
theorem tz64_any (s : Nat) (hs : s < 1024) (h0 : s ≠ 0) (w : World) (hT : Tab w) : Calls Tryd.prog 84 #[.int .u64 s] w fun e w' => e = .returned (.int .i64 (tz s)) ∧ w' = w := by
  have H := lows s hs
  obtain ⟨K1, K2, K3⟩ := tzs s hs
  have c := hT.cell _ K2
  obtain ⟨y, ey⟩ : ∃ y, low s = y := ⟨_, rfl⟩
  obtain ⟨i, ei⟩ : ∃ i, tzi s = i := ⟨_, rfl⟩
  have et : Lib.deBruijn64tab.getD (tzi s) 0 = tz s := rfl
  rw [et] at c
  obtain ⟨t, eT⟩ : ∃ t, tz s = t := ⟨_, rfl⟩
  rw [eT] at c K3 ⊢
  rw [ei] at c K1 K2
  rw [ey] at H K1
  clear ey ei et eT hT
  have q0 : ((s : Int) == 0) = false := by simp; omega
  have q1 : (0 : Int) ≤ (i : Int) := by omega
  have q2 : (i : Int) < 64 := by omega
  have W1 : IntKind.i64.wrap (t : Int) = (t : Int) := IntWalk.i64_in _ (by omega)
  go_enter Tryd.func84, Tryd.ntmps84
  go_wp2
  go_ret
  exact ⟨rfl, rfl⟩
theorem tz_any (s : Nat) (hs : s < 1024) (h0 : s ≠ 0) (w : World) (hT : Tab w) : Calls Tryd.prog 71 #[.int .u64 s] w fun e w' => e = .returned (.int .i64 (tz s)) ∧ w' = w := by
  go_enter Tryd.func71, Tryd.ntmps71
  go_wp2_with (go_at_call 84; (with_reducible refine (tz64_any s hs h0 _ hT).mono ?_); rintro e1 w1 ⟨rfl, rfl⟩)
  go_ret
  exact ⟨rfl, rfl⟩
end Go.Proofs.YtepcokgpepcccaaDoor
