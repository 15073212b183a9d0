/- Contracts of size, divisor, fit and of the reference's Size: absolute values and greatest common divisors. -/
import Derived.Test.YtbbbmlnggehcdaaDoorRows
import Derived.Test.YtbbbmlnggehcdaaDoorQ
import Derived.WalkKit
import Derived.ProofKit
import Derived.OpenShut
import Derived.Deep.QuietTactic
import Derived.BigQuiet
import Derived.Outline
import Derived.IntWalk
import Derived.Lib.Hide
import Derived.Deep.RegionHeld3
import Derived.Deep.AppendLies
import Derived.Laws.OwnMore
import Derived.Laws.Rows
import Derived.Deep.Draws
namespace Go.Proofs.YtbbbmlnggehcdaaDoor
open Go.ChangeShapes Go.WideShapes Go.ChangeAt Go.RowKit
set_option linter.unusedVariables false

theorem ret_one {k : IntKind} {a b : Int} (h : a = b) : Ending.returned (.int k a) = .returned (.int k b) := by rw [h]
theorem below_drewN {B : Nat} {a w : World} (h : Below B a w) (n : Nat) : Below B a (w.drewN n) := ⟨h.os, h.tape, h.output, h.size, h.block⟩
theorem belows {a b c : World} (h1 : Below a.heap.size a b) (h2 : Below b.heap.size b c) : Below a.heap.size a c := h1.trans (h2.mono h1.size)

/-- The world is as it was, but for the count of draws. -/
def Dr (w w' : World) : Prop := ∃ n, w' = w.drewN n
theorem Dr.refl (w : World) : Dr w w := ⟨0, rfl⟩
theorem Dr.step {a b : World} (h : Dr a b) (n : Nat) : Dr a (b.drewN n) := by obtain ⟨m, rfl⟩ := h; exact ⟨m + n, World.drewN_drewN _ _ _⟩
theorem Dr.trans {a b c : World} (h : Dr a b) (h' : Dr b c) : Dr a c := by obtain ⟨n, rfl⟩ := h'; exact h.step n
theorem Dr.below {a b c : World} {B : Nat} (h : Below B a b) (h' : Dr b c) : Below B a c := by obtain ⟨n, rfl⟩ := h'; exact below_drewN h n
theorem Dr.below' {a b : World} (h : Dr a b) : Below a.heap.size a b := Dr.below (Below.refl _ _) h

theorem qui {b w' : World} {x : Nat} (h : Dr (b.drewN x) w') : ∃ n, w' = b.drewN n := Dr.trans ⟨x, rfl⟩ h
theorem al {a w : World} (h : Below a.heap.size a w) (o : Obj) : Below a.heap.size a (w.alloc o) := h.alloc h.size o
theorem al1 (a : World) (o : Obj) : Below a.heap.size a (a.alloc o) := al (Below.refl _ _) o
theorem al2 (a : World) (o p : Obj) : Below a.heap.size a ((a.alloc o).alloc p) := al (al1 a o) p

/-- The absolute value. -/
def ab (n : Int) : Int := (n.natAbs : Int)
/-- The greatest common divisor. -/
def gd (a b : Int) : Int := (Int.gcd a b : Int)
def I64 (n : Int) : Prop := -9223372036854775808 ≤ n ∧ n ≤ 9223372036854775807
def U64 (n : Int) : Prop := 0 ≤ n ∧ n ≤ 18446744073709551615
theorem ab_pos {n : Int} (h : 0 ≤ n) : ab n = n := by unfold ab; omega
theorem ab_neg {n : Int} (h : n ≤ 0) : ab n = -n := by unfold ab; omega
theorem ab_u {n : Int} (h : I64 n) : 0 ≤ ab n ∧ ab n ≤ 9223372036854775808 := by unfold ab; unfold I64 at h; omega
theorem ab_0 {n : Int} : ab n = 0 ↔ n = 0 := by unfold ab; omega
theorem ab_nn (n : Int) : 0 ≤ ab n := by unfold ab; omega
theorem gd_nn (a b : Int) : 0 ≤ gd a b := by unfold gd; omega
theorem gd_pos {a b : Int} (h : b ≠ 0) : 0 < gd a b := by unfold gd; have := Int.gcd_pos_of_ne_zero_right a h; omega
theorem gd_le {a b : Int} (h : 0 < b) : gd a b ≤ b := Int.le_of_dvd h (Int.gcd_dvd_right a b)
theorem gd_ab (a b : Int) : gd (ab a) (ab b) = gd a b := by unfold gd ab; simp [Int.gcd_eq_natAbs_gcd_natAbs]

theorem size_any (n : Int) (w : World) (h1 : -9223372036854775808 ≤ n) (h2 : n ≤ 9223372036854775807) :
    Calls Tryd.prog 41 #[.int .i64 n] w fun e w' => e = .returned (.int .u64 (ab n)) ∧ w = w' := by
  by_cases h : n < 0
  · go_enter Tryd.func41, Tryd.ntmps41
    go_wp2
    go_ret
    exact ⟨ret_one (by unfold ab; rw [IntKind.wrap_u64, IntKind.wrap_u64]; omega), rfl⟩
  · go_enter Tryd.func41, Tryd.ntmps41
    go_wp2
    go_ret
    exact ⟨ret_one (by unfold ab; omega), rfl⟩
theorem refSize_any (n : Int) (w : World) (h1 : -9223372036854775808 ≤ n) (h2 : n ≤ 9223372036854775807) :
    Calls Tryd.prog 44 #[.int .i64 n] w fun e w' => e = .returned (.int .u64 (ab n)) ∧ w = w' := by
  by_cases h : n < 0
  · go_enter Tryd.func44, Tryd.ntmps44
    go_wp2
    go_ret
    exact ⟨ret_one (by unfold ab; rw [IntKind.wrap_u64, IntKind.wrap_u64]; omega), rfl⟩
  · go_enter Tryd.func44, Tryd.ntmps44
    go_wp2
    go_ret
    exact ⟨ret_one (by unfold ab; omega), rfl⟩
theorem size_dr (n : Int) (w : World) (h1 : -9223372036854775808 ≤ n) (h2 : n ≤ 9223372036854775807) :
    Calls Tryd.prog 41 #[.int .i64 n] w fun e w' => e = .returned (.int .u64 (ab n)) ∧ Dr w w' :=
  (size_any n w h1 h2).mono fun e w' h => ⟨h.1, by rw [h.2]; exact Dr.refl _⟩
theorem refSize_dr (n : Int) (w : World) (h1 : -9223372036854775808 ≤ n) (h2 : n ≤ 9223372036854775807) :
    Calls Tryd.prog 44 #[.int .i64 n] w fun e w' => e = .returned (.int .u64 (ab n)) ∧ Dr w w' :=
  (refSize_any n w h1 h2).mono fun e w' h => ⟨h.1, by rw [h.2]; exact Dr.refl _⟩

/-- Block g is just these cells, none of them frozen. -/
def Has (w : World) (g : Nat) (t : TypeId) (cs : Array Value) : Prop := w.heap[g]? = some (.cells cs t (0, 0))
theorem Has.size_ {w : World} {g : Nat} {t : TypeId} {cs : Array Value} (h : Has w g t cs) : g < w.heap.size := by
  unfold Has at h
  exact (Array.getElem?_eq_some_iff.1 h).1
theorem Has.read {w : World} {g : Nat} {t : TypeId} {cs : Array Value} (h : Has w g t cs) (i : Nat) : w.cell? ⟨g, i, none⟩ = cs[i]? := cell_of_row w g i cs t (0, 0) h
theorem Has.open_ {w : World} {g : Nat} {t : TypeId} {cs : Array Value} (h : Has w g t cs) (i : Nat) : w.frozen? ⟨g, i, none⟩ = false := by
  simp only [Has] at h; simp [World.frozen?, h]
theorem Has.new_ (w : World) (t : TypeId) (cs : Array Value) : Has (w.alloc (.cells cs t)) w.heap.size t cs := heap_alloc_new w _
theorem Has.alloc_ {w : World} {g : Nat} {t : TypeId} {cs : Array Value} (h : Has w g t cs) (o : Obj) : Has (w.alloc o) g t cs := by
  unfold Has; rw [Below.heap_alloc w o g h.size_]; exact h
theorem Has.drew_ {w : World} {g : Nat} {t : TypeId} {cs : Array Value} (h : Has w g t cs) : Has w.drew g t cs := h
theorem Has.drewN_ {w : World} {g : Nat} {t : TypeId} {cs : Array Value} (h : Has w g t cs) (n : Nat) : Has (w.drewN n) g t cs := h
theorem Has.put_ {w : World} {g : Nat} {t : TypeId} {cs : Array Value} (h : Has w g t cs) (i : Nat) (u : Value) : Has (w.setCell ⟨g, i, none⟩ u) g t (cs.setIfInBounds i u) := by
  simp only [Has] at h ⊢; simp [World.setCell, Array.getElem?_modify, h]
theorem Has.apart_ {w : World} {g : Nat} {t : TypeId} {cs : Array Value} (h : Has w g t cs) {p : Addr} (hp : g ≠ p.block) (u : Value) : Has (w.setCell p u) g t cs := by
  unfold Has; rw [Below.heap_setCell w p u g hp]; exact h
theorem Has.below_ {w w' : World} {g B : Nat} {t : TypeId} {cs : Array Value} (h : Has w g t cs) (hb : Below B w w') (hg : g < B) : Has w' g t cs := by
  unfold Has; rw [hb.block g hg]; exact h
theorem Has.grown_ {w w' : World} {g : Nat} {t : TypeId} {cs : Array Value} {row : Option Nat} (h : Has w g t cs) (hb : w.grownBy w' row) (hg : some g ≠ row) : Has w' g t cs := by
  unfold Has; rw [hb.block g h.size_ hg]; exact h

theorem gcd_step (a b : Nat) : Nat.gcd b (a % b) = Nat.gcd a b := by rw [Nat.gcd_comm b, ← Nat.gcd_rec b a, Nat.gcd_comm]
theorem divisor_nat (a b : Nat) (w : World) (ha : a < 18446744073709551616) (hb : b < 18446744073709551616) :
    Calls Tryd.prog 40 #[.int .u64 (a : Int), .int .u64 (b : Int)] w fun e w' => e = .returned (.int .u64 ((Nat.gcd a b : Nat) : Int)) ∧ Dr w w' := by
  go_enter Tryd.func40, Tryd.ntmps40
  go_wp2
  go_loopw [0, 1] (fun v0 v1 wr => ∃ x y : Nat, v0 = .int .u64 x ∧ v1 = .int .u64 y ∧ x < 18446744073709551616 ∧ y < 18446744073709551616 ∧ Nat.gcd x y = Nat.gcd a b ∧ Dr w wr) (fun _ v1 _ => (intOf v1).toNat)
  case atStart => exact ⟨a, b, rfl, rfl, ha, hb, rfl, Dr.refl _⟩
  case round =>
    obtain ⟨x, y, rfl, rfl, hx, hy, hg, hd⟩ := hrel
    have HG := Lib.hid hg; clear hg
    by_cases h : y = 0
    · have hx' : x = Nat.gcd a b := by rw [← HG.out, h, Nat.gcd_zero_right]
      subst h
      simp only [Int.natCast_zero]
      go_wp2
      go_ret
      exact ⟨ret_one (by simp [hx']), hd⟩
    · have h1 : ((y : Int) == 0) = false := by simp; omega
      have h3 := Nat.mod_lt x (show 0 < y by omega)
      have W1 : IntKind.u64.wrap ((x : Int).tmod (y : Int)) = ((x % y : Nat) : Int) := by rw [Int.tmod_eq_emod_of_nonneg (by omega), show (x : Int) % (y : Int) = ((x % y : Nat) : Int) from rfl, IntKind.wrap_u64]; omega
      obtain ⟨r, hr⟩ : ∃ r, r = x % y := ⟨_, rfl⟩
      rw [← hr] at W1 h3
      have HR := Lib.hid hr; clear hr h
      go_wp2
      go_quiet (fail)
      go_roundw
      case rel => exact ⟨_, _, _, _, _, _, _, _, ⟨y, r, rfl, by rw [HR.out]; rfl, hy, by omega, by rw [HR.out, gcd_step]; exact HG.out, hd.step _⟩, rfl⟩
      case measure =>
        have e : (x : Int) % (y : Int) = (r : Int) := by rw [HR.out]; rfl
        rw [e]; simp [intOf]; omega
theorem divisor_dr (a b : Int) (w : World) (ha : 0 ≤ a) (ha2 : a ≤ 18446744073709551615) (hb : 0 ≤ b) (hb2 : b ≤ 18446744073709551615) :
    Calls Tryd.prog 40 #[.int .u64 a, .int .u64 b] w fun e w' => e = .returned (.int .u64 (gd a b)) ∧ Dr w w' := by
  have h := divisor_nat a.toNat b.toNat w (by omega) (by omega)
  have e1 : ((a.toNat : Nat) : Int) = a := by omega
  have e2 : ((b.toNat : Nat) : Int) = b := by omega
  have e3 : Nat.gcd a.toNat b.toNat = Int.gcd a b := by rw [Int.gcd_eq_natAbs_gcd_natAbs, show a.natAbs = a.toNat by omega, show b.natAbs = b.toNat by omega]
  rw [e1, e2, e3] at h
  exact h
end Go.Proofs.YtbbbmlnggehcdaaDoor
