/- What the walks of this seat keep: blocks, rows of whole numbers, worlds that differ in one block. What a walk keeps: the blocks that it laid, as they are known, the newest first. Codes: directions, dimensions, how many; fit; points. Max, Dims, fit, size: contracts. Sizes of both sides: IsSize. Bars: Valid of the program. Legs of the program. Points; moved. Path of the program. Bars, numbers and texts as arguments. The reference: Valid; Short. Small facts on points and rows. The reference: Moves. The reference: Legs, Path. Radii and masses. Lengths: arcs, allowances, sums. Arc, Allowance, parts, Developed, Cut, Mass, Bends. parts, Bends, Developed of the program. Cut, Mass; long, right, total; the reference. The reference: Bends, Developed, Cut, Mass; total. The reference: Cut, Mass; total; awake; BendArcs. Points; moved. Path of the program. Lists of bars: as they come in; the index of a mark; Valid, Find, Total of the program. The reference: Find, Total, Valid, Small; Find and Total of the program. slices.Clone of bars. Lists of bars as arguments. -/
import Derived.Test.YtfkcogocaecodaaRows
import Derived.Test.YtfkcogocaecodaaZ1
import Derived.WalkKit
import Derived.ProofKit
import Derived.OpenShut
import Derived.Deep.QuietTactic
import Derived.BigQuiet
import Derived.Outline
import Derived.IntWalk
import Derived.Lib.Hide
import Derived.Deep.RegionHeld3
import Derived.Deep.AppendLies
import Derived.Laws.OwnMore
import Derived.Laws.Rows
import Derived.Deep.Draws
import Derived.OwnWalk
import Derived.Deep.RegionLaw
import Derived.Deep.DeepCutAuto
import Derived.Deep.LoopGhost
import Derived.Deep.Fields
import Derived.StillTailTactics
import Derived.WalkSpells
import Derived.Maps.AppendAt
import Derived.Lib.Strings
import Derived.Test.YtfkcogocaecodaaZ2
import Derived.Deep.CutBlock
import Derived.Deep.Slices
import Derived.ChangeSame
import Derived.ShutString
import Derived.Stop.LaidErr
import Derived.Shelf.Vars
import Derived.Lib.SmallJoins
import Derived.Laws.StructEq
import Derived.HandedShaped
import Derived.LaidMore
import Derived.Lib.LaidTab
import Derived.Lay
import Derived.SevenTiedAt
import Derived.Stop.Joined
namespace Go.Proofs.Ytfkcogocaecodaa
open Go.ChangeShapes Go.WideShapes Go.ChangeAt Go.RowKit
set_option linter.unusedVariables false
set_option linter.unusedSimpArgs false

end Go.Proofs.Ytfkcogocaecodaa
namespace Go.Proofs.Ytfkcogocaecodaa
open Go.ChangeShapes Go.WideShapes Go.ChangeAt Go.RowKit
set_option linter.unusedVariables false
set_option linter.unusedSimpArgs false

end Go.Proofs.Ytfkcogocaecodaa
namespace Go.Proofs.Ytfkcogocaecodaa
open Go.ChangeShapes Go.WideShapes Go.ChangeAt Go.RowKit
set_option linter.unusedVariables false
set_option linter.unusedSimpArgs false

def dirS (c : Int) : List UInt8 :=
  if c = 0 then [88] else if c = 11 then [88, 89] else if c = 21 then [121, 88, 89] else if c = 26 then [88, 89, 88]
  else if c = 31 then [88, 89, 90] else if c = 41 then [88, 89, 88, 121, 88] else if c = 51 then [121, 88, 89, 120, 121, 88]
  else if c = 98 then [90, 121, 88, 89, 90] else []
def ixb (c : Int) : List Nat := if c = 51 then [2, 0, 1, 0, 1, 2] else if c = 98 then [0, 1, 2, 1, 0] else [0, 1, 2, 3, 4]
def ndim (c : Int) : Nat :=
  if c = 0 then 1 else if c = 11 then 2 else if c = 21 then 3 else if c = 26 then 3
  else if c = 31 then 3 else if c = 41 then 5 else if c = 51 then 3
  else if c = 98 then 3 else 0
def nl (c : Int) : Nat := (dirS c).length
def mc (c : Int) : Nat := (ixb c).length
def isC (c : Int) : Bool := !(dirS c).isEmpty
def ixf (c : Int) (j : Nat) : Int := ((ixb c).getD j 0 : Nat)
theorem code_in {c : Int} (h : isC c = true) : c = 0 ∨ c = 11 ∨ c = 21 ∨ c = 26 ∨ c = 31 ∨ c = 41 ∨ c = 51 ∨ c = 98 := by
  unfold isC dirS at h
  repeat' split at h
  all_goals first | omega | simp at h
theorem code_no {c : Int} (h : isC c = false) : c ≠ 0 ∧ c ≠ 11 ∧ c ≠ 21 ∧ c ≠ 26 ∧ c ≠ 31 ∧ c ≠ 41 ∧ c ≠ 51 ∧ c ≠ 98 := by
  unfold isC dirS at h
  repeat' split at h
  all_goals first | (simp at h; done) | simp [*]
theorem dirS_no {c : Int} (h : isC c = false) : dirS c = [] := by
  unfold isC at h; simpa using h
theorem ndim_no {c : Int} (h : isC c = false) : ndim c = 0 := by
  obtain ⟨h0, h1, h2, h3, h4, h5, h6, h7⟩ := code_no h
  simp [ndim, h0, h1, h2, h3, h4, h5, h6, h7]
theorem nl_mc {c : Int} (h : isC c = true) : nl c ≤ mc c := by
  rcases code_in h with rfl | rfl | rfl | rfl | rfl | rfl | rfl | rfl <;> decide
theorem nl_le {c : Int} (h : isC c = true) : nl c ≤ 6 := by
  rcases code_in h with rfl | rfl | rfl | rfl | rfl | rfl | rfl | rfl <;> decide
theorem nl_pos {c : Int} (h : isC c = true) : 0 < nl c := by
  rcases code_in h with rfl | rfl | rfl | rfl | rfl | rfl | rfl | rfl <;> decide
theorem ndim_pos {c : Int} (h : isC c = true) : 0 < ndim c := by
  rcases code_in h with rfl | rfl | rfl | rfl | rfl | rfl | rfl | rfl <;> decide
theorem ndim_le (c : Int) : ndim c ≤ 5 := by
  unfold ndim; repeat' split
  all_goals omega
theorem ndim_zero {c : Int} : ndim c = 0 ↔ isC c = false := by
  constructor
  · intro h
    cases k : isC c
    · rfl
    · have := ndim_pos k; omega
  · exact ndim_no
theorem ix_lt {c : Int} (h : isC c = true) {j : Nat} (hj : j < nl c) : (ixb c).getD j 0 < ndim c := by
  rcases code_in h with rfl | rfl | rfl | rfl | rfl | rfl | rfl | rfl <;>
  · have hj' : j < 6 := Nat.lt_of_lt_of_le hj (nl_le h)
    revert hj
    rcases (by omega : j = 0 ∨ j = 1 ∨ j = 2 ∨ j = 3 ∨ j = 4 ∨ j = 5) with rfl | rfl | rfl | rfl | rfl | rfl <;> decide

set_option maxRecDepth 100000 in
theorem dir_any (c : Int) (w : World) : Calls Try.prog 60 #[.int .i64 c] w fun e w' => e = .returned (.string ⟨(dirS c).toArray⟩) ∧ w = w' := by
  cases h : isC c
  · rw [dirS_no h]
    obtain ⟨h0, h1, h2, h3, h4, h5, h6, h7⟩ := code_no h
    have n0 := beq_eq_false_iff_ne.2 h0
    have n1 := beq_eq_false_iff_ne.2 h1
    have n2 := beq_eq_false_iff_ne.2 h2
    have n3 := beq_eq_false_iff_ne.2 h3
    have n4 := beq_eq_false_iff_ne.2 h4
    have n5 := beq_eq_false_iff_ne.2 h5
    have n6 := beq_eq_false_iff_ne.2 h6
    have n7 := beq_eq_false_iff_ne.2 h7
    clear h
    go_enter Try.func60, Try.ntmps60
    go_wp2
    go_ret
    exact ⟨rfl, rfl⟩
  · rcases code_in h with rfl | rfl | rfl | rfl | rfl | rfl | rfl | rfl
    all_goals (
      clear h
      go_enter Try.func60, Try.ntmps60
      go_wp2
      go_ret
      exact ⟨rfl, rfl⟩)
set_option maxRecDepth 100000 in
theorem dims_any {c : Int} (h : isC c = true) (w : World) : Calls Try.prog 43 #[.int .i64 c] w fun e w' =>
    ∃ g, e = .returned (.slice (some ⟨g, 0, none⟩) (nl c) (mc c)) ∧ Row w' g (mc c) (ixf c) ∧ Below w.heap.size w w' ∧ w.heap.size ≤ g := by
  have hd := fun W => dir_any c W
  rcases code_in h with rfl | rfl | rfl | rfl | rfl | rfl | rfl | rfl
  all_goals (
    clear h
    unfold dirS at hd
    simp at hd
    go_enter Try.func43, Try.ntmps43
    go_wp2_with (go_at_call 60; (with_reducible refine (hd _).mono ?_); rintro e w1 ⟨rfl, rfl⟩)
    go_ret
    exact ⟨w.heap.size, rfl, Has.new_ w 3 _, al1 w _, Nat.le_refl _⟩)
end Go.Proofs.Ytfkcogocaecodaa
namespace Go.Proofs.Ytfkcogocaecodaa
open Go.ChangeShapes Go.WideShapes Go.ChangeAt Go.RowKit
set_option linter.unusedVariables false
set_option linter.unusedSimpArgs false

theorem cellLater {w w' : World} {a : Addr} {v : Value} (hb : Below w.heap.size w w') (h : w.cell? a = some v) : w'.cell? a = some v := by
  rcases Nat.lt_or_ge a.block w.heap.size with hl | hl
  · unfold World.cell? at h ⊢
    rw [hb.block a.block hl]; exact h
  · exfalso
    have : w.heap[a.block]? = none := Array.getElem?_eq_none hl
    unfold World.cell? at h
    rw [this] at h
    cases h
/-- A slice of whole numbers that can be read. -/
def Rdz (w : World) (v : Value) (zs : List Int) : Prop := ∃ q c, v = .slice q zs.length c ∧ ∀ j (h : j < zs.length), ∃ a, q = some a ∧ w.cell? (a.add j) = some (.int .i64 zs[j])
theorem Rdz.on {w w1 : World} {v : Value} {zs : List Int} (h : Rdz w v zs) (hb : Below w.heap.size w w1) : Rdz w1 v zs := by
  obtain ⟨q, c, rfl, k⟩ := h
  refine ⟨q, c, rfl, fun j hj => ?_⟩
  obtain ⟨g, e, hc⟩ := k j hj
  exact ⟨g, e, cellLater hb hc⟩
theorem Row.on {w w' : World} {g n : Nat} {f : Nat → Int} (h : Row w g n f) (hb : Below w.heap.size w w') : Row w' g n f := Has.on h hb
theorem Row.rdz {w : World} {g n m cap : Nat} {f : Nat → Int} (h : Row w g m f) (hn : n ≤ m) : Rdz w (.slice (some ⟨g, 0, none⟩) n cap) ((List.range n).map f) := by
  have e : n = ((List.range n).map f).length := by simp
  refine ⟨some ⟨g, 0, none⟩, cap, by rw [← e], fun j hj => ⟨_, rfl, ?_⟩⟩
  have hj' : j < n := by simpa using hj
  rw [Addr.add_lit, Nat.zero_add, Row.read h (by omega)]
  simp

def mxf (f : Nat → Int) : Nat → Int
  | 0 => f 0
  | k + 1 => max (mxf f k) (f (k + 1))
set_option maxRecDepth 100000 in
theorem max_any (g n m cap : Nat) (f : Nat → Int) (w : World) (hR : Row w g m f) (hn : 0 < n) (hm : n ≤ m) (hc : n ≤ 1000) :
    Calls Try.prog 74 #[.slice (some ⟨g, 0, none⟩) n cap] w fun e w' => e = .returned (.int .i64 (mxf f (n - 1))) ∧ w = w' := by
  have g0 : decide ((n : Int) < 1) = false := by simp; omega
  have d0 := Row.read hR (i := 0) (by omega)
  have q0 : (0 : Int) < (n : Int) := by omega
  have HR := Lib.hid hR
  clear hR
  go_enter Try.func74, Try.ntmps74
  go_wp2
  go_loop [3, 4] (fun v3 v4 => ∃ k : Nat, v3 = .int .i64 (mxf f k) ∧ v4 = .int .i64 (k + 1 : Nat) ∧ k < n) (fun _ v => n - (intOf v).toNat)
  case atStart => exact ⟨0, rfl, rfl, hn⟩
  case round =>
    obtain ⟨k, rfl, rfl, hk⟩ := hrel
    by_cases hlt : k + 1 < n
    · have g1 : decide (((k + 1 : Nat) : Int) < (n : Int)) = true := by simp; omega
      have W1 : IntKind.i64.wrap (((k + 1 : Nat) : Int) + 1) = ((k + 1 + 1 : Nat) : Int) := by rw [IntWalk.i64_in _ (by omega)]; omega
      have q1 : (0 : Int) ≤ ((k + 1 : Nat) : Int) := by omega
      have q2 : ((k + 1 : Nat) : Int) < (n : Int) := by omega
      have d1 := Row.read HR.out (i := k + 1) (by omega)
      go_wp2
      exact ⟨⟨k + 1, by simp [mxf] <;> (try (split <;> omega)), rfl, hlt⟩, by simp [intOf]; omega⟩
    · have g1 : decide (((k + 1 : Nat) : Int) < (n : Int)) = false := by simp; omega
      obtain rfl : n = k + 1 := by omega
      go_wp2
      go_ret
      exact ⟨rfl, rfl⟩
theorem bl (l : List UInt8) : (⟨l.toArray⟩ : ByteArray).toList = l := by rw [Lib.toList_data]
def mxd (c : Int) : Int := mxf (ixf c) (nl c - 1)
theorem mxd_eq {c : Int} (h : isC c = true) : 1 + mxd c = (ndim c : Nat) := by
  rcases code_in h with rfl | rfl | rfl | rfl | rfl | rfl | rfl | rfl <;> decide
set_option maxRecDepth 100000 in
theorem Dims_any (c : Int) (w : World) : Calls Try.prog 56 #[.int .i64 c] w fun e w' => e = .returned (.tuple #[.int .i64 (ndim c : Nat), .int .i64 (if isC c then 0 else 11)]) ∧ Below w.heap.size w w' := by
  have hd := fun W => dir_any c W
  cases h : isC c
  · rw [dirS_no h] at hd
    rw [ndim_no h]
    have he : (⟨([] : List UInt8).toArray⟩ : ByteArray).toList.isEmpty = true := by rw [bl]; rfl
    clear h
    generalize (⟨([] : List UInt8).toArray⟩ : ByteArray) = D at *
    go_enter Try.func56, Try.ntmps56
    go_wp2_with (go_at_call 60; (with_reducible refine (hd _).mono ?_); rintro e w1 ⟨rfl, rfl⟩)
    exact bodyPost_ret (v := .tuple #[.int .i64 0, .int .i64 11]) (by simp [results, Try.results56, go_sem]) rfl ⟨by simp, Below.refl _ _⟩
  · have hx := fun W => dims_any h W
    have hm := fun g W (k : Row W g (mc c) (ixf c)) => max_any g (nl c) (mc c) (mc c) (ixf c) W k (nl_pos h) (nl_mc h) (Nat.le_trans (nl_le h) (by decide))
    have he : (⟨(dirS c).toArray⟩ : ByteArray).toList.isEmpty = false := by
      rw [bl]; unfold isC at h; simpa using h
    have e1 := mxd_eq h
    have e2 : ndim c ≤ 5 := ndim_le c
    change ∀ g W, Row W g (mc c) (ixf c) → Calls Try.prog 74 #[.slice (some ⟨g, 0, none⟩) (nl c) (mc c)] W fun e w' => e = .returned (.int .i64 (mxd c)) ∧ W = w' at hm
    generalize (⟨(dirS c).toArray⟩ : ByteArray) = D at *
    generalize mxd c = X at *
    generalize nl c = n at *
    generalize mc c = m at *
    generalize ixf c = f at *
    generalize ndim c = d at *
    have W1 : IntKind.i64.wrap (1 + X) = (d : Int) := by rw [IntWalk.i64_in _ (by omega)]; omega
    go_enter Try.func56, Try.ntmps56
    go_wp2_with (first
      | (go_at_call 60; (with_reducible refine (hd _).mono ?_); rintro e w1 ⟨rfl, rfl⟩)
      | (go_at_call 43; (with_reducible refine (hx _).mono ?_); rintro e w1 ⟨g, rfl, hR, hb, hg⟩)
      | (go_at_call 74; (with_reducible refine (hm g _ hR).mono ?_); rintro e w2 ⟨rfl, rfl⟩))
    exact bodyPost_ret (v := .tuple #[.int .i64 d, .int .i64 0]) (by simp [results, Try.results56, go_sem]) rfl ⟨by simp, hb⟩
/-- All of them are positive, and together within a bound. -/
def fitB : Int → List Int → Bool
  | _, [] => true
  | b, x :: r => decide (1 ≤ x) && decide (x ≤ b) && fitB (b - x) r
theorem fitB_app : ∀ (l r : List Int) (b : Int), fitB b (l ++ r) = (fitB b l && fitB (b - l.sum) r)
  | [], r, b => by simp [fitB]
  | x :: l, r, b => by
    have e : b - x - l.sum = b - (x + l.sum) := by omega
    simp only [List.cons_append, fitB, fitB_app l r, List.sum_cons, Bool.and_assoc, e]
theorem fitB_sum : ∀ (l : List Int) (b : Int), 0 ≤ b → fitB b l = true → 0 ≤ l.sum ∧ l.sum ≤ b
  | [], b, h, _ => by simp; exact h
  | x :: l, b, h, k => by
    simp only [fitB, Bool.and_eq_true, decide_eq_true_eq] at k
    have := fitB_sum l (b - x) (by omega) k.2
    simp only [List.sum_cons]; omega
theorem fitB_mem : ∀ (l : List Int) (b : Int), fitB b l = true → 0 ≤ b → ∀ x ∈ l, 1 ≤ x ∧ x ≤ b
  | [], _, _, _, _, h => by cases h
  | y :: l, b, k, hb, x, h => by
    simp only [fitB, Bool.and_eq_true, decide_eq_true_eq] at k
    rcases List.mem_cons.1 h with rfl | h
    · omega
    · have := fitB_mem l (b - y) k.2 (by omega) x h; omega
theorem fitB_step {l : List Int} {k : Nat} (hk : k < l.length) {b : Int} (h : fitB b (l.take k) = true) : fitB b (l.take (k + 1)) = (decide (1 ≤ l[k]) && decide (l[k] ≤ b - (l.take k).sum)) := by
  rw [List.take_succ_eq_append_getElem hk, fitB_app, h]; simp [fitB]
theorem fitB_take {l : List Int} (k : Nat) {b : Int} (h : fitB b (l.take k) = false) : fitB b l = false := by
  rw [← List.take_append_drop k l, fitB_app, h]; rfl
set_option maxRecDepth 100000 in
theorem fit_any (v : Value) (zs : List Int) (w : World) (hR : Rdz w v zs) (hl : zs.length ≤ maxLen) :
    Calls Try.prog 57 #[v] w fun e w' => e = .returned (.bool (fitB 262144 zs)) ∧ w = w' := by
  unfold maxLen at hl
  obtain ⟨q, c, rfl, k1⟩ := hR
  have K1 := Lib.hid k1
  clear k1
  go_enter Try.func57, Try.ntmps57
  go_wp2
  go_loop [3, 8] (fun v3 v8 => ∃ (k : Nat) (s : Int), v8 = .int .i64 k ∧ v3 = .int .i64 s ∧ k ≤ zs.length ∧ 0 ≤ s ∧ s ≤ 262144 ∧ Hid (fitB 262144 (zs.take k) = true ∧ s = 262144 - (zs.take k).sum)) (fun _ v => zs.length - (intOf v).toNat)
  case atStart => exact ⟨0, 262144, rfl, rfl, Nat.zero_le _, by omega, by omega, Lib.hid ⟨rfl, rfl⟩⟩
  case round =>
    obtain ⟨k, s, rfl, rfl, hk, s0, s1, hG⟩ := hrel
    by_cases hlt : k < zs.length
    · have g1 : decide ((k : Int) < (zs.length : Int)) = true := by simp [hlt]
      have W1 : IntKind.i64.wrap ((k : Int) + 1) = ((k + 1 : Nat) : Int) := by rw [IntWalk.i64_in _ (by omega)]; omega
      have q1 : (0 : Int) ≤ (k : Int) := by omega
      have q2 : (k : Int) < (zs.length : Int) := by omega
      obtain ⟨a, rfl, d0⟩ := K1.out k hlt
      obtain ⟨y, hyy⟩ : ∃ y, y = zs[k] := ⟨_, rfl⟩
      have hs : Hid (fitB 262144 (zs.take (k + 1)) = (decide (1 ≤ y) && decide (y ≤ s)) ∧ (zs.take (k + 1)).sum = 262144 - s + y) := Lib.hid (by
        rw [fitB_step hlt hG.out.1, hyy, hG.out.2]
        refine ⟨rfl, ?_⟩
        rw [List.take_succ_eq_append_getElem hlt, List.sum_append]; simp; omega)
      rw [← hyy] at d0
      clear hyy hG
      by_cases e : y < 1
      · have t1 : decide (y < 1) = true := by simp [e]
        have HE : Hid (fitB 262144 zs = false) := Lib.hid (fitB_take (k + 1) (by rw [hs.out.1]; simp; omega))
        clear e hs
        go_wp2
        go_ret
        exact ⟨by rw [HE.out]; rfl, rfl⟩
      · have t1 : decide (y < 1) = false := by simp; omega
        by_cases e2 : s < y
        · have t2 : decide (s < y) = true := by simp [e2]
          have t3 : decide (y > s) = true := by simp; omega
          have HE : Hid (fitB 262144 zs = false) := Lib.hid (fitB_take (k + 1) (by rw [hs.out.1]; simp; omega))
          clear e e2 hs
          go_wp2
          go_ret
          exact ⟨by rw [HE.out]; rfl, rfl⟩
        · have t2 : decide (s < y) = false := by simp; omega
          have t3 : decide (y > s) = false := by simp; omega
          have W2 : IntKind.i64.wrap (s - y) = s - y := IntWalk.i64_in _ (by omega)
          have HG : Hid (fitB 262144 (zs.take (k + 1)) = true ∧ s - y = 262144 - (zs.take (k + 1)).sum) := Lib.hid ⟨by rw [hs.out.1]; simp; omega, by rw [hs.out.2]; omega⟩
          clear hs
          go_wp2
          exact ⟨⟨k + 1, s - y, rfl, rfl, hlt, by omega, by omega, HG⟩, by simp [intOf]; omega⟩
    · have g1 : decide ((k : Int) < (zs.length : Int)) = false := by simp; omega
      have HE : Hid (fitB 262144 zs = true) := Lib.hid (by
        have := hG.out.1
        rwa [List.take_of_length_le (by omega)] at this)
      go_wp2
      go_ret
      exact ⟨by rw [HE.out]; rfl, rfl⟩
def abz (n : Int) : Int := if n < 0 then -n else n
end Go.Proofs.Ytfkcogocaecodaa
namespace Go.Proofs.Ytfkcogocaecodaa
open Go.ChangeShapes Go.WideShapes Go.ChangeAt Go.RowKit
set_option linter.unusedVariables false
set_option linter.unusedSimpArgs false
def sz : List Int := [6, 8, 10, 12, 16, 20, 25, 32, 40]
/-- The row of the sizes fills block g. -/
def Zs (w : World) (g : Nat) : Prop := Has w g 3 #[.int .i64 6, .int .i64 8, .int .i64 10, .int .i64 12, .int .i64 16, .int .i64 20, .int .i64 25, .int .i64 32, .int .i64 40]
theorem Zs.on {w w' : World} {g : Nat} (h : Zs w g) (hb : Below w.heap.size w w') : Zs w' g := Has.on h hb
theorem Zs.size_ {w : World} {g : Nat} (h : Zs w g) : g < w.heap.size := Has.size_ h
theorem sz_len : sz.length = 9 := rfl
theorem Zs.read {w : World} {g : Nat} (h : Zs w g) {k : Nat} (hk : k < 9) : w.cell? ⟨g, k, none⟩ = some (.int .i64 (sz[k]'hk)) := by
  unfold Zs at h
  rw [Has.read h k]
  match k, hk with
  | 0, _ => rfl
  | 1, _ => rfl
  | 2, _ => rfl
  | 3, _ => rfl
  | 4, _ => rfl
  | 5, _ => rfl
  | 6, _ => rfl
  | 7, _ => rfl
  | 8, _ => rfl
theorem Zs.rdz {w : World} {g : Nat} (h : Zs w g) : Rdz w (.slice (some ⟨g, 0, none⟩) 9 9) sz := by
  refine ⟨_, 9, rfl, fun j hj => ⟨_, rfl, ?_⟩⟩
  rw [Addr.add_lit, Nat.zero_add]
  exact h.read hj
theorem sizes_any (w : World) : Calls Try.prog 77 #[] w fun e w' => ∃ g, e = .returned (.slice (some ⟨g, 0, none⟩) 9 9) ∧ Zs w' g ∧ Below w.heap.size w w' ∧ w.heap.size ≤ g := by
  go_enter Try.func77, Try.ntmps77
  go_wp2
  go_ret
  exact ⟨w.heap.size, rfl, Has.new_ w 3 _, al1 w _, Nat.le_refl _⟩
def ixo (zs : List Int) (x : Int) : Int := match zs.findIdx? (· == x) with | some i => (i : Int) | none => -1
theorem findIdx_some {zs : List Int} {x : Int} {k : Nat} (hk : k < zs.length) (h : ∀ (j : Nat) (hj : j < zs.length), j < k → zs[j] ≠ x) (e : zs[k] = x) : ixo zs x = k := by
  have : zs.findIdx? (· == x) = some k := by
    rw [List.findIdx?_eq_some_iff_getElem]
    exact ⟨hk, by simp [e], fun j hj => by simpa using h j (by omega) hj⟩
  unfold ixo; rw [this]
theorem findIdx_none {zs : List Int} {x : Int} (h : ∀ (j : Nat) (hj : j < zs.length), zs[j] ≠ x) : ixo zs x = -1 := by
  have : zs.findIdx? (· == x) = none := by
    rw [List.findIdx?_eq_none_iff]
    intro y hy
    obtain ⟨j, hj, rfl⟩ := List.getElem_of_mem hy
    simpa using h j hj
  unfold ixo; rw [this]
theorem ixo_pos (zs : List Int) (x : Int) : decide (0 ≤ ixo zs x) = zs.contains x := by
  unfold ixo
  cases h : zs.findIdx? (· == x) with
  | some i =>
    have := (List.findIdx?_eq_some_iff_getElem.1 h)
    obtain ⟨hi, e, -⟩ := this
    have : zs.contains x = true := by
      rw [List.contains_iff_mem]
      have e' : zs[i] = x := by simpa using e
      rw [← e']; exact List.getElem_mem hi
    rw [this]; simp
  | none =>
    have := List.findIdx?_eq_none_iff.1 h
    have : zs.contains x = false := by
      cases c : zs.contains x
      · rfl
      · have := this x (List.contains_iff_mem.1 c)
        simp at this
    rw [this]; rfl
set_option maxRecDepth 100000 in
theorem index_any (v : Value) (zs : List Int) (x : Int) (w : World) (hR : Rdz w v zs) (hl : zs.length ≤ 100000) :
    Calls Try.prog 89 #[v, .int .i64 x] w fun e w' => e = .returned (.int .i64 (ixo zs x)) ∧ w = w' := by
  obtain ⟨q, c, rfl, k1⟩ := hR
  have K1 := Lib.hid k1
  clear k1
  go_enter Try.func89, Try.ntmps89
  go_wp2
  go_loop [8] (fun v => ∃ k : Nat, v = .int .i64 k ∧ k ≤ zs.length ∧ Hid (∀ (j : Nat) (hj : j < zs.length), j < k → zs[j] ≠ x)) (fun v => zs.length - (intOf v).toNat)
  case atStart => exact ⟨0, rfl, Nat.zero_le _, Lib.hid (fun j _ h => absurd h (Nat.not_lt_zero j))⟩
  case round =>
    obtain ⟨k, rfl, hk, hG⟩ := hrel
    by_cases hlt : k < zs.length
    · have g1 : decide ((k : Int) < (zs.length : Int)) = true := by simp [hlt]
      have W1 : IntKind.i64.wrap ((k : Int) + 1) = ((k + 1 : Nat) : Int) := by rw [IntWalk.i64_in _ (by omega)]; omega
      have q1 : (0 : Int) ≤ (k : Int) := by omega
      have q2 : (k : Int) < (zs.length : Int) := by omega
      obtain ⟨a, rfl, d0⟩ := K1.out k hlt
      obtain ⟨y, hyy⟩ : ∃ y, y = zs[k] := ⟨_, rfl⟩
      rw [← hyy] at d0
      have HY := Lib.hid hyy
      clear hyy
      by_cases e : x = y
      · have t1 : (x == y) = true := by simp [e]
        have t2 : (y == x) = true := by simp [e]
        have HE : Hid (ixo zs x = k) := Lib.hid (findIdx_some hlt hG.out (by rw [← HY.out, e]))
        clear e
        go_wp2
        go_ret
        exact ⟨by rw [HE.out]; rfl, rfl⟩
      · have t1 : (x == y) = false := by simpa using e
        have t2 : (y == x) = false := by simpa using fun h => e h.symm
        have HG : Hid (∀ (j : Nat) (hj : j < zs.length), j < k + 1 → zs[j] ≠ x) := Lib.hid fun j hj h => by
          rcases Nat.lt_or_ge j k with h1 | h1
          · exact hG.out j hj h1
          · have : j = k := by omega
            subst this
            rw [← HY.out]; exact fun h => e h.symm
        clear e
        go_wp2
        exact ⟨⟨k + 1, rfl, hlt, HG⟩, by simp [intOf]; omega⟩
    · have g1 : decide ((k : Int) < (zs.length : Int)) = false := by simp; omega
      have HE : Hid (ixo zs x = -1) := Lib.hid (findIdx_none fun j hj => hG.out j hj (by omega))
      go_wp2
      go_ret
      exact ⟨by rw [HE.out]; rfl, rfl⟩
set_option maxRecDepth 100000 in
theorem containsz_any (v : Value) (zs : List Int) (x : Int) (w : World) (hR : Rdz w v zs) (hl : zs.length ≤ 100000) :
    Calls Try.prog 76 #[v, .int .i64 x] w fun e w' => e = .returned (.bool (zs.contains x)) ∧ w = w' := by
  have hp := ixo_pos zs x
  obtain ⟨i, hi⟩ : ∃ i, i = ixo zs x := ⟨_, rfl⟩
  have hc := fun W h => index_any v zs x W h hl
  rw [← hi] at hp hc
  have HP := Lib.hid hp
  clear hi hp
  go_enter Try.func76, Try.ntmps76
  go_wp2_with (go_at_call 89; (with_reducible refine (hc _ hR).mono ?_); rintro e w' ⟨rfl, rfl⟩)
  go_ret
  exact ⟨by rw [← HP.out]; rfl, rfl⟩
def isz (d : Int) : Bool := sz.contains d
theorem isz_any (d : Int) (w : World) : Calls Try.prog 59 #[.int .i64 d] w fun e w' => e = .returned (.bool (isz d)) ∧ Below w.heap.size w w' := by
  have hc := fun g W (h : Zs W g) => containsz_any (.slice (some ⟨g, 0, none⟩) 9 9) sz d W h.rdz (by decide)
  have he : isz d = sz.contains d := rfl
  rw [← he] at hc
  clear he
  generalize isz d = b at *
  go_enter Try.func59, Try.ntmps59
  go_wp2_with (first
    | (go_at_call 77; (with_reducible refine (sizes_any _).mono ?_); rintro e w1 ⟨g, rfl, hZ, hb, hg⟩)
    | (go_at_call 76; (with_reducible refine (hc g _ hZ).mono ?_); rintro e w' ⟨rfl, rfl⟩))
  go_ret
  exact ⟨rfl, hb⟩
end Go.Proofs.Ytfkcogocaecodaa
namespace Go.Proofs.Ytfkcogocaecodaa
open Go.ChangeShapes Go.WideShapes Go.ChangeAt Go.RowKit
set_option linter.unusedVariables false
set_option linter.unusedSimpArgs false

structure Bar where
  mark : ByteArray
  size : Int
  count : Int
  code : Int
  p : Option Addr
  ds : List Int
  cap : Nat
def Bar.sv (b : Bar) : Value := .slice b.p b.ds.length b.cap
def Bar.cs (b : Bar) : Array Value := #[.string b.mark, .int .i64 b.size, .int .i64 b.count, .int .i64 b.code, .slice b.p b.ds.length b.cap]
def Bar.val (b : Bar) : Value := .agg b.cs
/-- A bar that lies in a world. -/
structure Bar.Ok (b : Bar) (w : World) : Prop where
  nm : b.mark.size ≤ maxLen
  ln : b.ds.length ≤ maxLen
  rd : Rdz w b.sv b.ds
theorem Bar.Ok.on {b : Bar} {w w' : World} (h : b.Ok w) (hb : Below w.heap.size w w') : b.Ok w' := ⟨h.nm, h.ln, h.rd.on hb⟩
def nmB (b : Bar) : Bool := Dec.nameB b.mark.data.toList
def barB (b : Bar) : Bool := isC b.code && (b.ds.length == ndim b.code) && fitB 262144 b.ds && nmB b && isz b.size && decide (1 ≤ b.count) && decide (b.count ≤ 1000)
set_option maxHeartbeats 4000000 in
set_option maxRecDepth 100000 in
theorem Valid_any (b : Bar) (w : World) (hk : b.Ok w) : Calls Try.prog 42 #[b.val] w fun e w' => e = .returned (.bool (barB b)) ∧ Below w.heap.size w w' := by
  have hD := fun W => Dims_any b.code W
  have hF := fun W (h : Below w.heap.size w W) => fit_any b.sv b.ds W (hk.rd.on h) hk.ln
  have hN := fun W => Dec.isName_any b.mark W hk.nm
  have hS := fun W => isz_any b.size W
  have E := (Env.nil w).add w.heap.size 49 b.cs rfl
  have e0 : nmB b = Dec.nameB b.mark.data.toList := rfl
  rw [← e0] at hN
  unfold barB
  generalize nmB b = NM at *
  generalize isz b.size = SZ at *
  generalize fitB 262144 b.ds = FT at *
  generalize ndim b.code = n at *
  generalize isC b.code = IC at *
  obtain ⟨mk, sz, ct, cd, p, ds, cap⟩ := b
  simp only [Bar.sv, Bar.cs, Bar.val] at *
  clear e0 hk
  generalize ds.length = len at *
  have C := E.cells
  simp [BC, CF] at C
  cases IC
  · simp only [Bool.false_and]
    go_enter Try.func42, Try.ntmps42
    go_wp2_with (first
      | (go_at_call 56; (with_reducible refine (hD _).mono ?_); rintro X w1 ⟨rfl, hb⟩; replace E := E.on hb; replace C := E.cells; simp [BC, CF] at C; clear hb)
      | (go_at_call 57; (with_reducible refine (hF _ (envb E)).mono ?_); rintro X w2 ⟨rfl, rfl⟩)
      | (go_at_call 58; (with_reducible refine (hN _).mono ?_); rintro X w2 ⟨rfl, rfl⟩)
      | (go_at_call 59; (with_reducible refine (hS _).mono ?_); rintro X w3 ⟨rfl, hb⟩; replace E := E.on hb; replace C := E.cells; simp [BC, CF] at C; clear hb))
    go_ret
    exact ⟨rfl, E.1⟩
  cases hl : (len == n)
  · simp only [Bool.false_and, Bool.true_and]
    have q1 : ((len : Int) == (n : Int)) = false := by simp at hl ⊢; omega
    clear hl
    go_enter Try.func42, Try.ntmps42
    go_wp2_with (first
      | (go_at_call 56; (with_reducible refine (hD _).mono ?_); rintro X w1 ⟨rfl, hb⟩; replace E := E.on hb; replace C := E.cells; simp [BC, CF] at C; clear hb)
      | (go_at_call 57; (with_reducible refine (hF _ (envb E)).mono ?_); rintro X w2 ⟨rfl, rfl⟩)
      | (go_at_call 58; (with_reducible refine (hN _).mono ?_); rintro X w2 ⟨rfl, rfl⟩)
      | (go_at_call 59; (with_reducible refine (hS _).mono ?_); rintro X w3 ⟨rfl, hb⟩; replace E := E.on hb; replace C := E.cells; simp [BC, CF] at C; clear hb))
    go_ret
    exact ⟨rfl, E.1⟩
  have q1 : ((len : Int) == (n : Int)) = true := by simp at hl ⊢; omega
  clear hl
  cases FT
  · simp only [Bool.false_and, Bool.true_and]
    go_enter Try.func42, Try.ntmps42
    go_wp2_with (first
      | (go_at_call 56; (with_reducible refine (hD _).mono ?_); rintro X w1 ⟨rfl, hb⟩; replace E := E.on hb; replace C := E.cells; simp [BC, CF] at C; clear hb)
      | (go_at_call 57; (with_reducible refine (hF _ (envb E)).mono ?_); rintro X w2 ⟨rfl, rfl⟩)
      | (go_at_call 58; (with_reducible refine (hN _).mono ?_); rintro X w2 ⟨rfl, rfl⟩)
      | (go_at_call 59; (with_reducible refine (hS _).mono ?_); rintro X w3 ⟨rfl, hb⟩; replace E := E.on hb; replace C := E.cells; simp [BC, CF] at C; clear hb))
    go_ret
    exact ⟨rfl, E.1⟩
  cases NM
  · simp only [Bool.false_and, Bool.true_and]
    go_enter Try.func42, Try.ntmps42
    go_wp2_with (first
      | (go_at_call 56; (with_reducible refine (hD _).mono ?_); rintro X w1 ⟨rfl, hb⟩; replace E := E.on hb; replace C := E.cells; simp [BC, CF] at C; clear hb)
      | (go_at_call 57; (with_reducible refine (hF _ (envb E)).mono ?_); rintro X w2 ⟨rfl, rfl⟩)
      | (go_at_call 58; (with_reducible refine (hN _).mono ?_); rintro X w2 ⟨rfl, rfl⟩)
      | (go_at_call 59; (with_reducible refine (hS _).mono ?_); rintro X w3 ⟨rfl, hb⟩; replace E := E.on hb; replace C := E.cells; simp [BC, CF] at C; clear hb))
    go_ret
    exact ⟨rfl, E.1⟩
  cases SZ
  · simp only [Bool.false_and, Bool.true_and]
    go_enter Try.func42, Try.ntmps42
    go_wp2_with (first
      | (go_at_call 56; (with_reducible refine (hD _).mono ?_); rintro X w1 ⟨rfl, hb⟩; replace E := E.on hb; replace C := E.cells; simp [BC, CF] at C; clear hb)
      | (go_at_call 57; (with_reducible refine (hF _ (envb E)).mono ?_); rintro X w2 ⟨rfl, rfl⟩)
      | (go_at_call 58; (with_reducible refine (hN _).mono ?_); rintro X w2 ⟨rfl, rfl⟩)
      | (go_at_call 59; (with_reducible refine (hS _).mono ?_); rintro X w3 ⟨rfl, hb⟩; replace E := E.on hb; replace C := E.cells; simp [BC, CF] at C; clear hb))
    go_ret
    exact ⟨rfl, E.1⟩
  cases h1 : decide (1 ≤ ct)
  · simp only [Bool.false_and, Bool.true_and]
    have t1 : decide (ct ≥ 1) = false := h1
    go_enter Try.func42, Try.ntmps42
    go_wp2_with (first
      | (go_at_call 56; (with_reducible refine (hD _).mono ?_); rintro X w1 ⟨rfl, hb⟩; replace E := E.on hb; replace C := E.cells; simp [BC, CF] at C; clear hb)
      | (go_at_call 57; (with_reducible refine (hF _ (envb E)).mono ?_); rintro X w2 ⟨rfl, rfl⟩)
      | (go_at_call 58; (with_reducible refine (hN _).mono ?_); rintro X w2 ⟨rfl, rfl⟩)
      | (go_at_call 59; (with_reducible refine (hS _).mono ?_); rintro X w3 ⟨rfl, hb⟩; replace E := E.on hb; replace C := E.cells; simp [BC, CF] at C; clear hb))
    go_ret
    exact ⟨rfl, E.1⟩
  have t1 : decide (ct ≥ 1) = true := h1
  cases h2 : decide (ct ≤ 1000)
  · simp only [Bool.true_and]
    go_enter Try.func42, Try.ntmps42
    go_wp2_with (first
      | (go_at_call 56; (with_reducible refine (hD _).mono ?_); rintro X w1 ⟨rfl, hb⟩; replace E := E.on hb; replace C := E.cells; simp [BC, CF] at C; clear hb)
      | (go_at_call 57; (with_reducible refine (hF _ (envb E)).mono ?_); rintro X w2 ⟨rfl, rfl⟩)
      | (go_at_call 58; (with_reducible refine (hN _).mono ?_); rintro X w2 ⟨rfl, rfl⟩)
      | (go_at_call 59; (with_reducible refine (hS _).mono ?_); rintro X w3 ⟨rfl, hb⟩; replace E := E.on hb; replace C := E.cells; simp [BC, CF] at C; clear hb))
    go_ret
    exact ⟨rfl, E.1⟩
  · simp only [Bool.true_and]
    go_enter Try.func42, Try.ntmps42
    go_wp2_with (first
      | (go_at_call 56; (with_reducible refine (hD _).mono ?_); rintro X w1 ⟨rfl, hb⟩; replace E := E.on hb; replace C := E.cells; simp [BC, CF] at C; clear hb)
      | (go_at_call 57; (with_reducible refine (hF _ (envb E)).mono ?_); rintro X w2 ⟨rfl, rfl⟩)
      | (go_at_call 58; (with_reducible refine (hN _).mono ?_); rintro X w2 ⟨rfl, rfl⟩)
      | (go_at_call 59; (with_reducible refine (hS _).mono ?_); rintro X w3 ⟨rfl, hb⟩; replace E := E.on hb; replace C := E.cells; simp [BC, CF] at C; clear hb))
    go_ret
    exact ⟨rfl, E.1⟩
end Go.Proofs.Ytfkcogocaecodaa
namespace Go.Proofs.Ytfkcogocaecodaa
open Go.ChangeShapes Go.WideShapes Go.ChangeAt Go.RowKit
set_option linter.unusedVariables false
set_option linter.unusedSimpArgs false

def legF (b : Bar) (j : Nat) : Int := b.ds.getD ((ixb b.code).getD j 0) 0
def legs (b : Bar) : List Int := (List.range (nl b.code)).map (legF b)
theorem legs_len (b : Bar) : (legs b).length = nl b.code := by simp [legs]
theorem barB_and {b : Bar} (h : barB b = true) : isC b.code = true ∧ b.ds.length = ndim b.code ∧ fitB 262144 b.ds = true ∧ nmB b = true ∧ isz b.size = true ∧ 1 ≤ b.count ∧ b.count ≤ 1000 := by
  unfold barB at h
  simp only [Bool.and_eq_true, decide_eq_true_eq, beq_iff_eq] at h
  obtain ⟨⟨⟨⟨⟨⟨h1, h2⟩, h3⟩, h4⟩, h5⟩, h6⟩, h7⟩ := h
  exact ⟨h1, h2, h3, h4, h5, h6, h7⟩
theorem leg_get {b : Bar} (h : barB b = true) {j : Nat} (hj : j < nl b.code) : ∃ i, ∃ hi : i < b.ds.length, ixf b.code j = ((i : Nat) : Int) ∧ legF b j = b.ds[i] := by
  obtain ⟨h1, h2, -⟩ := barB_and h
  have k := ix_lt h1 hj
  refine ⟨(ixb b.code).getD j 0, by omega, rfl, ?_⟩
  unfold legF
  rw [List.getD_eq_getElem?_getD, List.getElem?_eq_getElem (by omega)]; rfl
theorem leg_bd {b : Bar} (h : barB b = true) {j : Nat} (hj : j < nl b.code) : 1 ≤ legF b j ∧ legF b j ≤ 262144 := by
  obtain ⟨i, hi, -, e⟩ := leg_get h hj
  obtain ⟨-, -, h3, -⟩ := barB_and h
  rw [e]
  exact fitB_mem _ _ h3 (by omega) _ (List.getElem_mem hi)
set_option maxHeartbeats 4000000 in
set_option maxRecDepth 100000 in
theorem Legs_no (b : Bar) (w : World) (hk : b.Ok w) (hv : barB b = false) : Calls Try.prog 19 #[b.val] w fun e w' => e = .returned (.tuple #[.slice none 0 0, .int .i64 1]) ∧ Below w.heap.size w w' := by
  have hV := fun W (h : Below w.heap.size w W) => Valid_any b W (hk.on h)
  have E := (Env.nil w).add w.heap.size 49 b.cs rfl
  rw [hv] at hV
  obtain ⟨mk, sz, ct, cd, p, ds, cap⟩ := b
  simp only [Bar.cs, Bar.val] at *
  have C := E.cells
  simp [BC, CF] at C
  clear hk hv
  go_enter Try.func19, Try.ntmps19
  go_wp2_with (go_at_call 42; (with_reducible refine (hV _ (envb E)).mono ?_); rintro X w1 ⟨rfl, hb⟩; replace E := E.on hb; clear hb)
  exact bodyPost_ret (v := .tuple #[.slice none 0 0, .int .i64 1]) (by simp [results, Try.results19, go_sem]) rfl ⟨rfl, E.1⟩
set_option maxHeartbeats 4000000 in
set_option maxRecDepth 100000 in
theorem Legs_ok (b : Bar) (w : World) (hk : b.Ok w) (hv : barB b = true) : Calls Try.prog 19 #[b.val] w fun e w' =>
    ∃ g, e = .returned (.tuple #[.slice (some ⟨g, 0, none⟩) (nl b.code) (mc b.code), .int .i64 0]) ∧ Rdz w' (.slice (some ⟨g, 0, none⟩) (nl b.code) (mc b.code)) (legs b) ∧ Below w.heap.size w w' := by
  have hV := fun W (h : Below w.heap.size w W) => Valid_any b W (hk.on h)
  have E := (Env.nil w).add w.heap.size 49 b.cs rfl
  rw [hv] at hV
  obtain ⟨h1, h2, -⟩ := barB_and hv
  have hD := fun W => dims_any h1 W
  have n1 := nl_mc h1
  have n2 := nl_le h1
  have hG : ∀ j, j < nl b.code → ∃ i, ∃ hi : i < b.ds.length, ixf b.code j = ((i : Nat) : Int) ∧ legF b j = b.ds[i] := fun j hj => leg_get hv hj
  have hL : legs b = (List.range (nl b.code)).map (legF b) := rfl
  have hd := hk.rd
  unfold Bar.sv at hd
  obtain ⟨q, c0, e0, hd⟩ := hd
  simp only [Value.slice.injEq] at e0
  obtain ⟨rfl, -, rfl⟩ := e0
  have HD := Lib.hid hd
  have HG := Lib.hid hG
  have HL := Lib.hid hL
  clear hd hG hL h2 hv
  generalize legs b = LS at *
  generalize legF b = lf at *
  have hcs : b.cs = #[.string b.mark, .int .i64 b.size, .int .i64 b.count, .int .i64 b.code, .slice b.p b.ds.length b.cap] := rfl
  have hvv : b.val = .agg b.cs := rfl
  rw [hcs] at E hvv
  rw [hvv] at hV ⊢
  clear hk h1 hcs hvv
  generalize b.ds = ds at *
  generalize b.p = p at *
  generalize b.cap = cap at *
  generalize b.code = cd at *
  generalize ixf cd = ff at *
  generalize nl cd = n at *
  generalize mc cd = m at *
  have C := E.cells
  simp [BC, CF] at C
  go_enter Try.func19, Try.ntmps19
  go_wp2_with (first
    | (go_at_call 42; (with_reducible refine (hV _ (envb E)).mono ?_); rintro X w1 ⟨rfl, hb⟩; replace E := E.on hb; clear hb; replace C := E.cells; simp [BC, CF] at C)
    | (go_at_call 43; (with_reducible refine (hD _).mono ?_); rintro X w2 ⟨g, rfl, hR, hb, hg⟩; have hg2 := Nat.lt_of_lt_of_le C.1 hg; replace E := E.on hb; clear hb; replace C := E.cells; simp [BC, CF] at C))
  go_loopw [15] (fun v wr => ∃ k : Nat, v = .int .i64 k ∧ k ≤ n ∧ Row wr g m (fun j => if j < k then lf j else ff j) ∧ Env w wr [⟨w.heap.size, 49, #[.string b.mark, .int .i64 b.size, .int .i64 b.count, .int .i64 cd, .slice p ds.length cap]⟩]) (fun v _ => n - (intOf v).toNat)
  case atStart => exact ⟨0, rfl, Nat.zero_le _, hR.cong (fun i _ => by simp), E⟩
  case round =>
    clear hR E C
    obtain ⟨k, rfl, hk, hR, E⟩ := hrel
    have C := E.cells
    simp [BC, CF] at C
    by_cases hlt : k < n
    · have g1 : decide ((k : Int) < (n : Int)) = true := by simp [hlt]
      have W1 : IntKind.i64.wrap ((k : Int) + 1) = ((k + 1 : Nat) : Int) := by rw [IntWalk.i64_in _ (by omega)]; omega
      have q1 : (0 : Int) ≤ (k : Int) := by omega
      have q2 : (k : Int) < (n : Int) := by omega
      have d0 := hR.read (i := k) (by omega)
      obtain ⟨i, hi, e1, e2⟩ := HG.out k hlt
      rw [if_neg (by omega), e1] at d0
      obtain ⟨a, rfl, d1⟩ := HD.out i hi
      have d2 : wr.cell? (a.add i) = some (.int .i64 ds[i]) := cellLater E.1 d1
      rw [← e2] at d2
      have q3 : (0 : Int) ≤ (i : Int) := by omega
      have q4 : (i : Int) < (ds.length : Int) := by omega
      have o0 := Has.open_ hR k
      have hR2 := Row.put hR k (lf k)
      have E2 : Env w (wr.setCell ⟨g, k, none⟩ (.int .i64 (lf k))) [⟨w.heap.size, 49, #[.string b.mark, .int .i64 b.size, .int .i64 b.count, .int .i64 cd, .slice (some a) ds.length cap]⟩] :=
        ⟨E.1.setCell (by dsimp only; omega) _, E.2.far _ (by simp; omega)⟩
      have HR2 : Hid (Row (wr.setCell ⟨g, k, none⟩ (.int .i64 (lf k))) g m (fun j => if j < k + 1 then lf j else ff j)) := Lib.hid (hR2.cong fun j _ => by
        unfold upd
        split
        · subst_vars; simp
        · dsimp only; split <;> split <;> first | rfl | omega)
      have HE2 := Lib.hid E2
      clear hR2 E2 E hR d1 e2
      go_wp2
      exact ⟨⟨k + 1, rfl, hlt, HR2.out, HE2.out⟩, by simp [intOf]; omega⟩
    · have g1 : decide ((k : Int) < (n : Int)) = false := by simp; omega
      have hR3 : Row wr g m (fun j => if j < n then lf j else ff j) := by
        have : k = n := by omega
        rw [← this]; exact hR
      have hR4 : Rdz wr (.slice (some ⟨g, 0, none⟩) n m) LS := by
        have := Row.rdz (n := n) (cap := m) hR3 n1
        rw [HL.out, show ((List.range n).map lf) = (List.range n).map (fun j => if j < n then lf j else ff j) from List.map_congr_left fun j hj => by rw [if_pos (List.mem_range.1 hj)]]
        exact this
      clear hR3 hR
      go_wp2
      exact bodyPost_ret (v := .tuple #[.slice (some ⟨g, 0, none⟩) n m, .int .i64 0]) (by simp [results, Try.results19, go_sem]) rfl ⟨g, rfl, hR4, E.1⟩
end Go.Proofs.Ytfkcogocaecodaa
namespace Go.Proofs.Ytfkcogocaecodaa
open Go.ChangeShapes Go.WideShapes Go.ChangeAt Go.RowKit
set_option linter.unusedVariables false
set_option linter.unusedSimpArgs false

def mv (p : Pt) (c n : Int) : Pt :=
  if c = 88 then ⟨p.x + n, p.y, p.z⟩ else if c = 120 then ⟨p.x - n, p.y, p.z⟩ else if c = 89 then ⟨p.x, p.y + n, p.z⟩
  else if c = 121 then ⟨p.x, p.y - n, p.z⟩ else if c = 90 then ⟨p.x, p.y, p.z + n⟩ else p
theorem mv_bd {p : Pt} {c n L : Int} (h : p.bd L) (h0 : 0 ≤ n) : (mv p c n).bd (L + n) := by
  obtain ⟨⟨a, b⟩, ⟨d, e⟩, f, g⟩ := h
  unfold mv Pt.bd
  repeat' split
  all_goals ((try dsimp only); omega)
end Go.Proofs.Ytfkcogocaecodaa
namespace Go.Proofs.Ytfkcogocaecodaa
open Go.ChangeShapes Go.WideShapes Go.ChangeAt Go.RowKit
set_option linter.unusedVariables false
set_option linter.unusedSimpArgs false

def way (c : Int) (j : Nat) : Int := (((dirS c).getD j 0).toNat : Int)
def pt (b : Bar) : Nat → Pt
  | 0 => ⟨0, 0, 0⟩
  | k + 1 => mv (pt b k) (way b.code k) (legF b k)
def pts (b : Bar) : List Pt := (List.range (nl b.code + 1)).map (pt b)
theorem pts_len (b : Bar) : (pts b).length = nl b.code + 1 := by simp [pts]
theorem pt_bd {b : Bar} (h : barB b = true) : ∀ k, k ≤ nl b.code → (pt b k).bd (k * 262144)
  | 0, _ => by unfold pt Pt.bd; dsimp only; omega
  | k + 1, hk => by
    have h1 := pt_bd h k (by omega)
    have h2 := leg_bd h (j := k) (by omega)
    have h3 := mv_bd (c := way b.code k) h1 (n := legF b k) (by omega)
    unfold pt
    unfold Pt.bd at h3 ⊢
    omega
theorem pt_big {b : Bar} (h : barB b = true) {k : Nat} (hk : k ≤ nl b.code) : (pt b k).bd 1572864 := by
  have h1 := pt_bd h k hk
  have h2 := nl_le (barB_and h).1
  unfold Pt.bd at h1 ⊢
  omega
theorem str_at (l : List UInt8) (k : Nat) (h : k < l.length) (w : World) : Sem.run Try.prog (Instr.index 9 (.string ⟨l.toArray⟩) (.int .i64 k)) w = .ok (.int .u8 (l.getD k 0).toNat) w := by
  have e : ((⟨l.toArray⟩ : ByteArray).size : Nat) = l.length := by simp [ByteArray.size]
  have e2 : l.getD k 0 = l[k] := by rw [List.getD_eq_getElem?_getD, List.getElem?_eq_getElem h]; rfl
  simp [Instr.index, go_sem, Try.underlying9, h, e, e2]
  rfl
theorem info77 : (Try.prog.info? 24).map (fun i => (i.zero, i.size, i.bytes)) = some (some (.agg #[.int .i64 0, .int .i64 0, .int .i64 0]), 3, 24) := by kernel_rfl
theorem own_snoc {α : Type} {f : α → List Value} {t : TypeId} {s B : Nat} {w : World} {v : Value} {O : List α} {y : α} (h : w.ownsRow B t s v (O.length + 1) (O.flatMap f ++ f y)) : Own f t s B w v (O ++ [y]) := by
  unfold Own
  rw [List.length_append, List.flatMap_append]
  simpa using h
theorem own_lit {w : World} {B g n s : Nat} {t : TypeId} {cs : Array Value} (h : Has w g t cs) (hs : cs.size = n * s) (hB : B ≤ g) (hn : n ≤ maxLen) : w.ownsRow B t s (.slice (some ⟨g, 0, none⟩) n n) n cs.toList := by
  refine ⟨by simpa using hs, .inr ⟨g, n, cs, rfl, hB, h, Nat.le_refl _, hn, hs, ?_⟩⟩
  rw [List.take_of_length_le (by simp [hs])]
theorem env_row {w w1 w2 : World} {g : Nat} {t : TypeId} {cs : Array Value} {row : Option Nat} (E : Env w w1 [⟨g, t, cs⟩]) (hg : w1.grownBy w2 row) (hr : ∀ k, row = some k → w.heap.size + 1 ≤ k) (hgw : g = w.heap.size := by rfl) : Env w w2 [⟨g, t, cs⟩] := by
  obtain ⟨h1, h2, h3, h4, h5⟩ := E
  refine ⟨h1.grown hg h1.size (fun k hk => by have := hr k hk; omega), h2, Has.grown_ h3 hg (fun e => by have := hr g e.symm; dsimp only at *; omega), h4, h5⟩
theorem Env.three {w0 w : World} {l : List Fb} {u0 u1 u2 : Value} (h : Env w0 w l) (k : Nat) (hb : Nat.blt k l.length = true) :
    Env w0 (((w.setCell ⟨numB k l, 0, none⟩ u0).setCell ⟨numB k l, 1, none⟩ u1).setCell ⟨numB k l, 2, none⟩ u2) (setB 2 u2 k (setB 1 u1 k (setB 0 u0 k l))) := by
  have e : ∀ (k : Nat) (l : List Fb) (i : Nat) (u : Value), numB k (setB i u k l) = numB k l := by
    intro k l i u
    induction l generalizing k with
    | nil => cases k <;> rfl
    | cons x l ih => cases k with
      | zero => rfl
      | succ k => exact ih k
  have e2 : ∀ (k : Nat) (l : List Fb) (i : Nat) (u : Value), (setB i u k l).length = l.length := by
    intro k l i u
    have := congrArg List.length (setB_g i u k l); simpa using this
  have h0 := h.put k 0 u0 hb
  have h1 := h0.put k 1 u1 (by rw [e2]; exact hb)
  have h2 := h1.put k 2 u2 (by rw [e2, e2]; exact hb)
  simp only [e] at h2
  exact h2
theorem at_put (w : World) (g i : Nat) (u : Value) : At g w (w.setCell ⟨g, i, none⟩ u) := (At.refl g w).put i u
theorem own_three {B g : Nat} {w : World} {v : Value} {n : Nat} {e : TypeId} {s : Nat} {xs : List Value} {u0 u1 u2 : Value} (h : w.ownsRow B e s v n xs) (hg : g < B) :
    (((w.setCell ⟨g, 0, none⟩ u0).setCell ⟨g, 1, none⟩ u1).setCell ⟨g, 2, none⟩ u2).ownsRow B e s v n xs :=
  own_at h ((at_put _ _ _ _).trans ((at_put _ _ _ _).trans (at_put _ _ _ _))) (fun k => by have := (h.lt g k).1; omega)
end Go.Proofs.Ytfkcogocaecodaa
namespace Go.Proofs.Ytfkcogocaecodaa
open Go.ChangeShapes Go.WideShapes Go.Deep Go.RowKit Go.Joins
set_option linter.unusedVariables false
set_option maxRecDepth 100000
theorem i64_of_wf {n : Int} (h : (Lit.int .i64 n).wf = true) : I64 n := by
  simp [Lit.wf, IntKind.min, IntKind.max, IntKind.bits, IntKind.signed] at h
  unfold I64; omega
theorem u8_of_wf {n : Int} (h : (Lit.int .u8 n).wf = true) : 0 ≤ n ∧ n ≤ 255 := by
  simp [Lit.wf, IntKind.min, IntKind.max, IntKind.bits, IntKind.signed] at h
  omega
theorem u16_of_wf {n : Int} (h : (Lit.int .u16 n).wf = true) : 0 ≤ n ∧ n ≤ 65535 := by
  simp [Lit.wf, IntKind.min, IntKind.max, IntKind.bits, IntKind.signed] at h
  omega
section
variable {H : Type} {enc : TypeId × Value → H} {P : Program} {w : World} {base : Nat} {spare : Nat → Bool} {held : Bool}
theorem trod_struct5 {t : TypeId} {f0 f1 f2 f3 f4 : Field} {fuel : Nat} {cs : List Value} {x : DataW H × List MemPlace} (ht : P.underlying t = some (.struct #[f0, f1, f2, f3, f4])) (h : DataW.trod enc P w base spare held fuel t cs = some x) :
    ∃ y0 y1 y2 y3 y4 n, DataW.trod enc P w base spare held n f0.type ((cs.drop f0.offset).take (P.cellsOf f0.type)) = some y0 ∧
      DataW.trod enc P w base spare held n f1.type ((cs.drop f1.offset).take (P.cellsOf f1.type)) = some y1 ∧ DataW.trod enc P w base spare held n f2.type ((cs.drop f2.offset).take (P.cellsOf f2.type)) = some y2 ∧
      DataW.trod enc P w base spare held n f3.type ((cs.drop f3.offset).take (P.cellsOf f3.type)) = some y3 ∧ DataW.trod enc P w base spare held n f4.type ((cs.drop f4.offset).take (P.cellsOf f4.type)) = some y4 := by
  obtain ⟨xs, n, _, rfl, hl, hlen, hf⟩ := DataW.trod_struct ht h
  match xs, hlen with
  | [y0, y1, y2, y3, y4], _ => exact ⟨y0, y1, y2, y3, y4, n, by simpa using hf 0 f0 rfl, by simpa using hf 1 f1 rfl, by simpa using hf 2 f2 rfl, by simpa using hf 3 f3 rfl, by simpa using hf 4 f4 rfl⟩
end
theorem cells3 : Try.prog.cellsOf 3 = 1 := by kernel_rfl
theorem cells9 : Try.prog.cellsOf 9 = 1 := by kernel_rfl
theorem cells27 : Try.prog.cellsOf 47 = 1 := by kernel_rfl
theorem cells32 : Try.prog.cellsOf 49 = 5 := by kernel_rfl
theorem five_cells {cs : Array Value} (h : cs.size = 5) : ∃ c0 c1 c2 c3 c4, cs = #[c0, c1, c2, c3, c4] := by
  obtain ⟨l⟩ := cs
  match l, h with
  | [c0, c1, c2, c3, c4], _ => exact ⟨c0, c1, c2, c3, c4, rfl⟩
theorem list_cells {H : Type} {enc : TypeId × Value → H} {w : World} {fuel : Nat} {c : Value} {y : DataW H × List MemPlace} (hf : DataW.trod enc Try.prog w 0 (fun _ => true) true fuel 47 [c] = some y) :
    ∃ (p : Option Addr) (l : List Int) (cap : Nat), c = .slice p l.length cap ∧ Rdz w (.slice p l.length cap) l ∧ l.length ≤ maxLen := by
  rcases open_slice Try.underlying47 hf with ⟨hc, -⟩ | ⟨a', len, cap, m, n', D, Pl, hc, -, hl, hm, hmm, -, hi⟩
  · simp at hc
    subst hc
    exact ⟨none, [], 0, rfl, ⟨none, 0, rfl, fun j hj => absurd hj (Nat.not_lt_zero j)⟩, Nat.zero_le _⟩
  · simp at hc
    subst hc
    have hm' : m = cap := by simpa using hmm
    subst hm'
    have k : ∀ i, i < len → ∃ x : Int, w.cell? (a'.add i) = some (.int .i64 x) := by
      intro i hin
      obtain ⟨cs', hc, ht⟩ := hi i (by omega)
      rw [cells3] at hc
      obtain ⟨_, hcl, hat⟩ := World.cells?_some hc
      have hv0 : cs'[0]? = some (cs'[0]'(by omega)) := List.getElem?_eq_getElem (by omega)
      have e0 : cs' = [cs'[0]'(by omega)] := by
        cases cs' with
        | nil => simp at hcl
        | cons x t =>
          cases t with
          | nil => rfl
          | cons y r => simp at hcl
      rw [e0] at ht
      obtain ⟨x0, f0, -, w0⟩ := DataW.trod_int Try.underlying3 ht
      simp at f0
      have c0 := hat 0 (by omega)
      rw [hv0, f0] at c0
      refine ⟨x0, ?_⟩
      rw [show a'.add i = (a'.add (i * 1)).add 0 by rw [Nat.mul_one]; simp [Addr.add]]
      exact c0
    obtain ⟨F, hF⟩ := choose_lt k
    refine ⟨some a', (List.range len).map F, m, by simp, ⟨some a', m, rfl, fun j hj => ⟨a', rfl, ?_⟩⟩, by simp; omega⟩
    have hjn : j < len := by simpa using hj
    have := hF j hjn
    simpa using this
theorem bar_open {H : Type} {enc : TypeId × Value → H} {w : World} {r : Reach} {b0 : Nat} {v : Value} {d : DataW H} {ps : List MemPlace}
    (hv : Value.okWide Try.prog w r b0 49 v) (h : DataW.Trod enc Try.prog w 0 (fun _ => true) true 49 v d ps) :
    ∃ b : Bar, v = b.val ∧ b.Ok w := by
  obtain ⟨cs, rfl, hsz⟩ := okWide_struct Try.underlying49 hv
  obtain ⟨c0, c1, c2, c3, c4, rfl⟩ := five_cells (hsz.trans cells32)
  obtain ⟨fuel, hf⟩ := h
  simp only [Value.cells] at hf
  obtain ⟨y0, y1, y2, y3, y4, n, h0, h1, h2, h3, h4⟩ := trod_struct5 Try.underlying49 hf
  rw [cells9] at h0
  rw [cells3] at h1 h2 h3
  rw [cells27] at h4
  simp at h0 h1 h2 h3 h4
  obtain ⟨s, e0, -, hs⟩ := DataW.trod_string Try.underlying9 h0
  obtain ⟨n1, e1, -, -⟩ := DataW.trod_int Try.underlying3 h1
  obtain ⟨n2, e2, -, -⟩ := DataW.trod_int Try.underlying3 h2
  obtain ⟨n3, e3, -, -⟩ := DataW.trod_int Try.underlying3 h3
  simp at e0 e1 e2 e3
  subst e0 e1 e2 e3
  obtain ⟨p, l, cap, e4, hr, hl⟩ := list_cells h4
  subst e4
  exact ⟨⟨s, n1, n2, n3, p, l, cap⟩, rfl, ⟨hs, hl, hr⟩⟩
end Go.Proofs.Ytfkcogocaecodaa
namespace Go.Proofs.Ytfkcogocaecodaa
open Go.ChangeShapes Go.WideShapes Go.ChangeAt Go.RowKit
set_option linter.unusedVariables false
set_option linter.unusedSimpArgs false

end Go.Proofs.Ytfkcogocaecodaa
namespace Go.Proofs.Ytfkcogocaecodaa
open Go.ChangeShapes Go.WideShapes Go.ChangeAt Go.RowKit
set_option linter.unusedVariables false
set_option linter.unusedSimpArgs false

theorem rdz_fn {w : World} {p : Option Addr} {n cap : Nat} {l : List Int} (h : Rdz w (.slice p n cap) l) (hl : l.length = n) (hn : 0 < n) : ∃ a : Addr, p = some a ∧ ∀ j (hj : j < l.length), w.cell? (a.add j) = some (.int .i64 l[j]) := by
  obtain ⟨q, c, e, k⟩ := h
  simp only [Value.slice.injEq] at e
  obtain ⟨rfl, -, rfl⟩ := e
  obtain ⟨a, rfl, -⟩ := k 0 (by omega)
  refine ⟨a, rfl, fun j hj => ?_⟩
  obtain ⟨a', e, h⟩ := k j hj
  cases e; exact h
theorem Own.fn {B : Nat} {w : World} {v : Value} {l : List Pt} (h : Own pc 24 3 B w v l) (hl : 0 < l.length) : ∃ g cap, v = .slice (some ⟨g, 0, none⟩) l.length cap ∧ ∀ k (hk : k < l.length), w.cell? ⟨g, k * 3, none⟩ = some (.int .i64 l[k].x) ∧ w.cell? ⟨g, k * 3 + 1, none⟩ = some (.int .i64 l[k].y) ∧ w.cell? ⟨g, k * 3 + 2, none⟩ = some (.int .i64 l[k].z) := by
  obtain ⟨q, c, rfl, k⟩ := Own.rd pl h
  obtain ⟨g, rfl, -⟩ := k 0 hl
  refine ⟨g, c, rfl, fun i hi => ?_⟩
  obtain ⟨g', e, hc⟩ := k i hi
  cases e
  have h0 := hc 0 (by omega)
  have h1 := hc 1 (by omega)
  have h2 := hc 2 (by omega)
  simp [pc] at h0 h1 h2
  exact ⟨h0, h1, h2⟩
theorem way_in {c : Int} (h : isC c = true) {k : Nat} (hk : k < nl c) : way c k = 88 ∨ way c k = 120 ∨ way c k = 89 ∨ way c k = 121 ∨ way c k = 90 := by
  rcases code_in h with rfl | rfl | rfl | rfl | rfl | rfl | rfl | rfl <;>
  · have hk' : k < 6 := Nat.lt_of_lt_of_le hk (nl_le h)
    revert hk
    rcases (by omega : k = 0 ∨ k = 1 ∨ k = 2 ∨ k = 3 ∨ k = 4 ∨ k = 5) with rfl | rfl | rfl | rfl | rfl | rfl <;> decide
theorem legs_sum {b : Bar} (h : barB b = true) : (legs b).sum ≤ 524288 := by
  obtain ⟨hC, hl, hf, -⟩ := barB_and h
  obtain ⟨mk, sz, ct, cd, p, ds, cap⟩ := b
  dsimp only at hC hl hf
  have hs := (fitB_sum _ _ (by omega) hf).2
  have hm := fitB_mem _ _ hf (by omega)
  rcases code_in hC with rfl | rfl | rfl | rfl | rfl | rfl | rfl | rfl
  · have hl' : ds.length = 1 := hl.trans (by kernel_rfl)
    match ds, hl' with
    | [d0], _ =>
      have e : legs ⟨mk, sz, ct, 0, p, [d0], cap⟩ = [d0] := by kernel_rfl
      rw [e]
      simp only [List.mem_cons, List.not_mem_nil, or_false, forall_eq_or_imp, forall_eq] at hm
      simp only [List.sum_cons, List.sum_nil] at hs ⊢
      omega
  · have hl' : ds.length = 2 := hl.trans (by kernel_rfl)
    match ds, hl' with
    | [d0, d1], _ =>
      have e : legs ⟨mk, sz, ct, 11, p, [d0, d1], cap⟩ = [d0, d1] := by kernel_rfl
      rw [e]
      simp only [List.mem_cons, List.not_mem_nil, or_false, forall_eq_or_imp, forall_eq] at hm
      simp only [List.sum_cons, List.sum_nil] at hs ⊢
      omega
  · have hl' : ds.length = 3 := hl.trans (by kernel_rfl)
    match ds, hl' with
    | [d0, d1, d2], _ =>
      have e : legs ⟨mk, sz, ct, 21, p, [d0, d1, d2], cap⟩ = [d0, d1, d2] := by kernel_rfl
      rw [e]
      simp only [List.mem_cons, List.not_mem_nil, or_false, forall_eq_or_imp, forall_eq] at hm
      simp only [List.sum_cons, List.sum_nil] at hs ⊢
      omega
  · have hl' : ds.length = 3 := hl.trans (by kernel_rfl)
    match ds, hl' with
    | [d0, d1, d2], _ =>
      have e : legs ⟨mk, sz, ct, 26, p, [d0, d1, d2], cap⟩ = [d0, d1, d2] := by kernel_rfl
      rw [e]
      simp only [List.mem_cons, List.not_mem_nil, or_false, forall_eq_or_imp, forall_eq] at hm
      simp only [List.sum_cons, List.sum_nil] at hs ⊢
      omega
  · have hl' : ds.length = 3 := hl.trans (by kernel_rfl)
    match ds, hl' with
    | [d0, d1, d2], _ =>
      have e : legs ⟨mk, sz, ct, 31, p, [d0, d1, d2], cap⟩ = [d0, d1, d2] := by kernel_rfl
      rw [e]
      simp only [List.mem_cons, List.not_mem_nil, or_false, forall_eq_or_imp, forall_eq] at hm
      simp only [List.sum_cons, List.sum_nil] at hs ⊢
      omega
  · have hl' : ds.length = 5 := hl.trans (by kernel_rfl)
    match ds, hl' with
    | [d0, d1, d2, d3, d4], _ =>
      have e : legs ⟨mk, sz, ct, 41, p, [d0, d1, d2, d3, d4], cap⟩ = [d0, d1, d2, d3, d4] := by kernel_rfl
      rw [e]
      simp only [List.mem_cons, List.not_mem_nil, or_false, forall_eq_or_imp, forall_eq] at hm
      simp only [List.sum_cons, List.sum_nil] at hs ⊢
      omega
  · have hl' : ds.length = 3 := hl.trans (by kernel_rfl)
    match ds, hl' with
    | [d0, d1, d2], _ =>
      have e : legs ⟨mk, sz, ct, 51, p, [d0, d1, d2], cap⟩ = [d2, d0, d1, d0, d1, d2] := by kernel_rfl
      rw [e]
      simp only [List.mem_cons, List.not_mem_nil, or_false, forall_eq_or_imp, forall_eq] at hm
      simp only [List.sum_cons, List.sum_nil] at hs ⊢
      omega
  · have hl' : ds.length = 3 := hl.trans (by kernel_rfl)
    match ds, hl' with
    | [d0, d1, d2], _ =>
      have e : legs ⟨mk, sz, ct, 98, p, [d0, d1, d2], cap⟩ = [d0, d1, d2, d1, d0] := by kernel_rfl
      rw [e]
      simp only [List.mem_cons, List.not_mem_nil, or_false, forall_eq_or_imp, forall_eq] at hm
      simp only [List.sum_cons, List.sum_nil] at hs ⊢
      omega
theorem pt_sum {b : Bar} (h : barB b = true) : ∀ k, k ≤ nl b.code → (pt b k).bd ((legs b).take k).sum ∧ 0 ≤ ((legs b).take k).sum
  | 0, _ => by simp [pt, Pt.bd]
  | k + 1, hk => by
    have h1 := pt_sum h k (by omega)
    have h2 := leg_bd h (j := k) (by omega)
    have h3 := mv_bd (c := way b.code k) h1.1 (n := legF b k) (by omega)
    have e : ((legs b).take (k + 1)).sum = ((legs b).take k).sum + legF b k := by
      rw [List.take_succ_eq_append_getElem (by rw [legs_len]; omega), List.sum_append]; simp [legs]
    rw [e]
    exact ⟨h3, by omega⟩
theorem take_le {b : Bar} (h : barB b = true) : ∀ k, k ≤ nl b.code → ((legs b).take (nl b.code - k)).sum ≤ (legs b).sum
  | 0, _ => by rw [Nat.sub_zero, List.take_of_length_le (by rw [legs_len]; omega)]; exact Int.le_refl _
  | k + 1, hk => by
    have h1 := take_le h k (by omega)
    have hj : nl b.code - (k + 1) < nl b.code := by omega
    have h2 := leg_bd h hj
    have e : ((legs b).take (nl b.code - k)).sum = ((legs b).take (nl b.code - (k + 1))).sum + legF b (nl b.code - (k + 1)) := by
      rw [show nl b.code - k = (nl b.code - (k + 1)) + 1 by omega, List.take_succ_eq_append_getElem (by rw [legs_len]; omega), List.sum_append]; simp [legs]
    omega
theorem pt_near {b : Bar} (h : barB b = true) {k : Nat} (hk : k ≤ nl b.code) : (pt b k).bd 524288 := by
  have h1 := (pt_sum h k hk).1
  have h2 := take_le h (nl b.code - k) (by omega)
  rw [show nl b.code - (nl b.code - k) = k by omega] at h2
  have h3 := legs_sum h
  unfold Pt.bd at h1 ⊢
  omega
end Go.Proofs.Ytfkcogocaecodaa
namespace Go.Proofs.Ytfkcogocaecodaa
open Go.ChangeShapes Go.WideShapes Go.ChangeAt Go.RowKit
set_option linter.unusedVariables false
set_option linter.unusedSimpArgs false

end Go.Proofs.Ytfkcogocaecodaa
namespace Go.Proofs.Ytfkcogocaecodaa
open Go.ChangeShapes Go.WideShapes Go.ChangeAt Go.RowKit
set_option linter.unusedVariables false
set_option linter.unusedSimpArgs false

end Go.Proofs.Ytfkcogocaecodaa
namespace Go.Proofs.Ytfkcogocaecodaa
open Go.ChangeShapes Go.WideShapes Go.ChangeAt Go.RowKit
set_option linter.unusedVariables false
set_option linter.unusedSimpArgs false

end Go.Proofs.Ytfkcogocaecodaa
namespace Go.Proofs.Ytfkcogocaecodaa
open Go.ChangeShapes Go.WideShapes Go.ChangeAt Go.RowKit
set_option linter.unusedVariables false
set_option linter.unusedSimpArgs false

end Go.Proofs.Ytfkcogocaecodaa
namespace Go.Proofs.Ytfkcogocaecodaa
open Go.ChangeShapes Go.WideShapes Go.ChangeAt Go.RowKit
set_option linter.unusedVariables false
set_option linter.unusedSimpArgs false

end Go.Proofs.Ytfkcogocaecodaa
namespace Go.Proofs.Ytfkcogocaecodaa
open Go.ChangeShapes Go.WideShapes Go.ChangeAt Go.RowKit
set_option linter.unusedVariables false
set_option linter.unusedSimpArgs false

end Go.Proofs.Ytfkcogocaecodaa
namespace Go.Proofs.Ytfkcogocaecodaa
open Go.ChangeShapes Go.WideShapes Go.ChangeAt Go.RowKit
set_option linter.unusedVariables false
set_option linter.unusedSimpArgs false

end Go.Proofs.Ytfkcogocaecodaa
namespace Go.Proofs.Ytfkcogocaecodaa
open Go.ChangeShapes Go.WideShapes Go.ChangeAt Go.RowKit
set_option linter.unusedVariables false
set_option linter.unusedSimpArgs false

end Go.Proofs.Ytfkcogocaecodaa
namespace Go.Proofs.Ytfkcogocaecodaa
open Go.ChangeShapes Go.WideShapes Go.ChangeAt Go.RowKit
set_option linter.unusedVariables false
set_option linter.unusedSimpArgs false

end Go.Proofs.Ytfkcogocaecodaa
namespace Go.Proofs.Ytfkcogocaecodaa
open Go.ChangeShapes Go.WideShapes Go.ChangeAt Go.RowKit
set_option linter.unusedVariables false
set_option linter.unusedSimpArgs false

set_option maxHeartbeats 4000000 in
set_option maxRecDepth 100000 in
theorem moved_any (p : Pt) (c n : Int) (w : World) (hp : p.bd 1000000000) (hn : 0 ≤ n ∧ n ≤ 1000000000) :
    Calls Try.prog 90 #[p.val, .int .u8 c, .int .i64 n] w fun e w' => e = .returned (mv p c n).val ∧ Below w.heap.size w w' := by
  obtain ⟨⟨a, b⟩, ⟨d, e⟩, f, g⟩ := hp
  have E := ((Env.nil w).add w.heap.size 24 #[.int .i64 p.x, .int .i64 p.y, .int .i64 p.z] rfl).add (w.heap.size + 1) 24 #[.int .i64 0, .int .i64 0, .int .i64 0] (by simp)
  have W1 : IntKind.i64.wrap (p.x + n) = p.x + n := IntWalk.i64_in _ (by omega)
  have W2 : IntKind.i64.wrap (p.x - n) = p.x - n := IntWalk.i64_in _ (by omega)
  have W3 : IntKind.i64.wrap (p.y + n) = p.y + n := IntWalk.i64_in _ (by omega)
  have W4 : IntKind.i64.wrap (p.y - n) = p.y - n := IntWalk.i64_in _ (by omega)
  have W5 : IntKind.i64.wrap (p.z + n) = p.z + n := IntWalk.i64_in _ (by omega)
  unfold mv Pt.val
  clear a b d e f g hn
  by_cases c0 : c = 88
  · subst c0
    try rw [if_neg (by decide)]
    try rw [if_neg (by decide)]
    try rw [if_neg (by decide)]
    try rw [if_neg (by decide)]
    try rw [if_pos rfl]
    go_enter Try.func90, Try.ntmps90
    go_wp2
    exact bodyPost_ret (v := .agg #[.int .i64 (p.x + n), .int .i64 (p.y), .int .i64 (p.z)]) (by simp [results, Try.results90, go_sem]) rfl ⟨rfl, al (al1 w _) _⟩
  rw [if_neg c0]
  have b0 := beq_eq_false_iff_ne.2 c0
  by_cases c1 : c = 120
  · subst c1
    try rw [if_neg (by decide)]
    try rw [if_neg (by decide)]
    try rw [if_neg (by decide)]
    try rw [if_neg (by decide)]
    try rw [if_pos rfl]
    go_enter Try.func90, Try.ntmps90
    go_wp2
    exact bodyPost_ret (v := .agg #[.int .i64 (p.x - n), .int .i64 (p.y), .int .i64 (p.z)]) (by simp [results, Try.results90, go_sem]) rfl ⟨rfl, al (al1 w _) _⟩
  rw [if_neg c1]
  have b1 := beq_eq_false_iff_ne.2 c1
  by_cases c2 : c = 89
  · subst c2
    try rw [if_neg (by decide)]
    try rw [if_neg (by decide)]
    try rw [if_neg (by decide)]
    try rw [if_neg (by decide)]
    try rw [if_pos rfl]
    go_enter Try.func90, Try.ntmps90
    go_wp2
    exact bodyPost_ret (v := .agg #[.int .i64 (p.x), .int .i64 (p.y + n), .int .i64 (p.z)]) (by simp [results, Try.results90, go_sem]) rfl ⟨rfl, al (al1 w _) _⟩
  rw [if_neg c2]
  have b2 := beq_eq_false_iff_ne.2 c2
  by_cases c3 : c = 121
  · subst c3
    try rw [if_neg (by decide)]
    try rw [if_neg (by decide)]
    try rw [if_neg (by decide)]
    try rw [if_neg (by decide)]
    try rw [if_pos rfl]
    go_enter Try.func90, Try.ntmps90
    go_wp2
    exact bodyPost_ret (v := .agg #[.int .i64 (p.x), .int .i64 (p.y - n), .int .i64 (p.z)]) (by simp [results, Try.results90, go_sem]) rfl ⟨rfl, al (al1 w _) _⟩
  rw [if_neg c3]
  have b3 := beq_eq_false_iff_ne.2 c3
  by_cases c4 : c = 90
  · subst c4
    try rw [if_neg (by decide)]
    try rw [if_neg (by decide)]
    try rw [if_neg (by decide)]
    try rw [if_neg (by decide)]
    try rw [if_pos rfl]
    go_enter Try.func90, Try.ntmps90
    go_wp2
    exact bodyPost_ret (v := .agg #[.int .i64 (p.x), .int .i64 (p.y), .int .i64 (p.z + n)]) (by simp [results, Try.results90, go_sem]) rfl ⟨rfl, al (al1 w _) _⟩
  rw [if_neg c4]
  have b4 := beq_eq_false_iff_ne.2 c4
  go_enter Try.func90, Try.ntmps90
  go_wp2
  exact bodyPost_ret (v := .agg #[.int .i64 (p.x), .int .i64 (p.y), .int .i64 (p.z)]) (by simp [results, Try.results90, go_sem]) rfl ⟨rfl, al (al1 w _) _⟩
end Go.Proofs.Ytfkcogocaecodaa
namespace Go.Proofs.Ytfkcogocaecodaa
open Go.ChangeShapes Go.WideShapes Go.ChangeAt Go.RowKit
set_option linter.unusedVariables false
set_option linter.unusedSimpArgs false

theorem info40 : (Try.prog.info? 24).map (fun i => (i.zero, i.size, i.bytes)) = some (some (.agg #[.int .i64 0, .int .i64 0, .int .i64 0]), 3, 24) := by kernel_rfl
set_option maxHeartbeats 4000000 in
set_option maxRecDepth 100000 in
theorem Path_no (b : Bar) (w : World) (hk : b.Ok w) (hv : barB b = false) : Calls Try.prog 82 #[b.val] w fun e w' => e = .returned (.tuple #[.slice none 0 0, .int .i64 1]) ∧ Below w.heap.size w w' := by
  have hV := fun W (h : Below w.heap.size w W) => Legs_no b W (hk.on h) hv
  have E := (Env.nil w).add w.heap.size 49 b.cs rfl
  obtain ⟨mk, sz, ct, cd, p, ds, cap⟩ := b
  simp only [Bar.cs, Bar.val] at *
  have C := E.cells
  simp [BC, CF] at C
  clear hk hv
  go_enter Try.func82, Try.ntmps82
  go_wp2_with (go_at_call 19; (with_reducible refine (hV _ (envb E)).mono ?_); rintro X w1 ⟨rfl, hb⟩; replace E := E.on hb; clear hb)
  exact bodyPost_ret (v := .tuple #[.slice none 0 0, .int .i64 1]) (by simp [results, Try.results82, go_sem]) rfl ⟨rfl, E.1⟩
set_option maxHeartbeats 8000000 in
set_option maxRecDepth 100000 in
theorem Path_ok (b : Bar) (w : World) (hk : b.Ok w) (hv : barB b = true) : Calls Try.prog 82 #[b.val] w fun e w' =>
    ∃ v, e = .returned (.tuple #[v, .int .i64 0]) ∧ Own pc 24 3 w.heap.size w' v (pts b) ∧ Below w.heap.size w w' := by
  have hV := fun W (h : Below w.heap.size w W) => Legs_ok b W (hk.on h) hv
  have E := (Env.nil w).add w.heap.size 49 b.cs rfl
  obtain ⟨h1, h2, -⟩ := barB_and hv
  have hD := fun W => dir_any b.code W
  have n2 := nl_le h1
  have hs : ((⟨(dirS b.code).toArray⟩ : ByteArray).size : Nat) = nl b.code := by simp [ByteArray.size, nl]
  have hI : ∀ k, k < nl b.code → ∀ W, Sem.run Try.prog (Instr.index 9 (.string ⟨(dirS b.code).toArray⟩) (.int .i64 k)) W = .ok (.int .u8 (way b.code k)) W := fun k h W => str_at _ k h W
  have hM : ∀ k, k < nl b.code → ∀ W, Calls Try.prog 90 #[(pt b k).val, .int .u8 (way b.code k), .int .i64 (legF b k)] W fun e w' => e = .returned (pt b (k + 1)).val ∧ Below W.heap.size W w' := fun k h W =>
    moved_any (pt b k) (way b.code k) (legF b k) W (by have := pt_big hv (k := k) (by omega); unfold Pt.bd at this ⊢; omega) (by have := leg_bd hv h; omega)
  have hP : pts b = (List.range (nl b.code + 1)).map (pt b) := rfl
  have hL : legs b = (List.range (nl b.code)).map (legF b) := rfl
  have hp0 : pt b 0 = ⟨0, 0, 0⟩ := rfl
  have HP := Lib.hid hP
  have HL := Lib.hid hL
  have HI := Lib.hid hI
  have HM := Lib.hid hM
  have HP0 := Lib.hid hp0
  clear hI hM hP hL h2 hv hp0
  generalize legs b = LS at *
  generalize legF b = lf at *
  generalize pts b = PS at *
  generalize pt b = pf at *
  have hcs : b.cs = #[.string b.mark, .int .i64 b.size, .int .i64 b.count, .int .i64 b.code, .slice b.p b.ds.length b.cap] := rfl
  have hvv : b.val = .agg b.cs := rfl
  rw [hcs] at E hvv
  rw [hvv] at hV ⊢
  clear hk h1 hcs hvv
  generalize way b.code = wy at *
  generalize (⟨(dirS b.code).toArray⟩ : ByteArray) = D at *
  generalize nl b.code = n at *
  generalize mc b.code = m at *
  have C := E.cells
  simp [BC, CF] at C
  go_enter Try.func82, Try.ntmps82
  go_upto_region 4 with (go_at_call 19; (with_reducible refine (hV _ (envb E)).mono ?_); rintro X w1 ⟨gL, rfl, hR, hb⟩; replace E := E.on hb; clear hb; replace C := E.cells; simp [BC, CF] at C)
  have E3 := (Env.nil w1).add w1.heap.size 24 #[.int .i64 0, .int .i64 0, .int .i64 0] rfl
  have HR := Lib.hid hR
  have EW := E
  have hO0 : Own pc 24 3 (w1.heap.size + 1) ((w1.alloc (.cells #[.int .i64 0, .int .i64 0, .int .i64 0] 24)).alloc (.cells #[.int .i64 0, .int .i64 0, .int .i64 0] 24)) (.slice (some ⟨w1.heap.size + 1, 0, none⟩) 1 1) ((List.range (0 + 1)).map pf) := by
    unfold Own
    have e : ((List.range (0 + 1)).map pf).flatMap pc = (#[.int .i64 0, .int .i64 0, .int .i64 0] : Array Value).toList := by simp [pc, HP0.out]
    rw [e]
    refine own_lit (n := 1) ?_ rfl (Nat.le_refl _) (by decide)
    have h := Has.new_ (w1.alloc (.cells #[.int .i64 0, .int .i64 0, .int .i64 0] 24)) 24 #[.int .i64 0, .int .i64 0, .int .i64 0]
    rwa [show (w1.alloc (.cells #[.int .i64 0, .int .i64 0, .int .i64 0] 24)).heap.size = w1.heap.size + 1 by simp] at h
  have E4 := E3.more (.cells #[.int .i64 0, .int .i64 0, .int .i64 0] 24)
  obtain ⟨i0, hinf, hz0, hz1, hz2⟩ := info_parts info40
  go_wp2_with (go_at_call 60; (with_reducible refine (hD _).mono ?_); rintro X w2 ⟨rfl, rfl⟩)
  go_loopw [7, 26] (fun v7 v26 wr => ∃ (k : Nat) (F : Value), v26 = .int .i64 k ∧ F = v7 ∧ k ≤ n ∧ Env w1 wr [⟨w1.heap.size, 24, #[.int .i64 (pf k).x, .int .i64 (pf k).y, .int .i64 (pf k).z]⟩] ∧ Own pc 24 3 (w1.heap.size + 1) wr F ((List.range (k + 1)).map pf)) (fun _ v _ => n - (intOf v).toNat)
  case atStart => exact ⟨0, _, rfl, rfl, Nat.zero_le _, (by rw [HP0.out]; exact E4), hO0⟩
  case round =>
    clear E E3 E4 hO0 C
    obtain ⟨k, F, rfl, rfl, hk, E, hO⟩ := hrel
    have C := E.cells
    simp [BC, CF] at C
    have hsz := E.1.size
    have hsz2 := E.lt 0 (by simp)
    simp only [numB] at hsz2
    by_cases hlt : k < n
    · have g1 : decide ((k : Int) < (n : Int)) = true := by simp [hlt]
      have W1 : IntKind.i64.wrap ((k : Int) + 1) = ((k + 1 : Nat) : Int) := by rw [IntWalk.i64_in _ (by omega)]; omega
      have q1 : (0 : Int) ≤ (k : Int) := by omega
      have q2 : (k : Int) < (n : Int) := by omega
      obtain ⟨q, c, e0, hr⟩ := HR.out
      simp only [Value.slice.injEq] at e0
      obtain ⟨rfl, e1, -⟩ := e0
      obtain ⟨a, ea, d0⟩ := hr k (by omega)
      cases ea
      have d1 : w1.cell? ⟨gL, k, none⟩ = some (.int .i64 (lf k)) := by
        rw [Addr.add_lit, Nat.zero_add] at d0
        rw [d0]; simp [HL.out]
      have d2 := cell_later E.1 d1
      clear d0 d1 hr e1
      have hi := HI.out k hlt
      have hm := HM.out k hlt
      obtain ⟨⟨x1, y1, z1⟩, hP1⟩ : ∃ p : Pt, Hid (pf (k + 1) = p) := ⟨_, Lib.hid rfl⟩
      rw [hP1.out] at hm
      obtain ⟨⟨x0, y0, z0⟩, hP2⟩ : ∃ p : Pt, Hid (pf k = p) := ⟨_, Lib.hid rfl⟩
      rw [hP2.out] at hm E C
      have hl : Hid ((List.range (k + 1 + 1)).map pf = (List.range (k + 1)).map pf ++ [⟨x1, y1, z1⟩]) := Lib.hid (by rw [List.range_succ, List.map_append]; simp [hP1.out])
      have hlen : ((List.range (k + 1)).map pf).length = k + 1 := by simp
      generalize (List.range (k + 1)).map pf = O at *
      unfold Pt.val at hm
      dsimp only at hm C E
      go_upto_region 10 with fail
      refine wp_region_plan 9 [(0, true), (1, true), (2, true), (3, true), (4, true), (5, true), (6, true), (7, true), (8, false)] (fun W' => Env w1 W' [⟨w1.heap.size, 24, #[.int .i64 x0, .int .i64 y0, .int .i64 z0]⟩] ∧ W'.cell? ⟨w1.heap.size, 0, none⟩ = some (.int .i64 x0) ∧ W'.cell? ⟨w1.heap.size, 1, none⟩ = some (.int .i64 y0) ∧ W'.cell? ⟨w1.heap.size, 2, none⟩ = some (.int .i64 z0) ∧ W'.cell? ⟨gL, k, none⟩ = some (.int .i64 (lf k)) ∧ Own pc 24 3 (w1.heap.size + 1) W' F O) (by kernel_rfl) (by kernel_rfl) (fun _ _ d _ _ h => by cases d <;> exact h) ⟨E.drw, C.2.1.1, C.2.2.1.1, C.2.2.2.1, d2, hO⟩ ?_
      simp only [List.filterMap_cons, List.filterMap_nil, List.getElem?_cons_zero, List.getElem?_cons_succ, Option.map_some, List.drop_succ_cons, List.drop_zero]
      iterate 8 (first | (refine wpPlan_still (v := ?_) (Or.inl ⟨by rfl, ?_⟩) ?_; rotate_left; (focus (intro W hW; (try dsimp only at hW); go_split_ands; go_simp; try with_reducible rfl)); try simp only [Act.put, List.setIfInBounds_toArray, List.set_cons_zero, List.set_cons_succ]) | (refine wpPlan_still (Or.inr ⟨by rfl, rfl⟩) ?_; try simp only [Act.put, List.setIfInBounds_toArray, List.set_cons_zero, List.set_cons_succ]))
      refine wpPlan_only (fun K hK => ?_)
      try go_simp
      (go_at_call 90; (with_reducible refine (hm _).mono ?_); rintro X w4 ⟨rfl, hb⟩)
      replace E := E.drw.on hb
      replace C := E.cells
      simp [BC, CF] at C
      replace hO := own_on hO (show Below wr.heap.size wr w4 from belows (below_dr (Below.refl _ _)) hb)
      replace d2 := cell_later (belows (below_dr (Below.refl wr.heap.size wr)) hb) d2
      clear hb
      refine hK.out _ _ ⟨E, C.2.1.1, C.2.2.1.1, C.2.2.2.1, d2, hO⟩ ?_
      clear hK K
      try simp only [Act.put, List.setIfInBounds_toArray, List.set_cons_zero, List.set_cons_succ]
      refine wpPlan_end ?_
      go_upto_region 11 with fail
      replace E := E.three (u0 := .int .i64 x1) (u1 := .int .i64 y1) (u2 := .int .i64 z1) 0 rfl
      replace hO := own_three (g := w1.heap.size) (u0 := .int .i64 x1) (u1 := .int .i64 y1) (u2 := .int .i64 z1) hO (by omega)
      simp only [numB] at E
      generalize (((w4.setCell ⟨w1.heap.size, 0, none⟩ (.int .i64 x1)).setCell ⟨w1.heap.size, 1, none⟩ (.int .i64 y1)).setCell ⟨w1.heap.size, 2, none⟩ (.int .i64 z1)) = w5 at *
      replace E : Env w1 w5 [⟨w1.heap.size, 24, #[.int .i64 x1, .int .i64 y1, .int .i64 z1]⟩] := E
      replace C := E.cells
      simp [BC, CF] at C
      clear d2 hi hm
      have hs5 := E.lt 0 (by simp)
      simp only [numB] at hs5
      go_wp2_with (at_builtin; refine wpList_append_own_at _ rfl _ _ 81 rfl (w1.heap.size + 1) 24 i0 _ 3 24 Try.underlying81 hinf hz0 hz1 hz2 rfl (by decide) _ O.length (O.flatMap pc) rfl (own_on hO (al1 _ _)) ⟨_, 0, none⟩ 1 1 [.int .i64 x1, .int .i64 y1, .int .i64 z1] rfl rfl (World.news_of_block (cs := #[.int .i64 x1, .int .i64 y1, .int .i64 z1]) (t := 24) (fr := (0, 0)) (heap_alloc_new w5 _)) (by simp [Value.oneCell']) (by unfold maxLen; omega) (by omega) (by simp; omega) ?_)
      intro v' w6 p1 p2 p3 p4
      have O5 : Own pc 24 3 (w1.heap.size + 1) w6 v' (O ++ [⟨x1, y1, z1⟩]) := own_snoc (by rw [hlen]; exact p1)
      have E5 := env_row (E.more _) p2 (fun k hk => (World.ownsRow.lt hO k hk).1)
      clear p1 p2 p3 p4 hO E
      go_wp2
      go_roundw
      · exact ⟨k + 1, _, rfl, rfl, hlt, (by rw [hP1.out]; exact E5), (by rw [hl.out]; exact O5)⟩
      · simp [intOf]; omega
    · have g1 : decide ((k : Int) < (n : Int)) = false := by simp; omega
      obtain rfl : k = n := by omega
      have HO := hO.mono (B' := w.heap.size) (by have := EW.1.size; omega)
      rw [← HP.out] at HO
      have HB : Below w.heap.size w wr := belows EW.1 E.1
      clear hO E EW
      go_wp2
      exact bodyPost_ret (v := .tuple #[_, .int .i64 0]) (by simp [results, Try.results82, go_sem]) rfl ⟨_, rfl, HO, HB⟩
end Go.Proofs.Ytfkcogocaecodaa
namespace Go.Proofs.Ytfkcogocaecodaa
open Go.ChangeShapes Go.WideShapes Go.ChangeAt Go.RowKit
set_option linter.unusedVariables false
set_option linter.unusedSimpArgs false

/-- The bars that lie in a row of cells. -/
def Fr5 (w : World) (a : Addr) (b : Bar) : Prop := w.cell? a = some (.string b.mark) ∧ w.cell? ⟨a.block, a.off + 1, none⟩ = some (.int .i64 b.size) ∧ w.cell? ⟨a.block, a.off + 2, none⟩ = some (.int .i64 b.count) ∧ w.cell? ⟨a.block, a.off + 3, none⟩ = some (.int .i64 b.code) ∧ w.cell? ⟨a.block, a.off + 4, none⟩ = some (.slice b.p b.ds.length b.cap)
theorem Fr5.on {w w1 : World} {a : Addr} {b : Bar} (h : Fr5 w a b) (hb : Below w.heap.size w w1) : Fr5 w1 a b :=
  ⟨cell_later hb h.1, cell_later hb h.2.1, cell_later hb h.2.2.1, cell_later hb h.2.2.2.1, cell_later hb h.2.2.2.2⟩
structure Slb (w : World) (p : Option Addr) (l : List Bar) (cap : Nat) : Prop where
  cp : l.length ≤ cap
  mx : l.length ≤ maxLen
  at_ : ∀ k (h : k < l.length), ∃ a, p = some a ∧ Fr5 w (a.add (k * 5)) l[k]
  ok : ∀ b ∈ l, b.Ok w
theorem Slb.on {w w1 : World} {p : Option Addr} {l : List Bar} {cap : Nat} (h : Slb w p l cap) (hb : Below w.heap.size w w1) : Slb w1 p l cap :=
  ⟨h.cp, h.mx, fun k hk => (h.at_ k hk).imp fun a e => ⟨e.1, e.2.on hb⟩, fun b hm => (h.ok b hm).on hb⟩
theorem Slb.take {w : World} {p : Option Addr} {l : List Bar} {cap : Nat} (h : Slb w p l cap) (n : Nat) : Slb w p (l.take n) cap :=
  ⟨by have := h.cp; simp; omega, by have := h.mx; simp; omega, fun k hk => by
    have hk' : k < l.length := by simp at hk; omega
    obtain ⟨a, e, f⟩ := h.at_ k hk'
    exact ⟨a, e, by rw [List.getElem_take]; exact f⟩, fun b hm => h.ok b (List.mem_of_mem_take hm)⟩
theorem Slb.nil (w : World) : Slb w none [] 0 := ⟨Nat.le_refl _, Nat.zero_le _, fun k h => absurd h (Nat.not_lt_zero k), fun b h => by cases h⟩
theorem eqN_iff {a b : ByteArray} : (a.toList == b.toList) = true ↔ a = b := by
  rw [beq_iff_eq]
  constructor
  · intro h
    rw [Lib.toList_data, Lib.toList_data] at h
    cases a; cases b
    simp at h
    rename_i x y
    cases x; cases y
    simp at h
    subst h; rfl
  · rintro rfl; rfl
/-- Where the first bar with a mark stands. -/
def fnd (m : ByteArray) (l : List Bar) : Nat := l.findIdx fun b => b.mark.toList == m.toList
theorem fnd_le (m : ByteArray) (l : List Bar) : fnd m l ≤ l.length := List.findIdx_le_length
theorem fnd_at {m : ByteArray} {l : List Bar} (h : fnd m l < l.length) : (l[fnd m l].mark.toList == m.toList) = true := List.findIdx_getElem (w := h)
theorem fnd_lt {m : ByteArray} {l : List Bar} {k : Nat} (h : k < fnd m l) (hk : k < l.length) : (l[k].mark.toList == m.toList) = false := by
  have := List.not_of_lt_findIdx h
  simpa using this
def fndV (m : ByteArray) (l : List Bar) : Int := if fnd m l < l.length then (fnd m l : Int) else -1
theorem envbb {w0 wr W : World} {l : List Fb} (hB : Below w0.heap.size w0 wr) (E : Env wr W l) : Below w0.heap.size w0 W := belows hB E.1
theorem hd1 {w W : World} {g : Nat} {t : TypeId} {v : Value} {l : List Fb} (E : Env w W (⟨g, t, #[v]⟩ :: l)) : W.cell? ⟨g, 0, none⟩ = some v := E.cells.1.2.1.1
theorem clo66 (b : Bar) (m : ByteArray) (c : Nat) (w : World) (hc : w.cell? ⟨c, 0, none⟩ = some (.string m)) :
    Calls Try.prog 80 #[b.val, .pointer (some ⟨c, 0, none⟩)] w fun e w' => e = .returned (.bool (b.mark.toList == m.toList)) ∧ Below w.heap.size w w' := by
  have b1 := al1 w (.cells b.cs 49)
  have cc := cell_later b1 hc
  have E := (Env.nil w).add w.heap.size 49 b.cs rfl
  have C := E.cells
  unfold Bar.val
  obtain ⟨mk, sz, ct, cd, p, ds, cap⟩ := b
  simp only [Bar.cs] at *
  simp [BC, CF] at C
  go_enter Try.func80, Try.ntmps80
  go_wp2
  go_ret
  exact ⟨rfl, b1⟩
theorem vcs (b : Bar) : b.val = .agg #[.string b.mark, .int .i64 b.size, .int .i64 b.count, .int .i64 b.code, .slice b.p b.ds.length b.cap] := rfl
theorem bcs (b : Bar) : b.cs = #[.string b.mark, .int .i64 b.size, .int .i64 b.count, .int .i64 b.code, .slice b.p b.ds.length b.cap] := rfl
set_option maxRecDepth 100000 in
theorem idx66 (c : Nat) (m : ByteArray) (p : Option Addr) (l : List Bar) (cap : Nat) (w : World) (hS : Slb w p l cap) (hc : w.cell? ⟨c, 0, none⟩ = some (.string m)) :
    Calls Try.prog 17 #[.slice p l.length cap, .func (.func 80) #[] #[.pointer (some ⟨c, 0, none⟩)]] w fun e w' => e = .returned (.int .i64 (fndV m l)) ∧ Below w.heap.size w w' := by
  have hle := fnd_le m l
  have hm := hS.mx
  unfold maxLen at hm
  have HF := Lib.hid (fun k h hk => fnd_lt (m := m) (l := l) (k := k) h hk)
  have HA := Lib.hid (fun h => fnd_at (m := m) (l := l) h)
  obtain ⟨R, hR⟩ : ∃ R : Int, R = fndV m l := ⟨_, rfl⟩
  rw [← hR]
  have HR0 := Lib.hid hR
  clear hR
  go_enter Try.func17, Try.ntmps17
  go_wp2
  go_loopw [8] (fun v wr => ∃ k : Nat, v = .int .i64 k ∧ k ≤ fnd m l ∧ Below w.heap.size w wr) (fun v _ => l.length - (intOf v).toNat)
  case atStart => exact ⟨0, rfl, Nat.zero_le _, Below.refl _ _⟩
  case round =>
    obtain ⟨k, rfl, hk, hB⟩ := hrel
    by_cases hlt : k < l.length
    · have g1 : decide ((k : Int) < (l.length : Int)) = true := by simp [hlt]
      have W1 : IntKind.i64.wrap ((k : Int) + 1) = ((k + 1 : Nat) : Int) := by rw [IntWalk.i64_in _ (by omega)]; omega
      have q1 : (0 : Int) ≤ (k : Int) := by omega
      have q2 : (k : Int) < (l.length : Int) := by omega
      obtain ⟨a, rfl, c0, c1, c2, c3, c4⟩ := (hS.on hB).at_ k hlt
      have hf := clo66 l[k] m c wr (cell_later hB hc)
      rw [vcs] at hf
      by_cases he : k = fnd m l
      · have hx : (l[k].mark.toList == m.toList) = true := by subst he; exact HA.out hlt
        have hlt2 : fnd m l < l.length := by omega
        have HR : Hid (R = (k : Int)) := Lib.hid (by rw [HR0.out, fndV, if_pos hlt2, he])
        rw [hx] at hf
        clear hx hlt2 he
        generalize l[k].mark = mk at *
        generalize l[k].size = sz at *
        generalize l[k].count = ct at *
        generalize l[k].code = cd at *
        generalize l[k].ds.length = dl at *
        generalize l[k].cap = dc at *
        generalize l[k].p = dp at *
        go_wp2_with (go_at_call 80; (with_reducible refine hf.mono ?_); rintro e1 w1 ⟨rfl, b1⟩)
        go_ret
        exact ⟨by rw [HR.out]; rfl, belows hB b1⟩
      · have hx : (l[k].mark.toList == m.toList) = false := HF.out k (by omega) hlt
        have hk2 : k + 1 ≤ fnd m l := by omega
        rw [hx] at hf
        clear hx he
        generalize l[k].mark = mk at *
        generalize l[k].size = sz at *
        generalize l[k].count = ct at *
        generalize l[k].code = cd at *
        generalize l[k].ds.length = dl at *
        generalize l[k].cap = dc at *
        generalize l[k].p = dp at *
        go_wp2_with (go_at_call 80; (with_reducible refine hf.mono ?_); rintro e1 w1 ⟨rfl, b1⟩)
        exact ⟨⟨k + 1, rfl, hk2, belows hB b1⟩, by simp [intOf]; omega⟩
    · have g1 : decide ((k : Int) < (l.length : Int)) = false := by simp; omega
      have HR : Hid (R = -1) := Lib.hid (by rw [HR0.out, fndV, if_neg (by omega)])
      go_wp2
      go_ret
      exact ⟨by rw [HR.out]; rfl, hB⟩
theorem indexOf_any (p : Option Addr) (l : List Bar) (cap : Nat) (m : ByteArray) (w : World) (hS : Slb w p l cap) :
    Calls Try.prog 67 #[.slice p l.length cap, .string m] w fun e w' => e = .returned (.int .i64 (fndV m l)) ∧ Below w.heap.size w w' := by
  have b1 := al1 w (.cells #[.string m] 9)
  have E := (Env.nil w).add w.heap.size 9 #[.string m] rfl
  have C := E.cells
  simp [BC, CF] at C
  have h65 := fun W (h : Below w.heap.size w W) hc => idx66 w.heap.size m p l cap W (hS.on h) hc
  generalize fndV m l = R at *
  go_enter Try.func67, Try.ntmps67
  go_wp2_with (go_at_call 17; (with_reducible refine (h65 _ (envb E) (hd1 E)).mono ?_); rintro e1 w1 ⟨rfl, hb⟩)
  go_ret
  exact ⟨rfl, belows E.1 hb⟩
def okAt (l : List Bar) (i : Nat) : Bool := match l[i]? with
  | some b => barB b && decide (fndV b.mark (l.take i) < 0)
  | none => true
def validL (l : List Bar) : Bool := decide (l.length ≤ 60) && (List.range l.length).all fun i => okAt l i
theorem okAt_eq {l : List Bar} {i : Nat} (h : i < l.length) : okAt l i = (barB l[i] && decide (fndV l[i].mark (l.take i) < 0)) := by
  unfold okAt
  rw [List.getElem?_eq_getElem h]
theorem s_b5 {w0 w : World} {l : List Fb} {h : Nat} {t : TypeId} {c0 c1 c2 c3 c4 : Value} (E : Env w0 w (⟨h, t, #[c0, c1, c2, c3, c4]⟩ :: l)) :
    Env w0 w (⟨h, t, #[c0, c1, c2, c3, c4]⟩ :: l) ∧ w.cell? ⟨h, 0, none⟩ = some c0 ∧ w.cell? ⟨h, 1, none⟩ = some c1 ∧ w.cell? ⟨h, 2, none⟩ = some c2 ∧ w.cell? ⟨h, 3, none⟩ = some c3 ∧ w.cell? ⟨h, 4, none⟩ = some c4 := by
  have C := E.cells
  simp [BC, CF] at C
  exact ⟨E, C.1.2.1.1, C.1.2.2.1.1, C.1.2.2.2.1.1, C.1.2.2.2.2.1.1, C.1.2.2.2.2.2.1⟩
set_option maxHeartbeats 4000000 in
set_option maxRecDepth 100000 in
theorem Valid_list (p : Option Addr) (l : List Bar) (cap : Nat) (w : World) (hS : Slb w p l cap) :
    Calls Try.prog 50 #[.slice p l.length cap] w fun e w' => e = .returned (.bool (validL l)) ∧ Below w.heap.size w w' := by
  by_cases hl : ¬ l.length ≤ 60
  · have hR : validL l = false := by simp [validL, hl]
    rw [hR]
    have g0 : decide ((l.length : Int) > 60) = true := by simp; omega
    clear hR hl
    go_enter Try.func50, Try.ntmps50
    go_wp2
    go_ret
    exact ⟨rfl, Below.refl _ _⟩
  rw [Decidable.not_not] at hl
  have g0 : decide ((l.length : Int) > 60) = false := by simp; omega
  have HV := Lib.hid (show validL l = (List.range l.length).all fun i => okAt l i by simp [validL, hl])
  have hc := hS.cp
  go_enter Try.func50, Try.ntmps50
  go_wp2
  go_loopw [10] (fun v wr => ∃ k : Nat, v = .int .i64 k ∧ k ≤ l.length ∧ Below w.heap.size w wr ∧ Hid (∀ i, i < k → okAt l i = true)) (fun v _ => l.length - (intOf v).toNat)
  case atStart => exact ⟨0, rfl, Nat.zero_le _, Below.refl _ _, Lib.hid (fun i h => absurd h (Nat.not_lt_zero i))⟩
  case round =>
    obtain ⟨k, rfl, hk, hB, HI⟩ := hrel
    by_cases hlt : k < l.length
    · have g1 : decide ((k : Int) < (l.length : Int)) = true := by simp [hlt]
      have W1 : IntKind.i64.wrap ((k : Int) + 1) = ((k + 1 : Nat) : Int) := by rw [IntWalk.i64_in _ (by omega)]; omega
      have q1 : (0 : Int) ≤ (k : Int) := by omega
      have q2 : (k : Int) < (l.length : Int) := by omega
      obtain ⟨a, rfl, c0, c1, c2, c3, c4⟩ := (hS.on hB).at_ k hlt
      have h40 := fun W (h : Below w.heap.size w W) => Valid_any l[k] W ((hS.ok _ (List.getElem_mem hlt)).on h)
      have h38 := fun W (h : Below w.heap.size w W) => indexOf_any (some a) (l.take k) cap l[k].mark W ((hS.on h).take k)
      have E := (Env.nil wr).add wr.heap.size 49 l[k].cs rfl
      have HO := Lib.hid (okAt_eq hlt)
      rw [bcs] at E
      rw [vcs] at h40
      rw [List.length_take_of_le hk] at h38
      have n1 : k ≤ cap := by omega
      have hA := Lib.hid hlt
      generalize l[k].mark = mk at *
      generalize l[k].size = sz at *
      generalize l[k].count = ct at *
      generalize l[k].code = cd at *
      generalize l[k].ds.length = dl at *
      generalize l[k].cap = dc at *
      generalize l[k].p = dp at *
      obtain ⟨tk, htk⟩ : ∃ tk, tk = l.take k := ⟨_, rfl⟩
      rw [← htk] at h38 HO
      clear htk
      generalize barB l[k] = vb at *
      generalize fndV mk tk = fv at *
      generalize hn : l.length = n at *
      cases vb
      · go_upto_region 6 with fail
        refine wp_region_plan 11 [(0, true), (1, false), (2, true), (3, true), (4, true), (5, true), (6, true), (7, true), (8, true), (9, false), (10, true)] (fun W' => Env wr W' [⟨wr.heap.size, 49, #[.string mk, .int .i64 sz, .int .i64 ct, .int .i64 cd, .slice dp dl dc]⟩] ∧ W'.cell? ⟨wr.heap.size, 0, none⟩ = some (.string mk) ∧ W'.cell? ⟨wr.heap.size, 1, none⟩ = some (.int .i64 sz) ∧ W'.cell? ⟨wr.heap.size, 2, none⟩ = some (.int .i64 ct) ∧ W'.cell? ⟨wr.heap.size, 3, none⟩ = some (.int .i64 cd) ∧ W'.cell? ⟨wr.heap.size, 4, none⟩ = some (.slice dp dl dc)) (by kernel_rfl) (by kernel_rfl) (fun _ _ d _ _ h => by cases d <;> exact h) (s_b5 E.drw) ?_
        simp only [List.filterMap_cons, List.filterMap_nil, List.getElem?_cons_zero, List.getElem?_cons_succ, Option.map_some, List.drop_succ_cons, List.drop_zero]
        replace E := E.drw
        iterate 1 (first | (refine wpPlan_still (v := ?_) (Or.inl ⟨by rfl, ?_⟩) ?_; rotate_left; (focus (intro W hW; (try dsimp only at hW); go_split_ands; go_simp; try with_reducible rfl)); try simp only [Act.put, List.setIfInBounds_toArray, List.set_cons_zero, List.set_cons_succ]) | (refine wpPlan_still (Or.inr ⟨by rfl, rfl⟩) ?_; try simp only [Act.put, List.setIfInBounds_toArray, List.set_cons_zero, List.set_cons_succ]))
        refine wpPlan_only (fun K hK => ?_)
        try go_simp
        (go_at_call 42; (with_reducible refine (h40 _ (envbb hB E)).mono ?_); rintro X wq ⟨rfl, hb⟩)
        replace E := E.on hb
        clear hb
        refine hK.out _ _ (s_b5 E) ?_
        clear hK K
        try simp only [Act.put, List.setIfInBounds_toArray, List.set_cons_zero, List.set_cons_succ]
        iterate 7 (first | (refine wpPlan_still (v := ?_) (Or.inl ⟨by rfl, ?_⟩) ?_; rotate_left; (focus (intro W hW; (try dsimp only at hW); go_split_ands; go_simp; try with_reducible rfl)); try simp only [Act.put, List.setIfInBounds_toArray, List.set_cons_zero, List.set_cons_succ]) | (refine wpPlan_still (Or.inr ⟨by rfl, rfl⟩) ?_; try simp only [Act.put, List.setIfInBounds_toArray, List.set_cons_zero, List.set_cons_succ]))
        refine wpPlan_only (fun K hK => ?_)
        rw [if_neg (by exact Bool.false_ne_true)]
        refine hK.out _ _ (s_b5 E) ?_
        clear hK K
        try simp only [Act.put, List.setIfInBounds_toArray, List.set_cons_zero, List.set_cons_succ]
        iterate 1 (first | (refine wpPlan_still (v := ?_) (Or.inl ⟨by rfl, ?_⟩) ?_; rotate_left; (focus (intro W hW; (try dsimp only at hW); go_split_ands; go_simp; try with_reducible rfl)); try simp only [Act.put, List.setIfInBounds_toArray, List.set_cons_zero, List.set_cons_succ]) | (refine wpPlan_still (Or.inr ⟨by rfl, rfl⟩) ?_; try simp only [Act.put, List.setIfInBounds_toArray, List.set_cons_zero, List.set_cons_succ]))
        refine wpPlan_end ?_
        replace C := E.cells
        simp [BC, CF] at C
        go_wp2
        go_ret
        refine ⟨?_, belows hB E.1⟩
        rw [HV.out, show (List.range n).all (fun i => okAt l i) = false from List.all_eq_false.2 ⟨k, List.mem_range.2 hlt, by rw [HO.out]; simp⟩]; rfl
      · cases hf : decide (fv < 0)
        · have g2 : decide (fv ≥ 0) = true := by simp at hf ⊢; omega
          go_upto_region 6 with fail
          refine wp_region_plan 11 [(0, true), (1, false), (2, true), (3, true), (4, true), (5, true), (6, true), (7, true), (8, true), (9, false), (10, true)] (fun W' => Env wr W' [⟨wr.heap.size, 49, #[.string mk, .int .i64 sz, .int .i64 ct, .int .i64 cd, .slice dp dl dc]⟩] ∧ W'.cell? ⟨wr.heap.size, 0, none⟩ = some (.string mk) ∧ W'.cell? ⟨wr.heap.size, 1, none⟩ = some (.int .i64 sz) ∧ W'.cell? ⟨wr.heap.size, 2, none⟩ = some (.int .i64 ct) ∧ W'.cell? ⟨wr.heap.size, 3, none⟩ = some (.int .i64 cd) ∧ W'.cell? ⟨wr.heap.size, 4, none⟩ = some (.slice dp dl dc)) (by kernel_rfl) (by kernel_rfl) (fun _ _ d _ _ h => by cases d <;> exact h) (s_b5 E.drw) ?_
          simp only [List.filterMap_cons, List.filterMap_nil, List.getElem?_cons_zero, List.getElem?_cons_succ, Option.map_some, List.drop_succ_cons, List.drop_zero]
          replace E := E.drw
          iterate 1 (first | (refine wpPlan_still (v := ?_) (Or.inl ⟨by rfl, ?_⟩) ?_; rotate_left; (focus (intro W hW; (try dsimp only at hW); go_split_ands; go_simp; try with_reducible rfl)); try simp only [Act.put, List.setIfInBounds_toArray, List.set_cons_zero, List.set_cons_succ]) | (refine wpPlan_still (Or.inr ⟨by rfl, rfl⟩) ?_; try simp only [Act.put, List.setIfInBounds_toArray, List.set_cons_zero, List.set_cons_succ]))
          refine wpPlan_only (fun K hK => ?_)
          try go_simp
          (go_at_call 42; (with_reducible refine (h40 _ (envbb hB E)).mono ?_); rintro X wq ⟨rfl, hb⟩)
          replace E := E.on hb
          clear hb
          refine hK.out _ _ (s_b5 E) ?_
          clear hK K
          try simp only [Act.put, List.setIfInBounds_toArray, List.set_cons_zero, List.set_cons_succ]
          iterate 7 (first | (refine wpPlan_still (v := ?_) (Or.inl ⟨by rfl, ?_⟩) ?_; rotate_left; (focus (intro W hW; (try dsimp only at hW); go_split_ands; go_simp; try with_reducible rfl)); try simp only [Act.put, List.setIfInBounds_toArray, List.set_cons_zero, List.set_cons_succ]) | (refine wpPlan_still (Or.inr ⟨by rfl, rfl⟩) ?_; try simp only [Act.put, List.setIfInBounds_toArray, List.set_cons_zero, List.set_cons_succ]))
          refine wpPlan_only (fun K hK => ?_)
          try go_simp
          (go_at_call 67; (with_reducible refine (h38 _ (envbb hB E)).mono ?_); rintro X wq ⟨rfl, hb⟩)
          replace E := E.on hb
          clear hb
          refine hK.out _ _ (s_b5 E) ?_
          clear hK K
          try simp only [Act.put, List.setIfInBounds_toArray, List.set_cons_zero, List.set_cons_succ]
          iterate 1 (first | (refine wpPlan_still (v := ?_) (Or.inl ⟨by rfl, ?_⟩) ?_; rotate_left; (focus (intro W hW; (try dsimp only at hW); go_split_ands; go_simp; try with_reducible rfl)); try simp only [Act.put, List.setIfInBounds_toArray, List.set_cons_zero, List.set_cons_succ]) | (refine wpPlan_still (Or.inr ⟨by rfl, rfl⟩) ?_; try simp only [Act.put, List.setIfInBounds_toArray, List.set_cons_zero, List.set_cons_succ]))
          refine wpPlan_end ?_
          replace C := E.cells
          simp [BC, CF] at C
          go_wp2
          go_ret
          refine ⟨?_, belows hB E.1⟩
          rw [HV.out, show (List.range n).all (fun i => okAt l i) = false from List.all_eq_false.2 ⟨k, List.mem_range.2 hlt, by rw [HO.out, hf]; simp⟩]; rfl
        · have g2 : decide (fv ≥ 0) = false := by simp at hf ⊢; omega
          go_upto_region 6 with fail
          refine wp_region_plan 11 [(0, true), (1, false), (2, true), (3, true), (4, true), (5, true), (6, true), (7, true), (8, true), (9, false), (10, true)] (fun W' => Env wr W' [⟨wr.heap.size, 49, #[.string mk, .int .i64 sz, .int .i64 ct, .int .i64 cd, .slice dp dl dc]⟩] ∧ W'.cell? ⟨wr.heap.size, 0, none⟩ = some (.string mk) ∧ W'.cell? ⟨wr.heap.size, 1, none⟩ = some (.int .i64 sz) ∧ W'.cell? ⟨wr.heap.size, 2, none⟩ = some (.int .i64 ct) ∧ W'.cell? ⟨wr.heap.size, 3, none⟩ = some (.int .i64 cd) ∧ W'.cell? ⟨wr.heap.size, 4, none⟩ = some (.slice dp dl dc)) (by kernel_rfl) (by kernel_rfl) (fun _ _ d _ _ h => by cases d <;> exact h) (s_b5 E.drw) ?_
          simp only [List.filterMap_cons, List.filterMap_nil, List.getElem?_cons_zero, List.getElem?_cons_succ, Option.map_some, List.drop_succ_cons, List.drop_zero]
          replace E := E.drw
          iterate 1 (first | (refine wpPlan_still (v := ?_) (Or.inl ⟨by rfl, ?_⟩) ?_; rotate_left; (focus (intro W hW; (try dsimp only at hW); go_split_ands; go_simp; try with_reducible rfl)); try simp only [Act.put, List.setIfInBounds_toArray, List.set_cons_zero, List.set_cons_succ]) | (refine wpPlan_still (Or.inr ⟨by rfl, rfl⟩) ?_; try simp only [Act.put, List.setIfInBounds_toArray, List.set_cons_zero, List.set_cons_succ]))
          refine wpPlan_only (fun K hK => ?_)
          try go_simp
          (go_at_call 42; (with_reducible refine (h40 _ (envbb hB E)).mono ?_); rintro X wq ⟨rfl, hb⟩)
          replace E := E.on hb
          clear hb
          refine hK.out _ _ (s_b5 E) ?_
          clear hK K
          try simp only [Act.put, List.setIfInBounds_toArray, List.set_cons_zero, List.set_cons_succ]
          iterate 7 (first | (refine wpPlan_still (v := ?_) (Or.inl ⟨by rfl, ?_⟩) ?_; rotate_left; (focus (intro W hW; (try dsimp only at hW); go_split_ands; go_simp; try with_reducible rfl)); try simp only [Act.put, List.setIfInBounds_toArray, List.set_cons_zero, List.set_cons_succ]) | (refine wpPlan_still (Or.inr ⟨by rfl, rfl⟩) ?_; try simp only [Act.put, List.setIfInBounds_toArray, List.set_cons_zero, List.set_cons_succ]))
          refine wpPlan_only (fun K hK => ?_)
          try go_simp
          (go_at_call 67; (with_reducible refine (h38 _ (envbb hB E)).mono ?_); rintro X wq ⟨rfl, hb⟩)
          replace E := E.on hb
          clear hb
          refine hK.out _ _ (s_b5 E) ?_
          clear hK K
          try simp only [Act.put, List.setIfInBounds_toArray, List.set_cons_zero, List.set_cons_succ]
          iterate 1 (first | (refine wpPlan_still (v := ?_) (Or.inl ⟨by rfl, ?_⟩) ?_; rotate_left; (focus (intro W hW; (try dsimp only at hW); go_split_ands; go_simp; try with_reducible rfl)); try simp only [Act.put, List.setIfInBounds_toArray, List.set_cons_zero, List.set_cons_succ]) | (refine wpPlan_still (Or.inr ⟨by rfl, rfl⟩) ?_; try simp only [Act.put, List.setIfInBounds_toArray, List.set_cons_zero, List.set_cons_succ]))
          refine wpPlan_end ?_
          replace C := E.cells
          simp [BC, CF] at C
          go_wp2
          refine ⟨⟨k + 1, rfl, hlt, belows hB E.1, Lib.hid fun i hi => ?_⟩, by simp [intOf]; omega⟩
          rcases Nat.lt_or_ge i k with h | h
          · exact HI.out i h
          · obtain rfl : i = k := by omega
            rw [HO.out, hf]; rfl
    · have g1 : decide ((k : Int) < (l.length : Int)) = false := by simp; omega
      go_wp2
      go_ret
      refine ⟨?_, hB⟩
      rw [HV.out, show (List.range l.length).all (fun i => okAt l i) = true from List.all_eq_true.2 fun i hi => HI.out i (by have := List.mem_range.1 hi; omega)]; rfl
end Go.Proofs.Ytfkcogocaecodaa
namespace Go.Proofs.Ytfkcogocaecodaa
open Go.ChangeShapes Go.WideShapes Go.ChangeAt Go.RowKit
set_option linter.unusedVariables false
set_option linter.unusedSimpArgs false

set_option maxRecDepth 100000 in
theorem rFind_any (p : Option Addr) (l : List Bar) (cap : Nat) (m : ByteArray) (w : World) (hS : Slb w p l cap) :
    Calls Try.prog 31 #[.slice p l.length cap, .string m] w fun e w' => e = .returned (.int .i64 (fndV m l)) ∧ w = w' := by
  have hle := fnd_le m l
  have hm := hS.mx
  unfold maxLen at hm
  have HF := Lib.hid (fun k h hk => fnd_lt (m := m) (l := l) (k := k) h hk)
  have HA := Lib.hid (fun h => fnd_at (m := m) (l := l) h)
  obtain ⟨R, hR⟩ : ∃ R : Int, R = fndV m l := ⟨_, rfl⟩
  rw [← hR]
  have HR0 := Lib.hid hR
  clear hR
  go_enter Try.func31, Try.ntmps31
  go_wp2
  go_loop [5] (fun v => ∃ k : Nat, v = .int .i64 k ∧ k ≤ fnd m l) (fun v => l.length - (intOf v).toNat)
  case atStart => exact ⟨0, rfl, Nat.zero_le _⟩
  case round =>
    obtain ⟨k, rfl, hk⟩ := hrel
    by_cases hlt : k < l.length
    · have g1 : decide ((k : Int) < (l.length : Int)) = true := by simp [hlt]
      have W1 : IntKind.i64.wrap ((k : Int) + 1) = ((k + 1 : Nat) : Int) := by rw [IntWalk.i64_in _ (by omega)]; omega
      have q1 : (0 : Int) ≤ (k : Int) := by omega
      have q2 : (k : Int) < (l.length : Int) := by omega
      obtain ⟨a, rfl, c0, c1, c2, c3, c4⟩ := hS.at_ k hlt
      by_cases he : k = fnd m l
      · have hx : (l[k].mark.toList == m.toList) = true := by subst he; exact HA.out hlt
        have hlt2 : fnd m l < l.length := by omega
        have HR : Hid (R = (k : Int)) := Lib.hid (by rw [HR0.out, fndV, if_pos hlt2, he])
        clear he hlt2
        generalize l[k].mark = mk at *
        go_wp2
        go_ret
        exact ⟨by rw [HR.out]; rfl, rfl⟩
      · have hx : (l[k].mark.toList == m.toList) = false := HF.out k (by omega) hlt
        have hk2 : k + 1 ≤ fnd m l := by omega
        clear he
        generalize l[k].mark = mk at *
        go_wp2
        exact ⟨⟨k + 1, rfl, hk2⟩, by simp [intOf]; omega⟩
    · have g1 : decide ((k : Int) < (l.length : Int)) = false := by simp; omega
      have HR : Hid (R = -1) := Lib.hid (by rw [HR0.out, fndV, if_neg (by omega)])
      go_wp2
      go_ret
      exact ⟨by rw [HR.out]; rfl, rfl⟩
def totL (l : List Bar) : Int := (l.map (·.count)).sum
theorem tot_take {l : List Bar} {k : Nat} (h : k < l.length) : totL (l.take (k + 1)) = totL (l.take k) + l[k].count := by
  unfold totL
  rw [List.take_succ_eq_append_getElem h, List.map_append, List.sum_append]; simp
theorem tot_bd : ∀ {l : List Bar}, (∀ b ∈ l, barB b = true) → 0 ≤ totL l ∧ totL l ≤ l.length * 1000
  | [], h => by simp [totL]
  | b :: r, h => by
    have ih := tot_bd (l := r) fun c hc => h c (by simp [hc])
    have h1 := (barB_and (h b (by simp))).2.2.2.2.2
    unfold totL at ih ⊢
    simp only [List.map_cons, List.sum_cons, List.length_cons]
    omega
theorem fnd_take {l : List Bar} {i : Nat} (hi : i < l.length) : (fndV l[i].mark l = (i : Int)) ↔ fndV l[i].mark (l.take i) < 0 := by
  have hle := fnd_le l[i].mark l
  have hself : (l[i].mark.toList == l[i].mark.toList) = true := by simp
  have h1 : fnd l[i].mark l ≤ i := by
    rcases Nat.lt_or_ge i (fnd l[i].mark l) with h | h
    · have := fnd_lt h hi
      rw [hself] at this; cases this
    · exact h
  have hv : fndV l[i].mark l = (fnd l[i].mark l : Int) := if_pos (by omega)
  constructor
  · intro h
    have he : fnd l[i].mark l = i := by omega
    have : ¬ fnd l[i].mark (l.take i) < (l.take i).length := fun hlt => by
      have hj := fnd_at hlt
      have hjl : fnd l[i].mark (l.take i) < i := by simp at hlt; omega
      rw [List.getElem_take] at hj
      have := fnd_lt (m := l[i].mark) (l := l) (k := fnd l[i].mark (l.take i)) (by omega) (by omega)
      rw [hj] at this; cases this
    unfold fndV
    rw [if_neg this]; decide
  · intro h
    rcases Nat.lt_or_ge (fnd l[i].mark l) i with hlt | hge
    · exfalso
      have hat := fnd_at (m := l[i].mark) (l := l) (by omega)
      unfold fndV at h
      split at h
      · omega
      · rename_i hn
        have hfl := fnd_le l[i].mark (l.take i)
        have hlen : (l.take i).length = i := by simp; omega
        have := fnd_lt (m := l[i].mark) (l := l.take i) (k := fnd l[i].mark l) (by omega) (by omega)
        rw [List.getElem_take, hat] at this
        cases this
    · omega
end Go.Proofs.Ytfkcogocaecodaa
namespace Go.Proofs.Ytfkcogocaecodaa
open Go.ChangeShapes Go.WideShapes Go.ChangeAt Go.RowKit
set_option linter.unusedVariables false
set_option linter.unusedSimpArgs false

def bc (b : Bar) : List Value := [.string b.mark, .int .i64 b.size, .int .i64 b.count, .int .i64 b.code, .slice b.p b.ds.length b.cap]
theorem bcl (b : Bar) : (bc b).length = 5 := rfl
theorem bc_cs (b : Bar) : bc b = b.cs.toList := rfl
theorem info60 : (Try.prog.info? 49).map (fun i => (i.zero, i.size, i.bytes)) = some (some (.agg #[.string ⟨#[]⟩, .int .i64 0, .int .i64 0, .int .i64 0, .slice none 0 0]), 5, 64) := by kernel_rfl
theorem fr5_at {w : World} {a : Addr} {b : Bar} (h : Fr5 w a b) : ∀ i u, (bc b)[i]? = some u → w.cell? (a.add i) = some u := by
  obtain ⟨h0, h1, h2, h3, h4⟩ := h
  have ad : ∀ j, 0 < j → a.add j = (⟨a.block, a.off + j, none⟩ : Addr) := fun j hj => by rw [Addr.add.eq_1 a j, if_neg (by omega)]
  intro i u hu
  match i, hu with
  | 0, hu => simp [bc] at hu; subst hu; rw [show a.add 0 = a by simp [Addr.add]]; exact h0
  | 1, hu => simp [bc] at hu; subst hu; rw [ad 1 (by omega)]; exact h1
  | 2, hu => simp [bc] at hu; subst hu; rw [ad 2 (by omega)]; exact h2
  | 3, hu => simp [bc] at hu; subst hu; rw [ad 3 (by omega)]; exact h3
  | 4, hu => simp [bc] at hu; subst hu; rw [ad 4 (by omega)]; exact h4
  | i + 5, hu => simp [bc] at hu
theorem add_add (a : Addr) (i j : Nat) : (a.add i).add j = a.add (i + j) := by
  rcases Nat.eq_zero_or_pos i with rfl | hi
  · rw [show a.add 0 = a by simp [Addr.add], Nat.zero_add]
  · rcases Nat.eq_zero_or_pos j with rfl | hj
    · rw [Nat.add_zero, show (a.add i).add 0 = a.add i by simp [Addr.add]]
    · rw [Addr.add.eq_1 (a.add i) j, if_neg (by omega), Addr.add.eq_1 a i, if_neg (by omega), Addr.add.eq_1 a (i + j), if_neg (by omega)]
      simp [Nat.add_assoc]
/-- What a list of bars shows, cell by cell. -/
theorem Slb.news {w : World} {a : Addr} {l : List Bar} {cap : Nat} (h : Slb w (some a) l cap) : ∀ j u, (l.flatMap bc)[j]? = some u → w.cell? (a.add j) = some u := by
  intro j u hj
  have hl : (l.flatMap bc).length = l.length * 5 := flat_len bc 5 bcl l
  have hlt : j < l.length * 5 := by rw [← hl]; exact (List.getElem?_eq_some_iff.1 hj).1
  have hk : j / 5 < l.length := by omega
  obtain ⟨a', e, f⟩ := h.at_ (j / 5) hk
  cases e
  have e1 := flat_at bc 5 bcl l (j / 5) hk (j % 5) (Nat.mod_lt _ (by decide))
  rw [show j / 5 * 5 + j % 5 = j by omega, hj] at e1
  have := fr5_at f (j % 5) u e1.symm
  rw [add_add, show j / 5 * 5 + j % 5 = j by omega] at this
  exact this
/-- A list of bars of the call's own, as a list that is read. -/
theorem Own.slb {B : Nat} {w : World} {v : Value} {l : List Bar} (h : Own bc 49 5 B w v l) (hk : ∀ b ∈ l, b.Ok w) : ∃ p cap, v = .slice p l.length cap ∧ Slb w p l cap := by
  obtain ⟨hl, ⟨rfl, h0⟩ | ⟨g, cap, cur, rfl, hB, hg, hc, hm, hz, ht⟩⟩ := h
  · obtain rfl : l = [] := List.eq_nil_of_length_eq_zero h0
    exact ⟨none, 0, rfl, Slb.nil w⟩
  · refine ⟨some ⟨g, 0, none⟩, cap, rfl, hc, by omega, fun k hkl => ⟨_, rfl, ?_⟩, hk⟩
    have key : ∀ i u, (bc l[k])[i]? = some u → w.cell? ⟨g, k * 5 + i, none⟩ = some u := fun i u hu => by
      have hi : i < 5 := by
        rcases Nat.lt_or_ge i 5 with h | h
        · exact h
        · rw [List.getElem?_eq_none (by rw [bcl]; exact h)] at hu; cases hu
      rw [cell_of_row w g _ cur 49 (0, 0) hg]
      have e1 := flat_at bc 5 bcl l k hkl i hi
      rw [hu, ← ht, List.getElem?_take_of_lt (by omega), Array.getElem?_toList] at e1
      exact e1
    rw [Addr.add_lit, Nat.zero_add]
    exact ⟨by simpa using key 0 _ rfl, key 1 _ rfl, key 2 _ rfl, key 3 _ rfl, key 4 _ rfl⟩
end Go.Proofs.Ytfkcogocaecodaa
namespace Go.Proofs.Ytfkcogocaecodaa
open Go.ChangeShapes Go.WideShapes Go.Deep Go.RowKit Go.Joins
set_option linter.unusedVariables false
set_option maxRecDepth 100000
theorem bar_cells {H : Type} {enc : TypeId × Value → H} {w : World} {fuel : Nat} {c0 c1 c2 c3 c4 : Value} {x : DataW H × List MemPlace} (hf : DataW.trod enc Try.prog w 0 (fun _ => true) true fuel 49 [c0, c1, c2, c3, c4] = some x) :
    ∃ b : Bar, [c0, c1, c2, c3, c4] = bc b ∧ b.Ok w := by
  obtain ⟨y0, y1, y2, y3, y4, n, h0, h1, h2, h3, h4⟩ := trod_struct5 Try.underlying49 hf
  rw [cells9] at h0
  rw [cells3] at h1 h2 h3
  rw [cells27] at h4
  simp at h0 h1 h2 h3 h4
  obtain ⟨s, e0, -, hs⟩ := DataW.trod_string Try.underlying9 h0
  obtain ⟨n1, e1, -, -⟩ := DataW.trod_int Try.underlying3 h1
  obtain ⟨n2, e2, -, -⟩ := DataW.trod_int Try.underlying3 h2
  obtain ⟨n3, e3, -, -⟩ := DataW.trod_int Try.underlying3 h3
  simp at e0 e1 e2 e3
  subst e0 e1 e2 e3
  obtain ⟨p, l, cap, e4, hr, hl⟩ := list_cells h4
  subst e4
  exact ⟨⟨s, n1, n2, n3, p, l, cap⟩, rfl, ⟨hs, hl, hr⟩⟩
theorem list_open {H : Type} {enc : TypeId × Value → H} {w : World} {r : Reach} {b0 : Nat} {v : Value} {d : DataW H} {ps : List MemPlace}
    (hv : Value.okWide Try.prog w r b0 39 v) (h : DataW.Trod enc Try.prog w 0 (fun _ => true) true 39 v d ps) :
    ∃ (p : Option Addr) (l : List Bar) (cap : Nat), v = .slice p l.length cap ∧ Slb w p l cap := by
  obtain ⟨a, n, c, rfl⟩ := okWide_slice Try.underlying39 hv
  obtain ⟨fuel, hf⟩ := h
  simp only [Value.cells] at hf
  rcases open_slice Try.underlying39 hf with ⟨hc, -⟩ | ⟨a', len, cap, m, n', D, Pl, hc, -, hl, hm, hmm, -, hi⟩
  · simp at hc
    obtain ⟨rfl, rfl, rfl⟩ := hc
    exact ⟨none, [], 0, rfl, Slb.nil w⟩
  · simp at hc
    obtain ⟨rfl, rfl, rfl⟩ := hc
    have hm' : m = c := by simpa using hmm
    subst hm'
    have k : ∀ i, i < n → ∃ b : Bar, Fr5 w (a'.add (i * 5)) b ∧ b.Ok w := by
      intro i hin
      obtain ⟨cs', hc, ht⟩ := hi i (by omega)
      rw [cells32] at hc
      obtain ⟨_, hcl, hat⟩ := World.cells?_some hc
      match cs', hcl with
      | [c0, c1, c2, c3, c4], _ =>
        obtain ⟨b, e, hk⟩ := bar_cells ht
        rw [e] at hat
        have ad : ∀ j, 0 < j → (⟨(a'.add (i * 5)).block, (a'.add (i * 5)).off + j, none⟩ : Addr) = (a'.add (i * 5)).add j := fun j hj => by
          rw [Addr.add.eq_1 (a'.add (i * 5)) j, if_neg (by omega)]
        refine ⟨b, ⟨?_, ?_, ?_, ?_, ?_⟩, hk⟩
        · have := hat 0 (by show 0 < 5; omega)
          rwa [show (a'.add (i * 5)).add 0 = a'.add (i * 5) by simp [Addr.add]] at this
        · rw [ad 1 (by omega)]; exact hat 1 (by show 1 < 5; omega)
        · rw [ad 2 (by omega)]; exact hat 2 (by show 2 < 5; omega)
        · rw [ad 3 (by omega)]; exact hat 3 (by show 3 < 5; omega)
        · rw [ad 4 (by omega)]; exact hat 4 (by show 4 < 5; omega)
    haveI : Inhabited Bar := ⟨⟨⟨#[]⟩, 0, 0, 0, none, [], 0⟩⟩
    obtain ⟨F, hF⟩ := choose_lt k
    refine ⟨some a', (List.range n).map F, m, by simp, ⟨by simp; omega, by rw [List.length_map, List.length_range]; omega, fun i hil => ⟨a', rfl, ?_⟩, fun b hb => ?_⟩⟩
    · have hin : i < n := by simpa using hil
      have := (hF i hin).1
      simpa using this
    · obtain ⟨i, hi2, rfl⟩ := List.mem_map.1 hb
      exact (hF i (List.mem_range.1 hi2)).2
end Go.Proofs.Ytfkcogocaecodaa
