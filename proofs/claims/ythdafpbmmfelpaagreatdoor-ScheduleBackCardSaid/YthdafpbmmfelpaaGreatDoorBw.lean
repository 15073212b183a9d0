/- slices.Backward: its iterator. -/
import Derived.Test.YthdafpbmmfelpaaGreatDoorRf
import Derived.Test.YthdafpbmmfelpaaGreatDoorPp
import Derived.LoopIn
import Derived.LoopNIn
import Derived.OwnWalkIn
import Derived.Shelf.Abstract
import Derived.Shelf.RegionOpen
import Derived.TacticsInMore
import Derived.RangeFuncBox
namespace Go.Proofs.YthdafpbmmfelpaaGreatDoor
open Go.ChangeShapes Go.WideShapes Go.ChangeAt Go.RowKit Go.Shelf
attribute [local go_sem] Oper.semAt_some
set_option linter.unusedVariables false
set_option linter.unusedSimpArgs false

def enc2 (p : Nat × Int) : Array Value := #[.int .i64 p.1, .int .i64 p.2]
def bkn (zs : List Int) (m : Nat) : List (Nat × Int) := ((List.range m).map fun i => (i, zs.getD i 0)).reverse
theorem bkn_succ (zs : List Int) (m : Nat) : bkn zs (m + 1) = (m, zs.getD m 0) :: bkn zs m := by
  unfold bkn
  rw [List.range_succ, List.map_append, List.reverse_append]; rfl
theorem bkn_len (zs : List Int) (m : Nat) : (bkn zs m).length = m := by unfold bkn; simp
theorem bkn_mem {zs : List Int} : ∀ {m : Nat} {x : Nat × Int}, m ≤ zs.length → x ∈ bkn zs m → x.2 ∈ zs
  | 0, x, h, k => by simp [bkn] at k
  | m + 1, x, h, k => by
    rw [bkn_succ] at k
    rcases List.mem_cons.1 k with rfl | k
    · rw [List.getD_eq_getElem?_getD, List.getElem?_eq_getElem (by omega)]
      exact List.getElem_mem _
    · exact bkn_mem (by omega) k
theorem bkn_snd (zs : List Int) : (bkn zs zs.length).map Prod.snd = zs.reverse := by
  unfold bkn
  rw [List.map_reverse, List.map_map]
  congr 1
  refine List.ext_getElem (by simp) fun i h1 h2 => ?_
  simp [List.getD_eq_getElem?_getD, h2]
theorem back_any (p : Option Addr) (n c : Nat) (w : World) : Calls Tryz.prog 52 #[.slice p n c] w fun e w' => e = .returned (.func (.func 88) #[] #[.pointer (some ⟨w.heap.size, 0, none⟩)]) ∧ w' = w.alloc (.cells #[.slice p n c] 58) := by
  go_enter Tryz.func52, Tryz.ntmps52
  go_wp2
  go_ret
  exact ⟨rfl, rfl⟩
/-- The invariant of the iterator's loop. -/
structure Bgo (J : List (Nat × Int) → World → Prop) (zs : List Int) (S : Nat → Prop) (W : World) (v : Value) (w : World) : Prop where
  ex : ∃ (pre : List (Nat × Int)) (m : Nat), bkn zs zs.length = pre ++ bkn zs m ∧ m ≤ zs.length ∧ v = .int .i64 ((m : Int) - 1) ∧ J pre w
  kp : Kps S W w
def bnat (v : Value) : Nat := match v with | .int _ z => (z + 1).toNat | _ => 0
set_option maxHeartbeats 4000000 in
set_option maxRecDepth 100000 in
theorem back_yields (n g : Nat) (v : Value) (zs : List Int) (hl : zs.length ≤ 1000) (S : Nat → Prop) (W : World) (HK : ∀ W', Kps S W W' → W'.cell? ⟨g, 0, none⟩ = some v ∧ Rdz W' v zs) :
    Yields 0 n Tryz.prog 88 #[] #[.pointer (some ⟨g, 0, none⟩)] enc2 S (bkn zs zs.length) W := by
  intro l J Jx hJ hJx hY h0
  obtain ⟨c0, q, cap, rfl, -⟩ := HK W (Kps.refl _ _)
  have HKh := Lib.hid HK
  have W0 : IntKind.i64.wrap ((zs.length : Int) - 1) = (zs.length : Int) - 1 := IntWalk.i64_in _ (by omega)
  clear HK
  refine callsIn_of_wp Tryz.func88 rfl trivial ?_
  simp only [Tryz.ntmps88, List.size_toArray, List.length_cons, List.length_nil, Nat.reduceAdd, Nat.reduceSub, Array.replicate_succ, Array.replicate_zero, List.push_toArray, List.append_toArray, List.nil_append, List.cons_append]
  gi_wp2
  gi_loopw [3] (fun v wr => Bgo J zs S W v wr) (fun v wr => bnat v)
  case atStart => exact ⟨⟨[], zs.length, rfl, Nat.le_refl _, rfl, h0⟩, Kps.refl _ _⟩
  case round =>
    obtain ⟨⟨pre, m, hM, hm, rfl, hJp⟩, hKp⟩ := hrel
    clear c0
    obtain ⟨c0, q', cap', e', k⟩ := HKh.out wr hKp
    simp only [Value.slice.injEq] at e'
    obtain ⟨rfl, -, rfl⟩ := e'
    cases m with
    | zero =>
      have HM := Lib.hid hM
      clear hM
      have g1 : decide (((0 : Nat) : Int) - 1 ≥ 0) = false := by decide
      gi_wp2
      go_end0
      exact ⟨⟨_, rfl⟩, .inl (by rw [HM.out]; simpa [bkn] using hJp)⟩
    | succ m =>
      rw [bkn_succ] at hM
      have e1 : (((m + 1 : Nat) : Int) - 1) = (m : Int) := by omega
      rw [e1]
      obtain ⟨a, rfl, hc⟩ := k m (by omega)
      have hx : zs[m]'(by omega) = zs.getD m 0 := by rw [List.getD_eq_getElem?_getD, List.getElem?_eq_getElem (by omega)]; rfl
      rw [hx] at hc
      have g1 : decide ((m : Int) ≥ 0) = true := by simp
      have q1 : (0 : Int) ≤ (m : Int) := by omega
      have q2 : (m : Int) < (zs.length : Int) := by omega
      have W1 : IntKind.i64.wrap ((m : Int) - 1) = (m : Int) - 1 := IntWalk.i64_in _ (by omega)
      obtain ⟨fn, tmps, assign, body, hy, hR⟩ := hY pre _ _ _ hM hJp (by have := hKp.size; omega)
      dsimp only [enc2] at hy
      have HM := Lib.hid hM
      clear hM
      generalize zs.getD m 0 = x at *
      gi_wp2
      refine ⟨fun h => (by cases h), hR.mono ?_⟩
      rintro e W3 (⟨rfl, hJ3, hk3⟩ | ⟨rfl, hJx3⟩)
      · have K3 : Kps S W W3 := hKp.trans (hk3.less fun k h => .inl h)
        gi_wp2
        go_roundw
        case rel => exact ⟨⟨_, m, by rw [List.append_assoc]; exact HM.out, by omega, rfl, hJ3⟩, K3⟩
        case measure => simp [bnat]
      · gi_wp2
        refine bodyPost_ret (results_none rfl _ _ _) rfl ?_
        exact ⟨⟨_, rfl⟩, .inr ⟨_, _, by rw [HM.out, List.append_assoc]; rfl, hJx3⟩⟩
end Go.Proofs.YthdafpbmmfelpaaGreatDoor
