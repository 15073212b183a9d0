/- Which graphs are valid: the program's Valid on graphs, the reference's Valid. -/
import Derived.Test.YteofbbakegcohaaVal
namespace Go.Proofs.Yteofbbakegcohaa
open Go.ChangeShapes Go.WideShapes Go.ChangeAt Go.RowKit
set_option linter.unusedVariables false
set_option linter.unusedSimpArgs false

theorem gr_of_valid {w : World} {p : Option Addr} {n : Int} {l : List (Int × Int)} (hS : Sl w p l) (h : vG n l = true) : ∃ (m : Nat) (k : List (Nat × Nat)), n = (m : Int) ∧ l = cast2 k ∧ l.length = k.length ∧ Gr w p m k := by
  unfold vG at h
  rw [Bool.and_eq_true] at h
  have h1 := of_decide_eq_true h.1
  have h2 := List.all_eq_true.1 h.2
  have ok : ∀ x ∈ l, (0 ≤ x.1 ∧ x.1 < n) ∧ (0 ≤ x.2 ∧ x.2 < n) := fun x hx => by
    have := h2 x hx
    simp [okE, wi] at this
    exact this
  have e : l = cast2 (l.map fun x => (x.1.toNat, x.2.toNat)) := by
    unfold cast2
    rw [List.map_map]
    conv => lhs; rw [← List.map_id l]
    refine List.map_congr_left fun x hx => ?_
    have := ok x hx
    apply Prod.ext <;> simp <;> omega
  refine ⟨n.toNat, l.map fun x => (x.1.toNat, x.2.toNat), by omega, e, by simp, ?_, by simpa using h1.2.2, by omega, fun x hx => ?_⟩
  · rw [← e]; exact hS
  · obtain ⟨y, hy, rfl⟩ := List.mem_map.1 hx
    have := ok y hy
    exact ⟨by simp; omega, by simp; omega⟩
theorem valid_gr {w : World} {p : Option Addr} {n : Nat} {l : List (Nat × Nat)} (h : Gr w p n l) : vG n (cast2 l) = true := by
  unfold vG
  rw [Bool.and_eq_true]
  refine ⟨decide_eq_true ⟨by omega, by have := h.2.2.1; omega, by simpa [cast2] using h.2.1⟩, List.all_eq_true.2 fun x hx => ?_⟩
  obtain ⟨y, hy, rfl⟩ := List.mem_map.1 hx
  have := h.2.2.2 y hy
  simp [okE, wi]
  omega
theorem valid_ok {p : Option Addr} {n : Nat} {l : List (Nat × Nat)} {w : World} (cap : Nat) (h : Gr w p n l) :
    Calls Try.prog 15 #[.int .i64 n, .slice p l.length cap] w fun e w' => e = .returned (.bool true) ∧ Below w.heap.size w w' := by
  have k := valid_any p (cast2 l) cap n w h.1
  rw [valid_gr h, cast2_len] at k
  exact k
theorem okE_iff (n : Int) (x : Int × Int) : okE n x = true ↔ ¬ (x.1 < 0 ∨ n ≤ x.1 ∨ x.2 < 0 ∨ n ≤ x.2) := by
  simp [okE, wi]; omega
set_option maxRecDepth 100000 in
set_option maxHeartbeats 2000000 in
theorem rvalid_any (p : Option Addr) (l : List (Int × Int)) (cap : Nat) (n : Int) (w : World) (hS : Sl w p l) :
    Calls Try.prog 14 #[.int .i64 n, .slice p l.length cap] w fun e w' => e = .returned (.bool (vG n l)) ∧ w = w' := by
  by_cases h1 : n < 0
  · go_enter Try.func14, Try.ntmps14
    go_wp2
    go_ret
    exact ⟨by rw [show vG n l = false by simp [vG]; omega]; rfl, rfl⟩
  by_cases h2 : 60 < n
  · go_enter Try.func14, Try.ntmps14
    go_wp2
    go_ret
    exact ⟨by rw [show vG n l = false by simp [vG]; omega]; rfl, rfl⟩
  by_cases h3 : 1000 < l.length
  · have h4 : (1000 : Int) < l.length := by omega
    go_enter Try.func14, Try.ntmps14
    go_wp2
    go_ret
    exact ⟨by rw [show vG n l = false by simp [vG]; omega]; rfl, rfl⟩
  · have h4 : ¬ (1000 : Int) < l.length := by omega
    have e : vG n l = l.all (okE n) := by simp [vG]; intro _; omega
    rw [e]
    clear e
    go_enter Try.func14, Try.ntmps14
    go_wp2
    go_loop [5] (fun v => ∃ k : Nat, v = .int .i64 k ∧ k ≤ l.length ∧ Hid (∀ x ∈ l.take k, okE n x = true)) (fun v => l.length - (intOf v).toNat)
    case atStart => exact ⟨0, rfl, Nat.zero_le _, Lib.hid (by simp)⟩
    case round =>
      obtain ⟨k, rfl, hk, hG⟩ := hrel
      by_cases hlt : k < l.length
      · have g1 : decide ((k : Int) < (l.length : Int)) = true := by simp [hlt]
        have W1 : IntKind.i64.wrap ((k : Int) + 1) = ((k + 1 : Nat) : Int) := by rw [IntWalk.i64_in _ (by omega)]; omega
        have q1 : (0 : Int) ≤ (k : Int) := by omega
        have q2 : (k : Int) < (l.length : Int) := by omega
        obtain ⟨a, rfl, d0, d1⟩ := hS.at hlt
        have HN := Lib.hid (And.intro (fun h : okE n l[k] = true => all_drop hlt hG.out h) (fun h : okE n l[k] = false => (List.all_eq_false.2 ⟨_, List.getElem_mem hlt, by simp [h]⟩ : l.all (okE n) = false)))
        have HI := Lib.hid (okE_iff n l[k])
        obtain ⟨x, hxx⟩ : ∃ x, x = l[k].1 := ⟨_, rfl⟩
        obtain ⟨y, hyy⟩ : ∃ y, y = l[k].2 := ⟨_, rfl⟩
        rw [← hxx] at d0
        rw [← hyy] at d1
        have HX := Lib.hid hxx
        have HY := Lib.hid hyy
        clear hxx hyy
        have bad : (x < 0 ∨ n ≤ x ∨ y < 0 ∨ n ≤ y) → l.all (okE n) = false := fun h => HN.out.2 (by
          cases e : okE n l[k]
          · rfl
          · exact absurd h (by rw [HX.out, HY.out]; exact HI.out.1 e))
        have HB := Lib.hid bad
        clear bad
        by_cases c1 : x < 0
        · go_wp2
          go_ret
          exact ⟨by rw [HB.out (.inl c1)]; rfl, rfl⟩
        by_cases c2 : n ≤ x
        · go_wp2
          go_ret
          exact ⟨by rw [HB.out (.inr (.inl c2))]; rfl, rfl⟩
        by_cases c3 : y < 0
        · go_wp2
          go_ret
          exact ⟨by rw [HB.out (.inr (.inr (.inl c3)))]; rfl, rfl⟩
        by_cases c4 : n ≤ y
        · go_wp2
          go_ret
          exact ⟨by rw [HB.out (.inr (.inr (.inr c4)))]; rfl, rfl⟩
        · have HG : Hid (∀ x ∈ l.take (k + 1), okE n x = true) := Lib.hid (HN.out.1 (HI.out.2 (by rw [← HX.out, ← HY.out]; omega)))
          go_wp2
          go_round
          case rel => exact ⟨k + 1, by go_num, hlt, HG⟩
          case measure => simp [intOf]; omega
      · have g1 : decide ((k : Int) < (l.length : Int)) = false := by simp; omega
        have := hG.out
        rw [List.take_of_length_le (by omega)] at this
        have HE := Lib.hid (List.all_eq_true.2 this)
        clear this
        go_wp2
        go_ret
        exact ⟨by rw [HE.out]; rfl, rfl⟩
end Go.Proofs.Yteofbbakegcohaa
