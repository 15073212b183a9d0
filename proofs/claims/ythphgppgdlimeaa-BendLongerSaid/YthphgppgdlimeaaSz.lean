/- Sizes of both sides: IsSize. -/
import Derived.Test.YthphgppgdlimeaaBb
namespace Go.Proofs.Ythphgppgdlimeaa
open Go.ChangeShapes Go.WideShapes Go.ChangeAt Go.RowKit
set_option linter.unusedVariables false
set_option linter.unusedSimpArgs false
def sz : List Int := [6, 8, 10, 12, 16, 20, 25, 32, 40]
/-- The row of the sizes fills block g. -/
def Zs (w : World) (g : Nat) : Prop := Has w g 3 #[.int .i64 6, .int .i64 8, .int .i64 10, .int .i64 12, .int .i64 16, .int .i64 20, .int .i64 25, .int .i64 32, .int .i64 40]
theorem Zs.on {w w' : World} {g : Nat} (h : Zs w g) (hb : Below w.heap.size w w') : Zs w' g := Has.on h hb
theorem Zs.size_ {w : World} {g : Nat} (h : Zs w g) : g < w.heap.size := Has.size_ h
theorem sz_len : sz.length = 9 := rfl
theorem Zs.read {w : World} {g : Nat} (h : Zs w g) {k : Nat} (hk : k < 9) : w.cell? ⟨g, k, none⟩ = some (.int .i64 (sz[k]'hk)) := by
  unfold Zs at h
  rw [Has.read h k]
  match k, hk with
  | 0, _ => rfl
  | 1, _ => rfl
  | 2, _ => rfl
  | 3, _ => rfl
  | 4, _ => rfl
  | 5, _ => rfl
  | 6, _ => rfl
  | 7, _ => rfl
  | 8, _ => rfl
theorem Zs.rdz {w : World} {g : Nat} (h : Zs w g) : Rdz w (.slice (some ⟨g, 0, none⟩) 9 9) sz := by
  refine ⟨_, 9, rfl, fun j hj => ⟨_, rfl, ?_⟩⟩
  rw [Addr.add_lit, Nat.zero_add]
  exact h.read hj
theorem sizes_any (w : World) : Calls Try.prog 68 #[] w fun e w' => ∃ g, e = .returned (.slice (some ⟨g, 0, none⟩) 9 9) ∧ Zs w' g ∧ Below w.heap.size w w' ∧ w.heap.size ≤ g := by
  go_enter Try.func68, Try.ntmps68
  go_wp2
  go_ret
  exact ⟨w.heap.size, rfl, Has.new_ w 3 _, al1 w _, Nat.le_refl _⟩
theorem rsizes_any (w : World) : Calls Try.prog 43 #[] w fun e w' => ∃ g, e = .returned (.slice (some ⟨g, 0, none⟩) 9 9) ∧ Zs w' g ∧ Below w.heap.size w w' ∧ w.heap.size ≤ g := by
  go_enter Try.func43, Try.ntmps43
  go_wp2
  go_ret
  exact ⟨w.heap.size, rfl, Has.new_ w 3 _, al1 w _, Nat.le_refl _⟩
def ixo (zs : List Int) (x : Int) : Int := match zs.findIdx? (· == x) with | some i => (i : Int) | none => -1
theorem findIdx_some {zs : List Int} {x : Int} {k : Nat} (hk : k < zs.length) (h : ∀ (j : Nat) (hj : j < zs.length), j < k → zs[j] ≠ x) (e : zs[k] = x) : ixo zs x = k := by
  have : zs.findIdx? (· == x) = some k := by
    rw [List.findIdx?_eq_some_iff_getElem]
    exact ⟨hk, by simp [e], fun j hj => by simpa using h j (by omega) hj⟩
  unfold ixo; rw [this]
theorem findIdx_none {zs : List Int} {x : Int} (h : ∀ (j : Nat) (hj : j < zs.length), zs[j] ≠ x) : ixo zs x = -1 := by
  have : zs.findIdx? (· == x) = none := by
    rw [List.findIdx?_eq_none_iff]
    intro y hy
    obtain ⟨j, hj, rfl⟩ := List.getElem_of_mem hy
    simpa using h j hj
  unfold ixo; rw [this]
theorem ixo_pos (zs : List Int) (x : Int) : decide (0 ≤ ixo zs x) = zs.contains x := by
  unfold ixo
  cases h : zs.findIdx? (· == x) with
  | some i =>
    have := (List.findIdx?_eq_some_iff_getElem.1 h)
    obtain ⟨hi, e, -⟩ := this
    have : zs.contains x = true := by
      rw [List.contains_iff_mem]
      have e' : zs[i] = x := by simpa using e
      rw [← e']; exact List.getElem_mem hi
    rw [this]; simp
  | none =>
    have := List.findIdx?_eq_none_iff.1 h
    have : zs.contains x = false := by
      cases c : zs.contains x
      · rfl
      · have := this x (List.contains_iff_mem.1 c)
        simp at this
    rw [this]; rfl
set_option maxRecDepth 100000 in
theorem index_any (v : Value) (zs : List Int) (x : Int) (w : World) (hR : Rdz w v zs) (hl : zs.length ≤ 100000) :
    Calls Try.prog 72 #[v, .int .i64 x] w fun e w' => e = .returned (.int .i64 (ixo zs x)) ∧ w = w' := by
  obtain ⟨q, c, rfl, k1⟩ := hR
  have K1 := Lib.hid k1
  clear k1
  go_enter Try.func72, Try.ntmps72
  go_wp2
  go_loop [8] (fun v => ∃ k : Nat, v = .int .i64 k ∧ k ≤ zs.length ∧ Hid (∀ (j : Nat) (hj : j < zs.length), j < k → zs[j] ≠ x)) (fun v => zs.length - (intOf v).toNat)
  case atStart => exact ⟨0, rfl, Nat.zero_le _, Lib.hid (fun j _ h => absurd h (Nat.not_lt_zero j))⟩
  case round =>
    obtain ⟨k, rfl, hk, hG⟩ := hrel
    by_cases hlt : k < zs.length
    · have g1 : decide ((k : Int) < (zs.length : Int)) = true := by simp [hlt]
      have W1 : IntKind.i64.wrap ((k : Int) + 1) = ((k + 1 : Nat) : Int) := by rw [IntWalk.i64_in _ (by omega)]; omega
      have q1 : (0 : Int) ≤ (k : Int) := by omega
      have q2 : (k : Int) < (zs.length : Int) := by omega
      obtain ⟨a, rfl, d0⟩ := K1.out k hlt
      obtain ⟨y, hyy⟩ : ∃ y, y = zs[k] := ⟨_, rfl⟩
      rw [← hyy] at d0
      have HY := Lib.hid hyy
      clear hyy
      by_cases e : x = y
      · have t1 : (x == y) = true := by simp [e]
        have t2 : (y == x) = true := by simp [e]
        have HE : Hid (ixo zs x = k) := Lib.hid (findIdx_some hlt hG.out (by rw [← HY.out, e]))
        clear e
        go_wp2
        go_ret
        exact ⟨by rw [HE.out]; rfl, rfl⟩
      · have t1 : (x == y) = false := by simpa using e
        have t2 : (y == x) = false := by simpa using fun h => e h.symm
        have HG : Hid (∀ (j : Nat) (hj : j < zs.length), j < k + 1 → zs[j] ≠ x) := Lib.hid fun j hj h => by
          rcases Nat.lt_or_ge j k with h1 | h1
          · exact hG.out j hj h1
          · have : j = k := by omega
            subst this
            rw [← HY.out]; exact fun h => e h.symm
        clear e
        go_wp2
        exact ⟨⟨k + 1, rfl, hlt, HG⟩, by simp [intOf]; omega⟩
    · have g1 : decide ((k : Int) < (zs.length : Int)) = false := by simp; omega
      have HE : Hid (ixo zs x = -1) := Lib.hid (findIdx_none fun j hj => hG.out j hj (by omega))
      go_wp2
      go_ret
      exact ⟨by rw [HE.out]; rfl, rfl⟩
set_option maxRecDepth 100000 in
theorem containsz_any (v : Value) (zs : List Int) (x : Int) (w : World) (hR : Rdz w v zs) (hl : zs.length ≤ 100000) :
    Calls Try.prog 67 #[v, .int .i64 x] w fun e w' => e = .returned (.bool (zs.contains x)) ∧ w = w' := by
  have hp := ixo_pos zs x
  obtain ⟨i, hi⟩ : ∃ i, i = ixo zs x := ⟨_, rfl⟩
  have hc := fun W h => index_any v zs x W h hl
  rw [← hi] at hp hc
  have HP := Lib.hid hp
  clear hi hp
  go_enter Try.func67, Try.ntmps67
  go_wp2_with (go_at_call 72; (with_reducible refine (hc _ hR).mono ?_); rintro e w' ⟨rfl, rfl⟩)
  go_ret
  exact ⟨by rw [← HP.out]; rfl, rfl⟩
def isz (d : Int) : Bool := sz.contains d
theorem isz_any (d : Int) (w : World) : Calls Try.prog 57 #[.int .i64 d] w fun e w' => e = .returned (.bool (isz d)) ∧ Below w.heap.size w w' := by
  have hc := fun g W (h : Zs W g) => containsz_any (.slice (some ⟨g, 0, none⟩) 9 9) sz d W h.rdz (by decide)
  have he : isz d = sz.contains d := rfl
  rw [← he] at hc
  clear he
  generalize isz d = b at *
  go_enter Try.func57, Try.ntmps57
  go_wp2_with (first
    | (go_at_call 68; (with_reducible refine (sizes_any _).mono ?_); rintro e w1 ⟨g, rfl, hZ, hb, hg⟩)
    | (go_at_call 67; (with_reducible refine (hc g _ hZ).mono ?_); rintro e w' ⟨rfl, rfl⟩))
  go_ret
  exact ⟨rfl, hb⟩
set_option maxRecDepth 100000 in
theorem riz_any (x : Int) (w : World) : Calls Try.prog 13 #[.int .i64 x] w fun e w' => e = .returned (.bool (isz x)) ∧ Below w.heap.size w w' := by
  go_enter Try.func13, Try.ntmps13
  go_wp2_with (go_at_call 43; (with_reducible refine (rsizes_any _).mono ?_); rintro e w1 ⟨g, rfl, hZ, hb, hg⟩)
  go_loop [4] (fun v => ∃ k : Nat, v = .int .i64 k ∧ k ≤ 9 ∧ Hid (∀ (j : Nat) (hj : j < 9), j < k → sz[j]'hj ≠ x)) (fun v => 9 - (intOf v).toNat)
  case atStart => exact ⟨0, rfl, Nat.zero_le _, Lib.hid (fun j _ h => absurd h (Nat.not_lt_zero j))⟩
  case round =>
    obtain ⟨k, rfl, hk, hG⟩ := hrel
    by_cases hlt : k < 9
    · have g1 : decide ((k : Int) < 9) = true := by simp; omega
      have W1 : IntKind.i64.wrap ((k : Int) + 1) = ((k + 1 : Nat) : Int) := by rw [IntWalk.i64_in _ (by omega)]; omega
      have q1 : (0 : Int) ≤ (k : Int) := by omega
      have q2 : (k : Int) < 9 := by omega
      have d0 := hZ.read hlt
      obtain ⟨y, hyy⟩ : ∃ y, y = sz[k]'hlt := ⟨_, rfl⟩
      rw [← hyy] at d0
      have HY := Lib.hid hyy
      clear hyy
      by_cases e : x = y
      · have t1 : (x == y) = true := by simp [e]
        have t2 : (y == x) = true := by simp [e]
        have HE : Hid (isz x = true) := Lib.hid (by unfold isz; rw [List.contains_iff_mem, e, HY.out]; exact List.getElem_mem hlt)
        clear e
        go_wp2
        go_ret
        exact ⟨by rw [HE.out]; rfl, hb⟩
      · have t1 : (x == y) = false := by simpa using e
        have t2 : (y == x) = false := by simpa using fun h => e h.symm
        have HG : Hid (∀ (j : Nat) (hj : j < 9), j < k + 1 → sz[j]'hj ≠ x) := Lib.hid fun j hj h => by
          rcases Nat.lt_or_ge j k with h1 | h1
          · exact hG.out j hj h1
          · have : j = k := by omega
            subst this
            rw [← HY.out]; exact fun h => e h.symm
        clear e
        go_wp2
        exact ⟨⟨k + 1, rfl, hlt, HG⟩, by simp [intOf]; omega⟩
    · have g1 : decide ((k : Int) < 9) = false := by simp; omega
      have HE : Hid (isz x = false) := Lib.hid (by
        unfold isz
        cases h : sz.contains x
        · rfl
        · obtain ⟨j, hj, e⟩ := List.getElem_of_mem (List.contains_iff_mem.1 h)
          have hj' : j < 9 := hj
          exact absurd e (hG.out j hj (by omega)))
      go_wp2
      go_ret
      exact ⟨by rw [HE.out]; rfl, hb⟩
end Go.Proofs.Ythphgppgdlimeaa
