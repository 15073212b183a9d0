/- Sort of three numbers; equality of lists of numbers; parts of a length. -/
import Derived.Test.YtmfclelnaceonaaV
import Derived.Test.YtmfclelnaceonaaShf
import Derived.Test.YtmfclelnaceonaaPl2
namespace Go.Proofs.Ytmfclelnaceonaa
open Go.ChangeShapes Go.WideShapes Go.ChangeAt Go.RowKit
set_option linter.unusedVariables false
set_option linter.unusedSimpArgs false

theorem sort3 (g : Nat) (x y z : Int) (w : World) (h : Has w g 3 #[.int .i64 x, .int .i64 y, .int .i64 z]) :
    Calls Try.prog 33 #[.slice (some ⟨g, 0, none⟩) 3 3] w fun e w' => e = .returned (.tuple #[]) ∧ ∃ u v t, ((u ≤ v ∧ u ≤ t) ∧ v ≤ t) ∧ [u, v, t].Perm [x, y, z] ∧ Has w' g 3 #[.int .i64 u, .int .i64 v, .int .i64 t] ∧ Below g w w' := by
  have hH : Sort.Holds (Value.int .i64) w g 0 [x, y, z].toArray := fun j hj => by
    have hj' : j < 3 := by simpa using hj
    rw [Nat.zero_add]
    refine ⟨?_, h.open_ j⟩
    rw [h.read j]
    rcases (by omega : j = 0 ∨ j = 1 ∨ j = 2) with rfl | rfl | rfl <;> rfl
  refine (Try.slices_Sort_int g 0 3 [x, y, z] w hH h.size_ (by simp)).mono ?_
  rintro e w' ⟨rfl, n, os, rfl⟩
  have hp : ([x, y, z].mergeSort fun x y => decide (x ≤ y)).Pairwise (fun a b => decide (a ≤ b) = true) := List.pairwise_mergeSort (by simp; omega) (by simp; omega) _
  have hq : ([x, y, z].mergeSort fun x y => decide (x ≤ y)).Perm [x, y, z] := List.mergeSort_perm _ _
  have hl : ([x, y, z].mergeSort fun x y => decide (x ≤ y)).length = 3 := List.length_mergeSort ..
  generalize ([x, y, z].mergeSort fun x y => decide (x ≤ y)) = S at *
  match S, hl, hp, hq with
  | [u, v, t], _, hp, hq =>
    simp at hp
    refine ⟨rfl, u, v, t, hp, hq, ?_, ⟨rfl, rfl, rfl, ?_, fun k hk => ?_⟩⟩
    · have hlt := h.size_
      unfold Has
      show ((w.heap.modify g (Sort.onCells (Sort.putCells (Value.int .i64) 0 [u, v, t].toArray))) ++ os)[g]? = _
      rw [Array.getElem?_append_left (by simp; exact hlt), Array.getElem?_modify, if_pos rfl, h]
      rfl
    · show w.heap.size ≤ ((w.heap.modify g (Sort.onCells (Sort.putCells (Value.int .i64) 0 [u, v, t].toArray))) ++ os).size
      simp
    · have hlt := h.size_
      show ((w.heap.modify g (Sort.onCells (Sort.putCells (Value.int .i64) 0 [u, v, t].toArray))) ++ os)[k]? = _
      rw [Array.getElem?_append_left (by simp; omega), Array.getElem?_modify, if_neg (by omega)]
theorem sorted3 {a b c x y z : Int} (h : ((a ≤ b ∧ a ≤ c) ∧ b ≤ c)) (k : ((x ≤ y ∧ x ≤ z) ∧ y ≤ z)) (hp : [a, b, c].Perm [x, y, z]) : a = x ∧ b = y ∧ c = z := by
  have := List.Perm.eq_of_pairwise (le := fun (a b : Int) => a ≤ b) (l₁ := [a, b, c]) (l₂ := [x, y, z]) (fun a b _ _ h1 h2 => by omega) (by simp; omega) (by simp; omega) hp
  simpa using this
/-- A row of whole numbers that can be read. -/
def Rdz (w : World) (v : Value) (zs : List Int) : Prop := ∃ q c, v = .slice q zs.length c ∧ ∀ j (h : j < zs.length), ∃ a, q = some a ∧ w.cell? (a.add j) = some (.int .i64 zs[j])
theorem Rdz.three {w : World} {g : Nat} {x y z : Int} (h : Has w g 3 #[.int .i64 x, .int .i64 y, .int .i64 z]) : Rdz w (.slice (some ⟨g, 0, none⟩) 3 3) [x, y, z] := by
  refine ⟨_, 3, rfl, fun j hj => ⟨_, rfl, ?_⟩⟩
  rw [Addr.add_lit, Nat.zero_add, h.read]
  have hj' : j < 3 := hj
  rcases (by omega : j = 0 ∨ j = 1 ∨ j = 2) with rfl | rfl | rfl <;> rfl
set_option maxRecDepth 100000 in
set_option maxHeartbeats 2000000 in
theorem equalz_any (v v' : Value) (xs ys : List Int) (w : World) (h1 : Rdz w v xs) (h2 : Rdz w v' ys) (hx : xs.length ≤ 100000) :
    Calls Try.prog 34 #[v, v'] w fun e w' => e = .returned (.bool (decide (xs = ys))) ∧ Below w.heap.size w w' := by
  obtain ⟨q, c, rfl, k1⟩ := h1
  obtain ⟨q', c', rfl, k2⟩ := h2
  by_cases hl : xs.length = ys.length
  · have t1 : ((xs.length : Int) != (ys.length : Int)) = false := by simp; omega
    have HL := Lib.hid hl
    have K1 := Lib.hid k1
    have K2 := Lib.hid k2
    clear hl k1 k2
    go_enter Try.func34, Try.ntmps34
    go_wp2
    go_loopw [13] (fun v wr => ∃ k : Nat, v = .int .i64 k ∧ k ≤ xs.length ∧ Hid (∀ j (a : j < xs.length) (b : j < ys.length), j < k → xs[j] = ys[j]) ∧ ∃ n, wr = w.drewN n) (fun v _ => xs.length - (intOf v).toNat)
    case atStart => exact ⟨0, rfl, Nat.zero_le _, Lib.hid (fun j a b h => absurd h (Nat.not_lt_zero j)), 0, rfl⟩
    case round =>
      obtain ⟨k, rfl, hk, hE, nd, rfl⟩ := hrel
      by_cases hlt : k < xs.length
      · have g1 : decide ((k : Int) < (xs.length : Int)) = true := by simp [hlt]
        have hlt2 : k < ys.length := by rw [← HL.out]; exact hlt
        have W1 : IntKind.i64.wrap ((k : Int) + 1) = ((k + 1 : Nat) : Int) := by rw [IntWalk.i64_in _ (by omega)]; omega
        obtain ⟨g, rfl, c1⟩ := K1.out k hlt
        obtain ⟨g', rfl, c2⟩ := K2.out k hlt2
        obtain ⟨x, hxx⟩ : ∃ x, x = xs[k] := ⟨_, rfl⟩
        obtain ⟨y, hyy⟩ : ∃ y, y = ys[k] := ⟨_, rfl⟩
        rw [← hxx] at c1
        rw [← hyy] at c2
        have HX := Lib.hid hxx
        have HY := Lib.hid hyy
        clear hxx hyy
        have q1 : (0 : Int) ≤ (k : Int) := by omega
        have q2 : (k : Int) < (xs.length : Int) := by omega
        have q3 : (k : Int) < (ys.length : Int) := by omega
        by_cases e : x = y
        · have HE : Hid (∀ j (a : j < xs.length) (b : j < ys.length), j < k + 1 → xs[j] = ys[j]) := Lib.hid fun j a b h => by
            rcases Nat.lt_or_ge j k with h1 | h1
            · exact hE.out j a b h1
            · have : j = k := by omega
              subst this
              rw [← HX.out, ← HY.out, e]
          subst e
          have t2 : ((x : Int) != (x : Int)) = false := by simp
          go_wp2_with fail
          go_quiet (fail)
          go_wp2
          exact ⟨⟨k + 1, rfl, hlt, HE, _, rfl⟩, by simp [intOf]; omega⟩
        · have HN := Lib.hid e
          have t2 : ((x : Int) != (y : Int)) = true := by simp; omega
          clear e
          go_wp2_with fail
          go_quiet (fail)
          go_wp2
          go_ret
          refine ⟨?_, by first | exact below_drewN (Below.refl _ _) _ | exact below_drewN (below_drewN (Below.refl _ _) _) _⟩
          have : decide (xs = ys) = false := by
            apply decide_eq_false
            intro h
            subst h
            exact HN.out (by rw [HX.out, HY.out])
          rw [this]; rfl
      · have g1 : decide ((k : Int) < (xs.length : Int)) = false := by simp; omega
        go_wp2
        go_ret
        refine ⟨?_, below_drewN (Below.refl _ _) _⟩
        have : decide (xs = ys) = true := decide_eq_true (List.ext_getElem HL.out fun j a b => hE.out j a b (by omega))
        rw [this]; rfl
  · have t1 : ((xs.length : Int) != (ys.length : Int)) = true := by simp; omega
    have HN := Lib.hid hl
    clear hl k1 k2
    go_enter Try.func34, Try.ntmps34
    go_wp2
    go_ret
    refine ⟨?_, Below.refl _ _⟩
    have : decide (xs = ys) = false := by
      apply decide_eq_false
      intro h
      exact HN.out (by rw [h])
    rw [this]; rfl
def prt (n p : Int) : Int := (n * p).tdiv 65535
theorem prt_bd {n p : Int} (hn : 0 ≤ n) (hp : 0 ≤ p ∧ p ≤ 65535) : 0 ≤ prt n p ∧ prt n p ≤ n := by
  unfold prt
  have h0 : 0 ≤ n * p := Int.mul_nonneg hn hp.1
  have h1 : n * p ≤ n * 65535 := Int.mul_le_mul_of_nonneg_left hp.2 hn
  rw [Int.tdiv_eq_ediv_of_nonneg h0]
  omega
theorem part_32 (n p : Int) (hn : 0 ≤ n ∧ n ≤ 4194304) (hp : 0 ≤ p ∧ p ≤ 65535) (w : World) : Calls Try.prog 32 #[.int .i64 n, .int .u16 p] w fun e w' => e = .returned (.int .i64 (prt n p)) ∧ w = w' := by
  have m := mulb (a := n) (b := p) (A := 4194304) (B := 65535) (by omega) (by omega)
  have b := prt_bd hn.1 hp
  have W1 : IntKind.i64.wrap p = p := IntWalk.i64_in _ (by omega)
  have W2 : IntKind.i64.wrap (n * p) = n * p := IntWalk.i64_in _ (by omega)
  have e : (n * p).tdiv 65535 = prt n p := rfl
  have W3 : IntKind.i64.wrap ((n * p).tdiv 65535) = (n * p).tdiv 65535 := by rw [e]; exact IntWalk.i64_in _ (by omega)
  rw [← e]
  clear m b e hn hp
  go_enter Try.func32, Try.ntmps32
  go_wp2
  go_ret
  exact ⟨rfl, rfl⟩
end Go.Proofs.Ytmfclelnaceonaa
