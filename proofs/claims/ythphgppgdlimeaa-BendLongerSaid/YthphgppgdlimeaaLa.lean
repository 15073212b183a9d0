/- Lengths: arcs, allowances, sums. -/
import Derived.Test.YthphgppgdlimeaaSt
namespace Go.Proofs.Ythphgppgdlimeaa
open Go.ChangeShapes Go.WideShapes Go.ChangeAt Go.RowKit
set_option linter.unusedVariables false
set_option linter.unusedSimpArgs false

def arcL (r : Int) : Int := (500 * r * 333).tdiv 106
def arcH (r : Int) : Int := (500 * r * 355 + 112).tdiv 113
def two (a b : Int) : Value := .agg #[.int .i64 a, .int .i64 b]
theorem arcL_e {r : Int} (h : 0 ≤ r) : arcL r = 166500 * r / 106 := by
  unfold arcL
  rw [Int.tdiv_eq_ediv_of_nonneg (by omega)]
  congr 1; omega
theorem arcH_e {r : Int} (h : 0 ≤ r) : arcH r = (177500 * r + 112) / 113 := by
  unfold arcH
  rw [Int.tdiv_eq_ediv_of_nonneg (by omega)]
  congr 1; omega
theorem arc_bd {r : Int} (h : 0 ≤ r ∧ r ≤ 1000) : (0 ≤ arcL r ∧ arcL r ≤ 2000000) ∧ 0 ≤ arcH r ∧ arcH r ≤ 2000000 := by
  rw [arcL_e h.1, arcH_e h.1]
  omega
theorem envb2 {w0 w : World} {l : List Fb} (h : Env w0 w l) : Below w0.heap.size w0 w := h.1
theorem Env.put2 {w0 w : World} {l : List Fb} (u0 u1 : Value) (h : Env w0 w l) (k : Nat) (hb : Nat.blt k l.length = true) :
    Env w0 ((w.setCell ⟨numB k l, 0, none⟩ u0).setCell ⟨numB k l, 1, none⟩ u1) (setB 1 u1 k (setB 0 u0 k l)) := by
  have e : ∀ (k : Nat) (l : List Fb) (i : Nat) (u : Value), numB k (setB i u k l) = numB k l := by
    intro k l i u
    induction l generalizing k with
    | nil => cases k <;> rfl
    | cons x l ih => cases k with
      | zero => rfl
      | succ k => exact ih k
  have e2 : ∀ (k : Nat) (l : List Fb) (i : Nat) (u : Value), (setB i u k l).length = l.length := by
    intro k l i u
    have := congrArg List.length (setB_g i u k l); simpa using this
  have h0 := h.put k 0 u0 hb
  have h1 := h0.put k 1 u1 (by rw [e2]; exact hb)
  simp only [e] at h1
  exact h1
def Bd (n : Int) : Prop := -1000000000000 ≤ n ∧ n ≤ 1000000000000
theorem exactly_any (n : Int) (h : Bd n) (w : World) : Calls Try.prog 47 #[.int .i64 n] w fun e w' => e = .returned (two (1000 * n) (1000 * n)) ∧ Below w.heap.size w w' := by
  unfold Bd at h
  have W1 : IntKind.i64.wrap (1000 * n) = 1000 * n := IntWalk.i64_in _ (by omega)
  clear h
  go_enter Try.func47, Try.ntmps47
  go_wp2
  exact bodyPost_ret (v := two (1000 * n) (1000 * n)) (by simp [results, Try.results47, go_sem, two]) rfl ⟨rfl, al1 w _⟩
theorem neg_any (a b : Int) (ha : Bd a) (hb : Bd b) (w : World) : Calls Try.prog 48 #[two a b] w fun e w' => e = .returned (two (-b) (-a)) ∧ Below w.heap.size w w' := by
  unfold Bd at ha hb
  have W1 : IntKind.i64.wrap (-a) = -a := IntWalk.i64_in _ (by omega)
  have W2 : IntKind.i64.wrap (-b) = -b := IntWalk.i64_in _ (by omega)
  clear ha hb
  unfold two
  go_enter Try.func48, Try.ntmps48
  go_wp2
  exact bodyPost_ret (v := two (-b) (-a)) (by simp [results, Try.results48, go_sem, two]) rfl ⟨rfl, al (al1 w _) _⟩
theorem plus_any (a b c d : Int) (ha : Bd a) (hb : Bd b) (hc : Bd c) (hd : Bd d) (w : World) : Calls Try.prog 46 #[two a b, two c d] w fun e w' => e = .returned (two (a + c) (b + d)) ∧ Below w.heap.size w w' := by
  unfold Bd at ha hb hc hd
  have W1 : IntKind.i64.wrap (a + c) = a + c := IntWalk.i64_in _ (by omega)
  have W2 : IntKind.i64.wrap (b + d) = b + d := IntWalk.i64_in _ (by omega)
  clear ha hb hc hd
  unfold two
  have E := ((Env.nil w).add w.heap.size 62 #[.int .i64 a, .int .i64 b] rfl).add (w.heap.size + 1) 62 #[.int .i64 c, .int .i64 d] (by simp)
  have C := E.cells
  simp [BC, CF] at C
  go_enter Try.func46, Try.ntmps46
  go_wp2
  exact bodyPost_ret (v := two (a + c) (b + d)) (by simp [results, Try.results46, go_sem, two]) rfl ⟨rfl, al (al (al1 w _) _) _⟩
theorem rup113 (n : Int) (h : Bd n) (w : World) : Calls Try.prog 49 #[.int .i64 n, .int .i64 113] w fun e w' => e = .returned (.int .i64 ((n + 112).tdiv 113)) ∧ w = w' := by
  unfold Bd at h
  have W1 : IntKind.i64.wrap (n + 113) = n + 113 := IntWalk.i64_in _ (by omega)
  have W2 : IntKind.i64.wrap (n + 113 - 1) = n + 112 := by rw [IntWalk.i64_in _ (by omega)]; omega
  have W3 : IntKind.i64.wrap ((n + 112).tdiv 113) = (n + 112).tdiv 113 := IntWalk.i64_in _ (by
    have := Int.natAbs_tdiv_le_natAbs (n + 112) 113
    omega)
  clear h
  go_enter Try.func49, Try.ntmps49
  go_wp2
  go_ret
  exact ⟨rfl, rfl⟩
theorem rup5000 (n : Int) (h : Bd n) (w : World) : Calls Try.prog 49 #[.int .i64 n, .int .i64 5000] w fun e w' => e = .returned (.int .i64 ((n + 4999).tdiv 5000)) ∧ w = w' := by
  unfold Bd at h
  have W1 : IntKind.i64.wrap (n + 5000) = n + 5000 := IntWalk.i64_in _ (by omega)
  have W2 : IntKind.i64.wrap (n + 5000 - 1) = n + 4999 := by rw [IntWalk.i64_in _ (by omega)]; omega
  have W3 : IntKind.i64.wrap ((n + 4999).tdiv 5000) = (n + 4999).tdiv 5000 := IntWalk.i64_in _ (by
    have := Int.natAbs_tdiv_le_natAbs (n + 4999) 5000
    omega)
  clear h
  go_enter Try.func49, Try.ntmps49
  go_wp2
  go_ret
  exact ⟨rfl, rfl⟩
def Rr (r : Int) : Prop := 0 ≤ r ∧ r ≤ 1000
theorem arcof_any (r : Int) (h : Rr r) (w : World) : Calls Try.prog 41 #[.int .i64 r] w fun e w' => e = .returned (two (arcL r) (arcH r)) ∧ Below w.heap.size w w' := by
  have hu := fun W => rup113 (500 * r * 355) (by unfold Rr at h; unfold Bd; omega) W
  have e1 : (500 * r * 355 + 112).tdiv 113 = arcH r := rfl
  have e2 : (500 * r * 333).tdiv 106 = arcL r := rfl
  have b := arc_bd h
  unfold Rr at h
  have W1 : IntKind.i64.wrap (500 * r) = 500 * r := IntWalk.i64_in _ (by omega)
  have W2 : IntKind.i64.wrap (500 * r * 333) = 500 * r * 333 := IntWalk.i64_in _ (by omega)
  have W3 : IntKind.i64.wrap (500 * r * 355) = 500 * r * 355 := IntWalk.i64_in _ (by omega)
  have W4 : IntKind.i64.wrap ((500 * r * 333).tdiv 106) = (500 * r * 333).tdiv 106 := by rw [e2]; exact IntWalk.i64_in _ (by omega)
  rw [e1] at hu
  have HE := Lib.hid e2
  clear h b e1 e2
  generalize arcH r = X at *
  go_enter Try.func41, Try.ntmps41
  go_wp2_with (go_at_call 49; (with_reducible refine (hu _).mono ?_); rintro e' w1 ⟨rfl, rfl⟩)
  exact bodyPost_ret (v := two ((500 * r * 333).tdiv 106) X) (by simp [results, Try.results41, go_sem, two]) rfl ⟨by rw [HE.out], al1 w _⟩
def alwL (r : Int) : Int := 2000 * r - arcH r
def alwH (r : Int) : Int := 2000 * r - arcL r
theorem alw_bd {r : Int} (h : Rr r) : Bd (alwL r) ∧ Bd (alwH r) ∧ -2000000 ≤ alwL r ∧ alwL r ≤ 2000000 ∧ -2000000 ≤ alwH r ∧ alwH r ≤ 2000000 := by
  have b := arc_bd h
  unfold Rr at h
  unfold Bd alwL alwH
  omega
theorem alwof_any (r : Int) (h : Rr r) (w : World) : Calls Try.prog 42 #[.int .i64 r] w fun e w' => e = .returned (two (alwL r) (alwH r)) ∧ Below w.heap.size w w' := by
  have b := arc_bd h
  have ha := fun W => arcof_any r h W
  unfold Rr at h
  have W1 : IntKind.i64.wrap (2 * r) = 2 * r := IntWalk.i64_in _ (by omega)
  have hx := fun W => exactly_any (2 * r) (by unfold Bd; omega) W
  have hn := fun W => neg_any (arcL r) (arcH r) (by unfold Bd; omega) (by unfold Bd; omega) W
  have hp := fun W => plus_any (1000 * (2 * r)) (1000 * (2 * r)) (-arcH r) (-arcL r) (by unfold Bd; omega) (by unfold Bd; omega) (by unfold Bd; omega) (by unfold Bd; omega) W
  have e1 : 1000 * (2 * r) + -arcH r = alwL r := by unfold alwL; omega
  have e2 : 1000 * (2 * r) + -arcL r = alwH r := by unfold alwH; omega
  rw [e1, e2] at hp
  clear e1 e2 b h
  unfold two at *
  generalize 1000 * (2 * r) = u at *
  generalize arcL r = x at *
  generalize arcH r = y at *
  generalize alwL r = p at *
  generalize alwH r = q at *
  have E := (Env.nil w).add w.heap.size 62 #[.int .i64 0, .int .i64 0] rfl
  have C := E.cells
  simp [BC, CF] at C
  go_enter Try.func42, Try.ntmps42
  go_wp2_with (first
    | (go_at_call 47; (with_reducible refine (hx _).mono ?_); rintro X wq ⟨rfl, hb⟩; replace E := E.on hb; replace C := E.cells; simp [BC, CF] at C; clear hb)
    | (go_at_call 41; (with_reducible refine (ha _).mono ?_); rintro X wq ⟨rfl, hb⟩; replace E := E.on hb; replace C := E.cells; simp [BC, CF] at C; clear hb)
    | (go_at_call 48; (with_reducible refine (hn _).mono ?_); rintro X wq ⟨rfl, hb⟩; replace E := E.on hb; replace C := E.cells; simp [BC, CF] at C; clear hb)
    | (go_at_call 46; (with_reducible refine (hp _).mono ?_); rintro X wq ⟨rfl, hb⟩; replace E := E.on hb; replace C := E.cells; simp [BC, CF] at C; clear hb))
  exact bodyPost_ret (v := .agg #[.int .i64 p, .int .i64 q]) (by simp [results, Try.results42, go_sem, *]) rfl ⟨rfl, envb2 (E.put2 (.int .i64 p) (.int .i64 q) 0 rfl)⟩
end Go.Proofs.Ythphgppgdlimeaa
