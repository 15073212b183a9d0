/- The reference's Path; GraphBridges: the walk. -/
import Derived.Test.YtampfciacjifgaaBw0
import Derived.Test.YtampfciacjifgaaGp
namespace Go.Proofs.Ytampfciacjifgaa
open Go.ChangeShapes Go.WideShapes Go.ChangeAt Go.RowKit
set_option linter.unusedVariables false
set_option linter.unusedSimpArgs false

/-- The path that every search gives. -/
def Pth (l : List (Nat × Nat)) (n a b : Nat) (xs : List Nat) : Prop := ∀ g, Sp (nbr l n (adj l (List.range l.length))) minus1 g b → xs = gp l (adj l (List.range l.length)) g (g a).toNat a
theorem path_pth (p : Option Addr) (n : Nat) (l : List (Nat × Nat)) (cap a b : Nat) (w : World) (hG : Gr w p n l) (ha : a < n) (hb : b < n) (hj : pre l l.length a = pre l l.length b) :
    Calls Try.prog 26 #[.int .i64 n, .slice p l.length cap, .int .i64 a, .int .i64 b] w fun e w' => ∃ v xs, e = .returned (.tuple #[v, .int .i64 0]) ∧ Own w.heap.size w' v xs ∧ Pth l n a b xs ∧ xs.length ≤ 1000 ∧ Below w.heap.size w w' := by
  have hl : ∀ x ∈ l, x.1 < n ∧ x.2 < n ∧ x.1 ≠ x.2 := hG.2.2.2
  have hn := hG.2.2.1
  have sy : ∀ u v, nbr l n (adj l (List.range l.length)) u v → nbr l n (adj l (List.range l.length)) v u := fun u v h => nbr_symm hl h
  refine (path_ok p n l cap a b w hG ha hb).mono ?_
  rintro e w' ⟨f, hS, hB, hno, hyes⟩
  have h0 := (sp_joined hl hS).2 hj
  obtain ⟨v, he, ho⟩ := hyes h0
  have hlen := (gp_leads hl hS (f a).toNat a ha (by omega)).2
  refine ⟨v, _, he, ho, fun g hg => ?_, by have := sp_small hl hS ha; omega, hB⟩
  have : f = g := funext (sp_uniq sy hS hg)
  rw [this]
theorem rway_yes (p : Option Addr) (n : Nat) (l : List (Nat × Nat)) (cap : Nat) (u : Value) (a b : Nat) (w : World) (hG : Gr w p n l) (hR : Rdl w u (List.range l.length)) (ha : a < n) (hb : b < n) (hj : pre l l.length a = pre l l.length b) :
    Calls Try.prog 50 #[.int .i64 n, .slice p l.length cap, u, .int .i64 a, .int .i64 b] w fun e w' => ∃ v xs, e = .returned (.tuple #[v, .bool true]) ∧ Own w.heap.size w' v xs ∧ (∀ ys, Pth l n a b ys → ys = xs) ∧ Below w.heap.size w w' := by
  have hl : ∀ x ∈ l, x.1 < n ∧ x.2 < n ∧ x.1 ≠ x.2 := hG.2.2.2
  refine (way_any p n l cap u (List.range l.length) a b w hG hR (fun i hi => List.mem_range.1 hi) (by simp; exact hG.2.1) ha hb).mono ?_
  rintro e w' ⟨g, hS, hB, hno, hyes⟩
  obtain ⟨v, he, ho⟩ := hyes ((sp_joined hl hS).2 hj)
  exact ⟨v, _, he, ho, fun ys h => h g hS, hB⟩
theorem rway_not (p : Option Addr) (n : Nat) (l : List (Nat × Nat)) (cap : Nat) (u : Value) (a b : Nat) (w : World) (hG : Gr w p n l) (hR : Rdl w u (List.range l.length)) (ha : a < n) (hb : b < n) (hj : pre l l.length a ≠ pre l l.length b) :
    Calls Try.prog 50 #[.int .i64 n, .slice p l.length cap, u, .int .i64 a, .int .i64 b] w fun e w' => e = .returned (.tuple #[.slice none 0 0, .bool false]) ∧ Below w.heap.size w w' := by
  have hl : ∀ x ∈ l, x.1 < n ∧ x.2 < n ∧ x.1 ≠ x.2 := hG.2.2.2
  refine (way_any p n l cap u (List.range l.length) a b w hG hR (fun i hi => List.mem_range.1 hi) (by simp; exact hG.2.1) ha hb).mono ?_
  rintro e w' ⟨g, hS, hB, hno, hyes⟩
  exact ⟨hno (by
    rcases Int.lt_or_le (g a) 0 with k | k
    · exact k
    · exact absurd ((sp_joined hl hS).1 k) hj), hB⟩
theorem pth_not (p : Option Addr) (n : Nat) (l : List (Nat × Nat)) (cap a b : Nat) (w : World) (hG : Gr w p n l) (ha : a < n) (hb : b < n) (hj : pre l l.length a ≠ pre l l.length b) :
    Calls Try.prog 26 #[.int .i64 n, .slice p l.length cap, .int .i64 a, .int .i64 b] w fun e w' => e = .returned (.tuple #[.slice none 0 0, .int .i64 12]) ∧ Below w.heap.size w w' := by
  have hl : ∀ x ∈ l, x.1 < n ∧ x.2 < n ∧ x.1 ≠ x.2 := hG.2.2.2
  refine (path_ok p n l cap a b w hG ha hb).mono ?_
  rintro e w' ⟨f, hS, hB, hno, hyes⟩
  exact ⟨hno (by
    rcases Int.lt_or_le (f a) 0 with k | k
    · exact k
    · exact absurd ((sp_joined hl hS).1 k) hj), hB⟩
set_option maxRecDepth 100000 in
theorem rpath_no (p : Option Addr) (n a b : Int) (l : List (Int × Int)) (cap : Nat) (w : World) (hS : Sl w p l) (h : vG n l = false) :
    Calls Try.prog 27 #[.int .i64 n, .slice p l.length cap, .int .i64 a, .int .i64 b] w fun e w' => e = .returned (.tuple #[.slice none 0 0, .int .i64 1]) ∧ Below w.heap.size w w' := by
  have hv := rvalid_any p l cap n w hS
  rw [h] at hv
  go_enter Try.func27, Try.ntmps27
  go_wp2_with (go_at_call 13; (with_reducible refine hv.mono ?_); rintro e w1 ⟨rfl, b1⟩)
  exact bodyPost_ret (v := .tuple #[.slice none 0 0, .int .i64 1]) (by simp [results, Try.results27, go_sem]) rfl ⟨rfl, b1⟩
theorem rvalid_ok {p : Option Addr} {n : Nat} {l : List (Nat × Nat)} {w : World} (cap : Nat) (h : Gr w p n l) :
    Calls Try.prog 13 #[.int .i64 n, .slice p l.length cap] w fun e w' => e = .returned (.bool true) ∧ Below w.heap.size w w' := by
  have k := rvalid_any p (cast2 l) cap n w h.1
  rw [valid_gr h, cast2_len] at k
  exact k
set_option maxRecDepth 100000 in
theorem rpath_range (p : Option Addr) (n : Nat) (a b : Int) (l : List (Nat × Nat)) (cap : Nat) (w : World) (hG : Gr w p n l) (h : (wi a n && wi b n) = false) :
    Calls Try.prog 27 #[.int .i64 n, .slice p l.length cap, .int .i64 a, .int .i64 b] w fun e w' => e = .returned (.tuple #[.slice none 0 0, .int .i64 2]) ∧ Below w.heap.size w w' := by
  have hc : a < 0 ∨ (¬ a < 0 ∧ (n : Int) ≤ a) ∨ ((¬ a < 0 ∧ ¬ (n : Int) ≤ a) ∧ b < 0) ∨ ((¬ a < 0 ∧ ¬ (n : Int) ≤ a) ∧ (¬ b < 0) ∧ (n : Int) ≤ b) := by
    have : ¬ (0 ≤ a ∧ a < n ∧ 0 ≤ b ∧ b < n) := fun ⟨h1, h2, h3, h4⟩ => by
      unfold wi at h
      rw [decide_eq_true h1, decide_eq_true h2, decide_eq_true h3, decide_eq_true h4] at h
      cases h
    omega
  clear h
  rcases hc with h1 | ⟨h0, h1⟩ | ⟨⟨h0, h1⟩, h2⟩ | ⟨⟨h0, h1⟩, h2, h3⟩
  all_goals (
    go_enter Try.func27, Try.ntmps27
    go_wp2_with (go_at_call 13; (with_reducible refine (rvalid_ok cap hG).mono ?_); rintro e w1 ⟨rfl, b1⟩)
    exact bodyPost_ret (v := .tuple #[.slice none 0 0, .int .i64 2]) (by simp [results, Try.results27, go_sem]) rfl ⟨rfl, b1⟩)
set_option maxRecDepth 100000 in
theorem rpath_in (p : Option Addr) (n a b : Nat) (l : List (Nat × Nat)) (cap : Nat) (w : World) (hG : Gr w p n l) (ha : a < n) (hb : b < n) :
    Calls Try.prog 27 #[.int .i64 n, .slice p l.length cap, .int .i64 a, .int .i64 b] w fun e w' => Below w.heap.size w w' ∧
      (pre l l.length a ≠ pre l l.length b → e = .returned (.tuple #[.slice none 0 0, .int .i64 12])) ∧
      (pre l l.length a = pre l l.length b → ∃ v xs, e = .returned (.tuple #[v, .int .i64 0]) ∧ Own w.heap.size w' v xs ∧ ∀ ys, Pth l n a b ys → ys = xs) := by
  have hm := hG.2.1
  have h1 : ¬ (a : Int) < 0 := by omega
  have h2 : ¬ (n : Int) ≤ (a : Int) := by omega
  have h3 : ¬ (b : Int) < 0 := by omega
  have h4 : ¬ (n : Int) ≤ (b : Int) := by omega
  by_cases hj : pre l l.length a = pre l l.length b
  · have HJ := Lib.hid hj
    have hw := fun u W g r => rway_yes p n l cap u a b W g r ha hb hj
    clear hj
    go_enter Try.func27, Try.ntmps27
    go_wp2_with (first
      | (go_at_call 13; (with_reducible refine (rvalid_ok cap hG).mono ?_); rintro e w1 ⟨rfl, b1⟩; have G1 := hG.on b1)
      | (go_at_call 60; (with_reducible refine (rall_any p l.length cap _ hm).mono ?_); rintro e w2 ⟨v2, rfl, o2, b2⟩; have G2 := G1.on b2; have r2 := Own.rd o2)
      | (go_at_call 50; (with_reducible refine (hw v2 _ G2 r2).mono ?_); rintro e w3 ⟨v3, xs, rfl, o3, p3, b3⟩))
    refine bodyPost_ret (v := .tuple #[v3, .int .i64 0]) (by simp [results, Try.results27, go_sem]) rfl ⟨belows (belows b1 b2) b3, fun h => absurd HJ.out h, fun _ => ⟨v3, xs, rfl, Own.mono o3 (belows b1 b2).size, p3⟩⟩
  · have HJ := Lib.hid hj
    have hw := fun u W g r => rway_not p n l cap u a b W g r ha hb hj
    clear hj
    go_enter Try.func27, Try.ntmps27
    go_wp2_with (first
      | (go_at_call 13; (with_reducible refine (rvalid_ok cap hG).mono ?_); rintro e w1 ⟨rfl, b1⟩; have G1 := hG.on b1)
      | (go_at_call 60; (with_reducible refine (rall_any p l.length cap _ hm).mono ?_); rintro e w2 ⟨v2, rfl, o2, b2⟩; have G2 := G1.on b2; have r2 := Own.rd o2)
      | (go_at_call 50; (with_reducible refine (hw v2 _ G2 r2).mono ?_); rintro e w3 ⟨rfl, b3⟩))
    refine bodyPost_ret (v := .tuple #[.slice none 0 0, .int .i64 12]) (by simp [results, Try.results27, go_sem]) rfl ⟨belows (belows b1 b2) b3, fun _ => rfl, fun h => absurd h HJ.out⟩
theorem rdl_nil (w : World) : Rdl w (.slice none 0 0) [] := ⟨none, 0, rfl, fun j hj => absurd hj (Nat.not_lt_zero j)⟩
theorem equal_nil (w : World) : Calls Try.prog 17 #[.slice none 0 0, .slice none 0 0] w fun e w' => e = .returned (.bool true) ∧ Below w.heap.size w w' :=
  (equal_any (.slice none 0 0) (.slice none 0 0) [] [] w (rdl_nil w) (rdl_nil w) (by simp)).mono fun e w' k => ⟨k.1, drewN_below k.2⟩
theorem equal_same (v v' : Value) (xs : List Nat) (w : World) (h1 : Rdl w v xs) (h2 : Rdl w v' xs) (hx : xs.length ≤ 100000) : Calls Try.prog 17 #[v, v'] w fun e w' => e = .returned (.bool true) ∧ Below w.heap.size w w' :=
  (equal_any v v' xs xs w h1 h2 hx).mono fun e w' k => ⟨by rw [k.1, decide_eq_true rfl], drewN_below k.2⟩
end Go.Proofs.Ytampfciacjifgaa
