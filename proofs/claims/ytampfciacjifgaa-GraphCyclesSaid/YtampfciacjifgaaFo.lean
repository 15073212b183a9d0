/- The forest of a graph, and how many cycles there are. -/
import Derived.Test.YtampfciacjifgaaVal
namespace Go.Proofs.Ytampfciacjifgaa
open Go.ChangeShapes Go.WideShapes Go.ChangeAt Go.RowKit
set_option linter.unusedVariables false
set_option linter.unusedSimpArgs false

theorem gr_of_valid {w : World} {p : Option Addr} {n : Int} {l : List (Int × Int)} (hS : Sl w p l) (h : vG n l = true) : ∃ (m : Nat) (k : List (Nat × Nat)), n = (m : Int) ∧ l = cast2 k ∧ l.length = k.length ∧ Gr w p m k := by
  unfold vG at h
  rw [Bool.and_eq_true] at h
  have h1 := of_decide_eq_true h.1
  have h2 := List.all_eq_true.1 h.2
  have ok : ∀ x ∈ l, (0 ≤ x.1 ∧ x.1 < n) ∧ (0 ≤ x.2 ∧ x.2 < n) ∧ x.1 ≠ x.2 := fun x hx => by
    have := h2 x hx
    simp [okE, wi] at this
    exact ⟨this.1.2, this.2, this.1.1⟩
  have e : l = cast2 (l.map fun x => (x.1.toNat, x.2.toNat)) := by
    unfold cast2
    rw [List.map_map]
    conv => lhs; rw [← List.map_id l]
    refine List.map_congr_left fun x hx => ?_
    have := ok x hx
    apply Prod.ext <;> simp <;> omega
  refine ⟨n.toNat, l.map fun x => (x.1.toNat, x.2.toNat), by omega, e, by simp, ?_, by simpa using h1.2.2, by omega, fun x hx => ?_⟩
  · rw [← e]; exact hS
  · obtain ⟨y, hy, rfl⟩ := List.mem_map.1 hx
    have := ok y hy
    exact ⟨by simp; omega, by simp; omega, fun e => this.2.2 (by have e' : y.1.toNat = y.2.toNat := e; omega)⟩
theorem valid_gr {w : World} {p : Option Addr} {n : Nat} {l : List (Nat × Nat)} (h : Gr w p n l) : vG n (cast2 l) = true := by
  unfold vG
  rw [Bool.and_eq_true]
  refine ⟨decide_eq_true ⟨by omega, by have := h.2.2.1; omega, by simpa [cast2] using h.2.1⟩, List.all_eq_true.2 fun x hx => ?_⟩
  obtain ⟨y, hy, rfl⟩ := List.mem_map.1 hx
  have := h.2.2.2 y hy
  simp [okE, wi]
  omega
theorem cast2_len (l : List (Nat × Nat)) : (cast2 l).length = l.length := by simp [cast2]
theorem valid_ok {p : Option Addr} {n : Nat} {l : List (Nat × Nat)} {w : World} (cap : Nat) (h : Gr w p n l) :
    Calls Try.prog 14 #[.int .i64 n, .slice p l.length cap] w fun e w' => e = .returned (.bool true) ∧ Below w.heap.size w w' := by
  have k := valid_any p (cast2 l) cap n w h.1
  rw [valid_gr h, cast2_len] at k
  exact k
theorem Own.mono {B B' : Nat} {w : World} {v : Value} {xs : List Nat} (h : Own B w v xs) (hB : B' ≤ B) : Own B' w v xs := by
  obtain ⟨hl, h0 | ⟨g, cap, cur, rfl, hg, r⟩⟩ := h
  · exact ⟨hl, .inl h0⟩
  · exact ⟨hl, .inr ⟨g, cap, cur, rfl, Nat.le_trans hB hg, r⟩⟩
set_option maxRecDepth 100000 in
theorem forest_ok (p : Option Addr) (n : Nat) (l : List (Nat × Nat)) (cap : Nat) (w : World) (hG : Gr w p n l) :
    Calls Try.prog 12 #[.int .i64 n, .slice p l.length cap] w fun e w' => ∃ v, e = .returned (.tuple #[v, .int .i64 0]) ∧ Own w.heap.size w' v (inF l l.length) ∧ Below w.heap.size w w' := by
  go_enter Try.func12, Try.ntmps12
  go_wp2_with (first | (go_at_call 14; (with_reducible refine (valid_ok cap hG).mono ?_); rintro e w1 ⟨rfl, b1⟩; have hG1 := hG.on b1) | (go_at_call 40; (with_reducible refine (divide_any p n l cap _ hG1).mono ?_); rintro e w2 ⟨v4, v5, rfl, o4, o5, -, b2⟩))
  refine bodyPost_ret (v := .tuple #[v4, .int .i64 0]) (by simp [results, Try.results12, go_sem]) rfl ⟨v4, rfl, ?_, ?_⟩
  · exact Own.mono o4 (Nat.le_succ_of_le b1.size)
  · exact belows b1 b2
set_option maxRecDepth 100000 in
theorem forest_no (p : Option Addr) (n : Int) (l : List (Int × Int)) (cap : Nat) (w : World) (hS : Sl w p l) (h : vG n l = false) :
    Calls Try.prog 12 #[.int .i64 n, .slice p l.length cap] w fun e w' => e = .returned (.tuple #[.slice none 0 0, .int .i64 1]) ∧ Below w.heap.size w w' := by
  have hv := valid_any p l cap n w hS
  rw [h] at hv
  go_enter Try.func12, Try.ntmps12
  go_wp2_with (go_at_call 14; (with_reducible refine hv.mono ?_); rintro e w1 ⟨rfl, b1⟩)
  exact bodyPost_ret (v := .tuple #[.slice none 0 0, .int .i64 1]) (by simp [results, Try.results12, go_sem]) rfl ⟨rfl, b1⟩
set_option maxRecDepth 100000 in
theorem count_ok (p : Option Addr) (n : Nat) (l : List (Nat × Nat)) (cap : Nat) (w : World) (hG : Gr w p n l) :
    Calls Try.prog 20 #[.int .i64 n, .slice p l.length cap] w fun e w' => e = .returned (.tuple #[.int .i64 ((outF l l.length).length : Nat), .int .i64 0]) ∧ Below w.heap.size w w' := by
  go_enter Try.func20, Try.ntmps20
  go_wp2_with (first | (go_at_call 14; (with_reducible refine (valid_ok cap hG).mono ?_); rintro e w1 ⟨rfl, b1⟩; have hG1 := hG.on b1) | (go_at_call 40; (with_reducible refine (divide_any p n l cap _ hG1).mono ?_); rintro e w2 ⟨v4, v5, rfl, o4, o5, -, b2⟩; obtain ⟨q, c, rfl⟩ : ∃ q c, v5 = .slice q (outF l l.length).length c := (by rcases o5.2 with ⟨rfl, h⟩ | ⟨g, c, cur, rfl, -⟩; (focus exact ⟨none, 0, by rw [h]⟩); exact ⟨_, _, rfl⟩)))
  exact bodyPost_ret (v := .tuple #[.int .i64 ((outF l l.length).length : Nat), .int .i64 0]) (by simp [results, Try.results20, go_sem]) rfl ⟨rfl, belows b1 b2⟩
set_option maxRecDepth 100000 in
theorem count_no (p : Option Addr) (n : Int) (l : List (Int × Int)) (cap : Nat) (w : World) (hS : Sl w p l) (h : vG n l = false) :
    Calls Try.prog 20 #[.int .i64 n, .slice p l.length cap] w fun e w' => e = .returned (.tuple #[.int .i64 0, .int .i64 1]) ∧ Below w.heap.size w w' := by
  have hv := valid_any p l cap n w hS
  rw [h] at hv
  go_enter Try.func20, Try.ntmps20
  go_wp2_with (go_at_call 14; (with_reducible refine hv.mono ?_); rintro e w1 ⟨rfl, b1⟩)
  exact bodyPost_ret (v := .tuple #[.int .i64 0, .int .i64 1]) (by simp [results, Try.results20, go_sem]) rfl ⟨rfl, b1⟩
end Go.Proofs.Ytampfciacjifgaa
