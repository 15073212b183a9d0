/- nearer: the first edge that leads nearer to the start. -/
import Derived.Test.YtampfciacjifgaaSpr
namespace Go.Proofs.Ytampfciacjifgaa
open Go.ChangeShapes Go.WideShapes Go.ChangeAt Go.RowKit
set_option linter.unusedVariables false
set_option linter.unusedSimpArgs false

theorem below_al {a w : World} (h : Below a.heap.size a w) (o : Obj) : Below a.heap.size a (w.alloc o) := al h o
theorem below_dr {a w : World} (h : Below a.heap.size a w) : Below a.heap.size a w.drew := Below.drew h
/-- The cells that the test reads. -/
def Tc (p : Option Addr) (m cap n D : Nat) (a : Addr) (i x1 x2 u v Rb nb : Nat) (du dv : Int) (w' : World) : Prop :=
  w'.cell? ⟨Rb, 0, none⟩ = some (.slice p m cap) ∧ w'.cell? ⟨Rb, 2, none⟩ = some (.slice (some ⟨D, 0, none⟩) n n) ∧ w'.cell? ⟨nb, 0, none⟩ = some (.int .i64 v) ∧
  w'.cell? (a.add (i * 2)) = some (.int .i64 x1) ∧ w'.cell? ⟨(a.add (i * 2)).block, (a.add (i * 2)).off + 1, none⟩ = some (.int .i64 x2) ∧ w'.cell? ⟨D, u, none⟩ = some (.int .i64 du) ∧ w'.cell? ⟨D, v, none⟩ = some (.int .i64 dv)
theorem Tc.on {p : Option Addr} {m cap n D : Nat} {a : Addr} {i x1 x2 u v Rb nb : Nat} {du dv : Int} {w w' : World} (h : Tc p m cap n D a i x1 x2 u v Rb nb du dv w) (hb : Below w.heap.size w w') : Tc p m cap n D a i x1 x2 u v Rb nb du dv w' :=
  ⟨cell_later hb h.1, cell_later hb h.2.1, cell_later hb h.2.2.1, cell_later hb h.2.2.2.1, cell_later hb h.2.2.2.2.1, cell_later hb h.2.2.2.2.2.1, cell_later hb h.2.2.2.2.2.2⟩
theorem tc_k {p : Option Addr} {m cap n D : Nat} {a : Addr} {i x1 x2 u v Rb nb : Nat} {du dv : Int} {w w' : World} (h : Tc p m cap n D a i x1 x2 u v Rb nb du dv w) (hb : Below w.heap.size w w') :
    w'.cell? ⟨Rb, 0, none⟩ = some (.slice p m cap) ∧ w'.cell? ⟨Rb, 2, none⟩ = some (.slice (some ⟨D, 0, none⟩) n n) ∧ w'.cell? ⟨nb, 0, none⟩ = some (.int .i64 v) ∧
    w'.cell? (a.add (i * 2)) = some (.int .i64 x1) ∧ w'.cell? ⟨(a.add (i * 2)).block, (a.add (i * 2)).off + 1, none⟩ = some (.int .i64 x2) ∧ w'.cell? ⟨D, u, none⟩ = some (.int .i64 du) ∧ w'.cell? ⟨D, v, none⟩ = some (.int .i64 dv) ∧ Below w.heap.size w w' :=
  ⟨(h.on hb).1, (h.on hb).2.1, (h.on hb).2.2.1, (h.on hb).2.2.2.1, (h.on hb).2.2.2.2.1, (h.on hb).2.2.2.2.2.1, (h.on hb).2.2.2.2.2.2, hb⟩
set_option maxRecDepth 100000 in
set_option maxHeartbeats 4000000 in
theorem test_any (m cap n D : Nat) (a : Addr) (i x1 x2 v Rb nb : Nat) (du dv : Int) (w : World) (hT : Tc (some a) m cap n D a i x1 x2 (oth (x1, x2) v) v Rb nb du dv w) (hi : i < m) (hm : m ≤ 4000) (hn : n ≤ 1000) (hu : oth (x1, x2) v < n) (hv : v < n) :
    Calls Try.prog 74 #[.int .i64 i, .pointer (some ⟨Rb, 0, none⟩), .pointer (some ⟨nb, 0, none⟩)] w fun e w' => e = .returned (.bool (decide (du < dv))) ∧ Below w.heap.size w w' := by
  have hF := fun W => far_any x1 x2 v W
  obtain ⟨u, hu2⟩ : ∃ u, u = oth (x1, x2) v := ⟨_, rfl⟩
  rw [← hu2] at hF hu hT
  clear hu2
  have q1 : (0 : Int) ≤ (i : Int) := by omega
  have q2 : (i : Int) < (m : Int) := by omega
  have q3 : (0 : Int) ≤ (u : Int) := by omega
  have q4 : (u : Int) < (n : Int) := by omega
  have q5 : (0 : Int) ≤ (v : Int) := by omega
  have q6 : (v : Int) < (n : Int) := by omega
  have B0 : Below w.heap.size w w := Below.refl _ _
  obtain ⟨c1, c2, c3, c4, c5, c6, c7⟩ := hT
  have hT : Hid (Tc (some a) m cap n D a i x1 x2 u v Rb nb du dv w) := Lib.hid ⟨c1, c2, c3, c4, c5, c6, c7⟩
  go_enter Try.func74, Try.ntmps74
  go_wp2_with fail
  go_region_held3 (fun w' => w'.cell? ⟨Rb, 0, none⟩ = some (.slice (some a) m cap) ∧ w'.cell? ⟨Rb, 2, none⟩ = some (.slice (some ⟨D, 0, none⟩) n n) ∧ w'.cell? ⟨nb, 0, none⟩ = some (.int .i64 v) ∧
    w'.cell? (a.add (i * 2)) = some (.int .i64 x1) ∧ w'.cell? ⟨(a.add (i * 2)).block, (a.add (i * 2)).off + 1, none⟩ = some (.int .i64 x2) ∧ w'.cell? ⟨D, u, none⟩ = some (.int .i64 du) ∧ w'.cell? ⟨D, v, none⟩ = some (.int .i64 dv) ∧ Below w.heap.size w w')
    (first | ((with_reducible refine tc_k hT.out ?_); (repeat' (first | with_reducible exact Q1 | with_reducible exact B0 | with_reducible refine below_al ?_ _ | with_reducible refine below_dr ?_))) | (with_reducible (go_split_ands; assumption)) | go_keep)
    (first | (go_at_call 55; (with_reducible refine (hF _).mono ?_); rintro e w1 ⟨rfl, hb⟩; have Q1 : Below w.heap.size w w1 := (by with_reducible exact belows (by go_split_ands; assumption) hb)))
  all_goals go_wp2
  all_goals go_ret
  all_goals exact ⟨rfl, by first | assumption | (go_split_ands; assumption)⟩

/-- The first element of a list that a closure takes, by its place. -/
def fst? (g : Nat → Bool) : List Nat → Option Nat
  | [] => none
  | x :: xs => if g x then some 0 else (fst? g xs).map (· + 1)
theorem fst_at {g : Nat → Bool} : ∀ {xs : List Nat} {k : Nat} (hk : k < xs.length), (∀ j (h : j < k), g (xs[j]'(by omega)) = false) → g xs[k] = true → fst? g xs = some k
  | x :: xs, 0, _, _, h => by simp [fst?] at h ⊢; exact h
  | x :: xs, k + 1, hk, hb, h => by
    have h0 : g x = false := hb 0 (by omega)
    have ih := fst_at (xs := xs) (k := k) (by simpa using hk) (fun j hj => by have := hb (j + 1) (by omega); simpa using this) (by simpa using h)
    simp [fst?, h0, ih]
theorem fst_get {g : Nat → Bool} : ∀ {xs : List Nat} {k : Nat}, fst? g xs = some k → ∃ h : k < xs.length, g xs[k] = true ∧ xs.find? g = some xs[k]
  | x :: xs, k, h => by
    unfold fst? at h
    by_cases e : g x = true
    · rw [if_pos e] at h
      simp at h; subst h
      exact ⟨by simp, e, by simp [e]⟩
    · rw [if_neg e] at h
      obtain ⟨j, hj, rfl⟩ := Option.map_eq_some_iff.1 h
      obtain ⟨a, b, c⟩ := fst_get hj
      exact ⟨by simpa using a, by simpa using b, by simp [e, c]⟩
theorem fst_some {g : Nat → Bool} : ∀ {xs : List Nat}, (∃ x ∈ xs, g x = true) → ∃ k, fst? g xs = some k
  | [], ⟨x, h, _⟩ => by simp at h
  | y :: xs, ⟨x, h, hg⟩ => by
    unfold fst?
    by_cases e : g y = true
    · exact ⟨0, if_pos e⟩
    · rw [if_neg e]
      rcases List.mem_cons.1 h with rfl | h
      · exact absurd hg e
      · obtain ⟨k, hk⟩ := fst_some ⟨x, h, hg⟩
        exact ⟨k + 1, by rw [hk]; rfl⟩
set_option maxRecDepth 100000 in
set_option maxHeartbeats 2000000 in
theorem idxf_any (q : Option Addr) (c Rb nb : Nat) (xs : List Nat) (g : Nat → Bool) (k0 : Nat) (w : World) (hk0 : fst? g xs = some k0) (hl : xs.length ≤ 100000)
    (hx : ∀ j (h : j < xs.length), ∃ gq, q = some ⟨gq, 0, none⟩ ∧ w.cell? ⟨gq, j, none⟩ = some (.int .i64 (xs[j] : Nat)))
    (hc : ∀ i, i ∈ xs → ∀ W, Below w.heap.size w W → Calls Try.prog 74 #[.int .i64 i, .pointer (some ⟨Rb, 0, none⟩), .pointer (some ⟨nb, 0, none⟩)] W fun e w' => e = .returned (.bool (g i)) ∧ Below W.heap.size W w') :
    Calls Try.prog 68 #[.slice q xs.length c, .func (.func 74) #[] #[.pointer (some ⟨Rb, 0, none⟩), .pointer (some ⟨nb, 0, none⟩)]] w fun e w' => e = .returned (.int .i64 (k0 : Nat)) ∧ Below w.heap.size w w' := by
  have HX := Lib.hid hx
  have HK := Lib.hid hk0
  clear hx hk0
  go_enter Try.func68, Try.ntmps68
  go_wp2
  go_loopw [8] (fun v wr => ∃ k : Nat, v = .int .i64 k ∧ k ≤ xs.length ∧ Hid (∀ j (h : j < xs.length), j < k → g xs[j] = false) ∧ Below w.heap.size w wr) (fun v _ => xs.length - (intOf v).toNat)
  case atStart => exact ⟨0, rfl, Nat.zero_le _, Lib.hid (fun j h h2 => absurd h2 (Nat.not_lt_zero j)), Below.refl _ _⟩
  case round =>
    obtain ⟨k, rfl, hk, hG, hB⟩ := hrel
    by_cases hlt : k < xs.length
    · have g1 : decide ((k : Int) < (xs.length : Int)) = true := by simp [hlt]
      have W1 : IntKind.i64.wrap ((k : Int) + 1) = ((k + 1 : Nat) : Int) := by rw [IntWalk.i64_in _ (by omega)]; omega
      obtain ⟨gq, rfl, c1⟩ := HX.out k hlt
      have c1 := cell_later hB c1
      have hC := fun W h => hc xs[k] (List.getElem_mem hlt) W h
      obtain ⟨i, hi⟩ : ∃ i, i = xs[k] := ⟨_, rfl⟩
      rw [← hi] at c1 hC
      have HI := Lib.hid hi
      clear hi
      cases hv : g i
      · rw [hv] at hC
        have hG2 : Hid (∀ j (h : j < xs.length), j < k + 1 → g xs[j] = false) := Lib.hid fun j h h2 => by
          rcases Nat.lt_or_ge j k with a | a
          · exact hG.out j h a
          · have : j = k := by omega
            subst this
            rw [← HI.out]; exact hv
        go_wp2_with (go_at_call 74; (with_reducible refine (hC _ hB).mono ?_); rintro e1 w1 ⟨rfl, hb1⟩)
        exact ⟨⟨k + 1, rfl, hlt, hG2, belows hB hb1⟩, by simp [intOf]; omega⟩
      · rw [hv] at hC
        have e0 : k = k0 := by
          have := fst_at hlt (fun j hj => hG.out j (by omega) hj) (by rw [← HI.out]; exact hv)
          rw [HK.out] at this
          simpa using this.symm
        subst e0
        go_wp2_with (go_at_call 74; (with_reducible refine (hC _ hB).mono ?_); rintro e1 w1 ⟨rfl, hb1⟩)
        go_ret
        exact ⟨rfl, belows hB hb1⟩
    · exfalso
      obtain ⟨h, hg, -⟩ := fst_get HK.out
      have := hG.out k0 h (by omega)
      rw [this] at hg; cases hg
end Go.Proofs.Ytampfciacjifgaa
