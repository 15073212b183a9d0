/- walker: a search from each node that was not reached. -/
import Derived.Test.YtampfciacjifgaaPth
namespace Go.Proofs.Ytampfciacjifgaa
open Go.ChangeShapes Go.WideShapes Go.ChangeAt Go.RowKit
set_option linter.unusedVariables false
set_option linter.unusedSimpArgs false

/-- What the searches from nodes before k leave: how far each node is, and from which. -/
structure Fo (nb : Nat → Nat → Prop) (n k : Nat) (f : Nat → Int) (ro : Nat → Nat) : Prop where
  m : ∀ v, f v < 0 → f v = -1
  all : ∀ v, v < k → 0 ≤ f v
  par : ∀ v, 0 ≤ f v → f v ≠ 0 → ∃ u, 0 ≤ f u ∧ nb u v ∧ f v = f u + 1
  cl : ∀ v, 0 ≤ f v → ∀ u, nb v u → 0 ≤ f u ∧ f u ≤ f v + 1
  rz : ∀ v, f v = 0 → ro v = v
  rn : ∀ v, 0 ≤ f v → ∀ u, nb v u → ro u = ro v
  x : ∀ v, f v ≤ (n : Int) - un f n
theorem Fo.start (nb : Nat → Nat → Prop) (n : Nat) : Fo nb n 0 minus1 id :=
  ⟨fun v _ => rfl, fun v h => absurd h (Nat.not_lt_zero v), fun v h => by simp [minus1] at h, fun v h => by simp [minus1] at h, fun v h => by simp [minus1] at h, fun v h => by simp [minus1] at h, fun v => by rw [un_minus1]; simp [minus1]⟩
theorem Fo.skip {nb : Nat → Nat → Prop} {n k : Nat} {f : Nat → Int} {ro : Nat → Nat} (h : Fo nb n k f ro) (hk : 0 ≤ f k) : Fo nb n (k + 1) f ro :=
  ⟨h.m, fun v hv => by
    rcases Nat.lt_or_ge v k with a | a
    · exact h.all v a
    · have : v = k := by omega
      rw [this]; exact hk, h.par, h.cl, h.rz, h.rn, h.x⟩
theorem Fo.closed {nb : Nat → Nat → Prop} {n k : Nat} {f : Nat → Int} {ro : Nat → Nat} (h : Fo nb n k f ro) (sy : ∀ v u, nb v u → nb u v) (v u : Nat) (hn : nb v u) (hv : f v < 0) : f u < 0 := by
  by_cases hu : f u < 0
  · exact hu
  · have := (h.cl u (by omega) v (sy v u hn)).1
    omega
theorem Fo.step {nb : Nat → Nat → Prop} {n k : Nat} {f f' : Nat → Int} {ro : Nat → Nat} (h : Fo nb n k f ro) (sy : ∀ v u, nb v u → nb u v) (hk : f k < 0) (s : Sp nb f f' k) (hx : ∀ v, f' v ≤ (n : Int) - un f' n) : ∃ ro', Fo nb n (k + 1) f' ro' := by
  have old : ∀ v, 0 ≤ f v → f' v = f v := s.r0
  have cases_ : ∀ v, 0 ≤ f' v → 0 ≤ f v ∨ New f f' v := fun v hv => by
    by_cases a : f v < 0
    · exact .inr ⟨a, hv⟩
    · exact .inl (by omega)
  refine ⟨fun v => if f v < 0 then k else ro v, fun v hv => ?_, fun v hv => ?_, fun v hv h0 => ?_, fun v hv u hu => ?_, fun v hv => ?_, fun v hv u hu => ?_, hx⟩
  · have e := s.m v hv
    rw [e] at hv ⊢
    exact h.m v hv
  · rcases Nat.lt_or_ge v k with a | a
    · rw [old v (h.all v a)]; exact h.all v a
    · have : v = k := by omega
      rw [this, s.s]; exact Int.le_refl _
  · rcases cases_ v hv with a | a
    · rw [old v a] at h0 ⊢
      obtain ⟨u, u0, un_, ue⟩ := h.par v a h0
      exact ⟨u, by rw [old u u0]; exact u0, un_, by rw [old u u0]; exact ue⟩
    · have ne : v ≠ k := by rintro rfl; exact h0 s.s
      obtain ⟨u, u0, un_, ue⟩ := s.par v a ne
      exact ⟨u, u0.2, un_, ue⟩
  · rcases cases_ v hv with a | a
    · have := h.cl v a u hu
      rw [old v a, old u this.1]; exact this
    · exact s.done v a u hu
  · rcases cases_ v (by omega) with a | a
    · rw [old v a] at hv
      simp only [show ¬ f v < 0 by omega, if_false]
      exact h.rz v hv
    · have e : v = k := by
        by_cases e : v = k
        · exact e
        · obtain ⟨w, hw, -, e2⟩ := s.par v a e
          have := hw.2
          omega
      simp only [a.1, if_true]
      exact e.symm
  · rcases cases_ v hv with a | a
    · have := (h.cl v a u hu).1
      simp only [show ¬ f v < 0 by omega, show ¬ f u < 0 by omega, if_false]
      exact h.rn v a u hu
    · have : f u < 0 := h.closed sy v u hu a.1
      simp only [a.1, this, if_true]

theorem Bex.trans {D : Nat} {a b c : World} (h : Bex D a b) (k : Bex D b c) : Bex D a c :=
  ⟨k.os.trans h.os, k.tape.trans h.tape, k.output.trans h.output, Nat.le_trans h.size k.size, fun j hj hd => (k.block j (Nat.lt_of_lt_of_le hj h.size) hd).trans (h.block j hj hd)⟩
set_option maxRecDepth 100000 in
set_option maxHeartbeats 4000000 in
theorem walker_any (p : Option Addr) (n : Nat) (l : List (Nat × Nat)) (cap : Nat) (vl : Value) (xs : List Nat) (w : World) (hG : Gr w p n l) (hl : Rdl w vl xs) (hx : ∀ i ∈ xs, i < l.length) (hxl : xs.length ≤ 4000) :
    Calls Try.prog 46 #[.int .i64 n, .slice p l.length cap, vl] w fun e w' => ∃ Rb Eb G D f ro, e = .returned (.func (.func 66) #[] #[.pointer (some ⟨Rb, 0, none⟩), .pointer (some ⟨Eb, 0, none⟩)]) ∧
      Has w' Rb 76 #[.slice p l.length cap, .slice (some ⟨G, 0, none⟩) n n, .slice (some ⟨D, 0, none⟩) n n] ∧ Has w' Eb 22 #[.slice p l.length cap] ∧ w.heap.size ≤ D ∧ D < w'.heap.size ∧
      Gra w' p n l (adj l xs) D (.slice (some ⟨G, 0, none⟩) n n) ∧ Row w' D n f ∧ Fo (nbr l n (adj l xs)) n n f ro ∧ Below w.heap.size w w' := by
  have hn := hG.2.2.1
  have hE0 := Has.new_ w 22 #[.slice p l.length cap]
  have r0 := hE0.read 0
  go_enter Try.func46, Try.ntmps46
  go_wp2_with (go_at_call 57; refine (newreach_any p n l cap vl xs _ (hG.on (al1 _ _)) (hl.on (al1 _ _)) hx hxl).mono ?_; rintro e w3 ⟨G, D, rfl, hwD, g3, R3, b3⟩)
  have hl3 : ∀ x ∈ l, x.1 < n ∧ x.2 < n ∧ x.1 ≠ x.2 := hG.2.2.2
  obtain ⟨A, hAd⟩ : ∃ A, A = adj l xs := ⟨_, rfl⟩
  rw [← hAd] at g3
  have sy : ∀ v u, nbr l n A v u → nbr l n A u v := fun v u h => by rw [hAd] at h ⊢; exact nbr_symm hl3 h
  have hlen : ∀ v, (A v).length ≤ 4000 := fun v => by rw [hAd]; exact Nat.le_trans (adj_len _ _ _) hxl
  have hmem : ∀ v, v < n → ∀ i ∈ A v, ∃ x, l[i]? = some x ∧ (x.1 = v ∨ x.2 = v) := fun v _ i hi => by rw [hAd] at hi; exact (adj_mem hi).2
  have es : (w.alloc (.cells #[.slice p l.length cap] 22)).heap.size = w.heap.size + 1 := by simp
  have bD : w.heap.size + 1 ≤ D := by rw [← es]; exact hwD
  have HE3 := Has.on hE0 b3
  have bw3 : Below w.heap.size w w3 := (al1 w _).trans (b3.mono (by rw [es]; omega))
  have a3 := al1 w3 (.cells #[.slice p l.length cap, .slice (some ⟨G, 0, none⟩) n n, .slice (some ⟨D, 0, none⟩) n n] 76)
  have H3 := Has.new_ w3 76 #[.slice p l.length cap, .slice (some ⟨G, 0, none⟩) n n, .slice (some ⟨D, 0, none⟩) n n]
  have Dlt : D < w3.heap.size := Has.size_ R3
  have HE4 := Has.on HE3 a3
  have g4 := g3.on (a3.mono (Nat.le_of_lt Dlt))
  have R4 := Has.on R3 a3
  have bw4 : Below w.heap.size w (w3.alloc (.cells #[.slice p l.length cap, .slice (some ⟨G, 0, none⟩) n n, .slice (some ⟨D, 0, none⟩) n n] 76)) := bw3.trans (a3.mono bw3.size)
  have z4 : w3.heap.size < (w3.alloc (.cells #[.slice p l.length cap, .slice (some ⟨G, 0, none⟩) n n, .slice (some ⟨D, 0, none⟩) n n] 76)).heap.size := by simp
  have HA := Lib.hid hAd
  clear hAd g3 R3 HE3 a3 hE0 r0 hwD b3
  generalize w3.alloc (.cells #[.slice p l.length cap, .slice (some ⟨G, 0, none⟩) n n, .slice (some ⟨D, 0, none⟩) n n] 76) = w4 at *
  go_loopw [14] (fun v14 wr => ∃ (k : Nat) (f : Nat → Int) (ro : Nat → Nat), v14 = .int .i64 k ∧ k ≤ n ∧ Hid (Fo (nbr l n A) n k f ro) ∧ Hid (Row wr D n f) ∧ Hid (Bex D w4 wr)) (fun v _ => n - (intOf v).toNat)
  case atStart => exact ⟨0, minus1, id, rfl, Nat.zero_le _, Lib.hid (Fo.start _ _), Lib.hid R4, Lib.hid (Bex.of (Below.refl _ _))⟩
  case round =>
    clear R4
    obtain ⟨k, f, ro, rfl, hk, hF, hR, hK⟩ := hrel
    have H5 := has_bex H3 hK.out (by omega)
    have gw := g4.on (hK.out.below (Nat.le_refl _) (by omega))
    by_cases hlt : k < n
    · have g1 : decide ((k : Int) < (n : Int)) = true := by simp [hlt]
      have W1 : IntKind.i64.wrap ((k : Int) + 1) = ((k + 1 : Nat) : Int) := by rw [IntWalk.i64_in _ (by omega)]; omega
      have s0 := H5.read 0
      have s1 := H5.read 1
      have s2 := H5.read 2
      have ck := Row.read hR.out hlt
      have q1 : (0 : Int) ≤ (k : Int) := by omega
      have q2 : (k : Int) < (n : Int) := by omega
      obtain ⟨d, hd⟩ : ∃ d, d = f k := ⟨_, rfl⟩
      rw [← hd] at ck
      have HD := Lib.hid hd
      clear hd
      by_cases hneg : d < 0
      · have t1 : decide (d < 0) = true := by simp [hneg]
        have hS := spread_any p l n A f k D G cap wr gw hR.out hmem hlen hlt (by rw [← HD.out]; exact hneg) hF.out.m hF.out.x (fun v u h hv => hF.out.closed sy v u h hv)
        go_wp2_with (go_at_call 58; (with_reducible refine hS.mono ?_); rintro e w5 ⟨rfl, f', R5, S5, X5, K5⟩; obtain ⟨ro', F5⟩ := hF.out.step sy (by rw [← HD.out]; exact hneg) S5 X5)
        exact ⟨⟨k + 1, f', ro', rfl, hlt, Lib.hid F5, Lib.hid R5, Lib.hid (hK.out.trans K5)⟩, by simp [intOf]; omega⟩
      · have t1 : decide (d < 0) = false := by simp; omega
        have F5 := Lib.hid (hF.out.skip (by rw [← HD.out]; omega))
        go_wp2
        exact ⟨⟨k + 1, f, ro, rfl, hlt, F5, hR, hK⟩, by simp [intOf]; omega⟩
    · have g1 : decide ((k : Int) < (n : Int)) = false := by simp; omega
      have e : k = n := by omega
      subst e
      have HE5 := has_bex HE4 hK.out (by omega)
      have z5 := Has.size_ hR.out
      have hmf : ∀ (fn : Fn) (first cap : Array Value) (w : World), (Instr.makeFunc fn first cap).run Try.prog w = .ok (.func fn first cap) w := fun _ _ _ _ => rfl
      go_wp2
      go_ret
      exact ⟨_, _, G, D, f, ro, rfl, H5, HE5, by omega, z5, HA.out ▸ gw, hR.out, HA.out ▸ hF.out, bw4.trans (hK.out.below (by omega) (by have := bw4.size; omega))⟩
end Go.Proofs.Ytampfciacjifgaa
