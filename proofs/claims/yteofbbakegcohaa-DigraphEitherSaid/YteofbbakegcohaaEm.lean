/- DigraphEither: the walk, loops. -/
import Derived.Test.YteofbbakegcohaaEl
namespace Go.Proofs.Yteofbbakegcohaa
open Go.ChangeShapes Go.WideShapes Go.ChangeAt Go.RowKit
set_option linter.unusedVariables false
set_option linter.unusedSimpArgs false


set_option maxRecDepth 100000 in
set_option maxHeartbeats 8000000 in
theorem either_lop (p : Option Addr) (m : Nat) (k : List (Nat × Nat)) (cap : Nat) (w : World) (hG : Gr w p m k) (hb : lrg m k.length = false) (hE : ordr (adj k) m m [] = none) :
    Calls Try.prog 6 #[.int .i64 m, .slice p k.length cap] w fun e w' => e = .returned (.bool true) ∧ Below w.heap.size w w' := by
  have hm : (cast2 k).length ≤ maxLen := hG.1.2.2.1
  have hA := awake_any w
  have hLg := fun W => large_any p (cast2 k) cap m W hm
  rw [cast2_len, hb] at hLg
  have hN := fun W (h : Gr W p m k) => order_loop p m k cap W h hE
  have hL := fun W (h : Gr W p m k) => loop_some cap h hE
  have hmm := hG.2.2.1
  have hP := fun W (h : Gr W p m k) => parts_ok p m k cap W h
  have HAJ := Lib.hid (gr_adj hG)
  have HG := Lib.hid hG
  clear hb hE hm hG
  go_enter Try.func6, Try.ntmps6
  go_wp2_with (first
    | (go_at_call 10; (with_reducible refine hA.mono ?_); rintro e w1 ⟨rfl, b1⟩; have G1 := HG.out.on b1)
    | (go_at_call 11; (with_reducible refine (hLg _).mono ?_); rintro e w2 ⟨rfl, rfl⟩)
    | (go_at_call 12; (with_reducible refine (hN _ G1).mono ?_); rintro e w3 ⟨rfl, b3⟩; have G3 := G1.on b3)
    | (go_at_call 27; (with_reducible refine (hL _ G3).mono ?_); rintro e w4 ⟨v4, L, rfl, r4, D, b4⟩; have r4 := r4.rd; obtain ⟨q4, cc4, rfl, kr4⟩ := r4; have r4 : Rdl w4 (.slice q4 L.length cc4) L := ⟨q4, cc4, rfl, kr4⟩; clear kr4; have A4 := al1 w4 (.cells #[.slice q4 L.length cc4] 23); have C4 := Has.new_ w4 23 #[.slice q4 L.length cc4]; have G4 := (G3.on b4).on A4; have r4 := r4.on A4; have hL0 := D.ne; have hLm := lgd_len D; have s1 : decide ((L.length : Int) = 0) = false := decide_eq_false (by omega); have s2 : decide ((m : Int) < (L.length : Int)) = false := decide_eq_false (by omega); have s3 : ((L.length : Int) == 0) = false := beq_eq_false_iff_ne.2 (by omega); have s6 : ¬ m < L.length := (by omega); have D := Lib.hid D; have C4 := Lib.hid C4; have r4 := Lib.hid r4; have c4 := C4.out.read 0; clear hL0 hLm)
    | (go_at_call 28; (with_reducible refine (hP _ G4).mono ?_); rintro e w5 ⟨v5, ls, rfl, hN5, hp5, b5⟩; have c5 : w5.cell? ⟨w4.heap.size, 0, none⟩ = some (.slice q4 L.length cc4) := cell_later b5 c4; have G5 := G4.on b5; have r5 := Lib.hid (r4.out.on b5); have hN5 := Lib.hid hN5; have hp5 := Lib.hid hp5))
  have hl100 : L.length ≤ 60 := Nat.le_trans (lgd_len D.out) hmm
  have bw5 := belows (belows (belows (belows b1 b3) b4) A4) b5
  generalize w4.alloc (.cells #[.slice q4 L.length cc4] 23) = wa at *
  generalize w4.heap.size = ca at *
  have HBW := Lib.hid bw5
  clear b1 b3 b4 A4 b5 bw5 G1 G3 G4 c4 hA hLg hN hL hP
  go_loopw [106] (fun v wr => ∃ j : Nat, v = .int .i64 j ∧ j ≤ L.length ∧ Below w5.heap.size w5 wr) (fun v _ => L.length - (intOf v).toNat)
  case atStart => exact ⟨0, rfl, Nat.zero_le _, Below.refl _ _⟩
  case round =>
    obtain ⟨j, rfl, hj, hB⟩ := hrel
    by_cases hlt : j < L.length
    · have g1 : decide ((j : Int) < (L.length : Int)) = true := by simp [hlt]
      have W1 : IntKind.i64.wrap ((j : Int) + 1) = ((j + 1 : Nat) : Int) := by rw [IntWalk.i64_in _ (by omega)]; omega
      have q1 : (0 : Int) ≤ (j : Int) := by omega
      have q2 : (j : Int) < (L.length : Int) := by omega
      have rr := r5.out.on hB
      obtain ⟨q0, cx, e0, kr⟩ := rr
      cases e0
      obtain ⟨g, rfl, d0⟩ := kr j hlt
      have hjm : (j + 1) % L.length < L.length := Nat.mod_lt _ (by omega)
      obtain ⟨g', eg, d1⟩ := kr _ hjm
      cases eg
      have hc := mem_cast2 ((mem_adj k _ _).1 (D.out.cir j hlt hjm))
      have hi := ixo_at D.out.nd hlt
      have RM := tmod_next hlt
      obtain ⟨x, hx⟩ : ∃ x, x = L[j] := ⟨_, rfl⟩
      obtain ⟨y, hy⟩ : ∃ y, y = L[(j + 1) % L.length] := ⟨_, rfl⟩
      rw [← hx] at d0 hc hi
      rw [← hy] at d1 hc
      obtain ⟨t, ht⟩ : ∃ t, t = (j + 1) % L.length := ⟨_, rfl⟩
      rw [← ht] at d1 hjm RM
      clear hx hy ht
      have q3 : (0 : Int) ≤ (t : Int) := by omega
      have q4 : (t : Int) < (L.length : Int) := by omega
      have W2 : IntKind.i64.wrap (t : Int) = (t : Int) := IntWalk.i64_in _ (by omega)
      have z1 : ((j : Int) != (j : Int)) = false := by simp
      have z2 : ((L.length : Int) == 0) = false := beq_eq_false_iff_ne.2 (by omega)
      have cc : wr.cell? ⟨ca, 0, none⟩ = some (.slice (some ⟨g, 0, none⟩) L.length cc4) := cell_later hB c5
      have s7 : ¬ L = [] := fun e => by rw [e] at hlt; exact absurd hlt (Nat.not_lt_zero _)
      have hIx : ∀ W, Below wr.heap.size wr W → Calls Try.prog 29 #[.slice (some ⟨g, 0, none⟩) L.length cc4, .int .i64 x] W fun e w' => e = .returned (.int .i64 j) ∧ W = w' := fun W hW => by
        have := index_any (.slice (some ⟨g, 0, none⟩) L.length cc4) (toZ L) x W (Rdl.z ((r5.out.on hB).on hW)) (by rw [toZ_len]; omega)
        rw [hi] at this; exact this
      have hPc : ∀ W, Below wr.heap.size wr W → Calls Try.prog 24 #[.slice p k.length cap, .agg #[.int .i64 x, .int .i64 y]] W fun e w' => e = .returned (.bool true) ∧ Below W.heap.size W w' := fun W hW => by
        have := pcon_any p (cast2 k) cap x y W (((G5.on hB).on hW).1)
        rw [hc, cast2_len] at this; exact this
      have Q0 : Below wr.heap.size wr wr := Below.refl _ _
      have HQ2 := Lib.hid hB
      clear kr hc hi hB
      go_wp2_with fail
      go_region_law (first
        | (go_simp; go_at_call 29; (refine (hIx _ (by repeat' (first | exact Q0 | exact Q9 | refine below_dr ?_))).mono ?_); rintro e w8 ⟨rfl, rfl⟩)
        | (go_simp; go_at_call 24; (refine (hPc _ (by repeat' (first | exact Q0 | refine below_dr ?_))).mono ?_); rintro e w9 ⟨rfl, b9⟩; have Q9 : Below wr.heap.size wr w9 := belows (by repeat' (first | exact Q0 | refine below_dr ?_)) b9; have cc := cell_later Q9 cc; have d0 := cell_later Q9 d0; have d1 := cell_later Q9 d1))
      all_goals (
        go_wp2
        exact ⟨⟨j + 1, rfl, hlt, belows HQ2.out Q9⟩, by simp [intOf]; omega⟩)
    · have g1 : decide ((j : Int) < (L.length : Int)) = false := by simp; omega
      have hE : j = L.length := by omega
      obtain ⟨hcl, hlt'⟩ := pso_cls HAJ.out hp5.out
      have hyes := lgd_wth D.out hcl
      have hlq : ∀ q ∈ ls, q.length ≤ 100000 := fun q hq => by
        have := nodup_le m q ((hcl.p1 q hq).1) (hlt' q hq)
        omega
      have hll : ls.length ≤ 100000 := by have h1 := hp5.out.1.length_eq; have h2 := tall_le HAJ.out (Nat.le_refl m); omega
      have hC := con31 _ ca _ v5 L ls wr (hN5.out.on hB) hll hlq (cell_later hB c5) (r5.out.on hB) (by omega)
      rw [hyes] at hC
      have HB2 := Lib.hid hB
      clear hyes hlq hll hlt' hcl hB hE
      go_wp2_with (go_at_call 30; (with_reducible refine hC.mono ?_); rintro e w8 ⟨rfl, b8⟩)
      go_ret
      exact ⟨rfl, belows (belows HBW.out HB2.out) b8⟩
end Go.Proofs.Yteofbbakegcohaa
