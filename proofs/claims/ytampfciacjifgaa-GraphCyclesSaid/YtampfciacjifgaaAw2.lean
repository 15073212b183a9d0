/- The example: the walk of awake. -/
import Derived.Test.YtampfciacjifgaaAw1
namespace Go.Proofs.Ytampfciacjifgaa
open Go.ChangeShapes Go.WideShapes Go.ChangeAt Go.RowKit
set_option linter.unusedVariables false
set_option linter.unusedSimpArgs false
theorem eq_a (v : Value) (W : World) (h : Rdl W v [0, 1, 3]) : Calls Try.prog 17 #[v, .slice (some ⟨W.heap.size, 0, none⟩) 3 3] (W.alloc (.cells #[.int .i64 0, .int .i64 1, .int .i64 3] 3)) fun e w' => e = .returned (.bool true) ∧ Below W.heap.size W w' :=
  (equal_any v _ [0, 1, 3] [0, 1, 3] _ (h.on (al1 W _)) (lit_rd W [0, 1, 3] 3) (by decide)).mono fun e w' k => by obtain ⟨h1, n, rfl⟩ := k; exact ⟨h1, below_drewN (al1 W _) n⟩
theorem eq_b (v : Value) (W : World) (h : Rdl W v [3]) : Calls Try.prog 17 #[v, .slice (some ⟨W.heap.size, 0, none⟩) 1 1] (W.alloc (.cells #[.int .i64 3] 3)) fun e w' => e = .returned (.bool true) ∧ Below W.heap.size W w' :=
  (equal_any v _ [3] [3] _ (h.on (al1 W _)) (lit_rd W [3] 3) (by decide)).mono fun e w' k => by obtain ⟨h1, n, rfl⟩ := k; exact ⟨h1, below_drewN (al1 W _) n⟩
theorem eq_c (v : Value) (W : World) (h : Rdl W v [2, 3]) : Calls Try.prog 17 #[v, .slice (some ⟨W.heap.size, 0, none⟩) 2 2] (W.alloc (.cells #[.int .i64 2, .int .i64 3] 3)) fun e w' => e = .returned (.bool true) ∧ Below W.heap.size W w' :=
  (equal_any v _ [2, 3] [2, 3] _ (h.on (al1 W _)) (lit_rd W [2, 3] 3) (by decide)).mono fun e w' k => by obtain ⟨h1, n, rfl⟩ := k; exact ⟨h1, below_drewN (al1 W _) n⟩
theorem sa_a (v : Value) (W : World) (h : Rdn W v [[2, 1, 0]]) : Calls Try.prog 15 #[v, .slice (some ⟨W.heap.size + 1, 0, none⟩) 1 1] ((W.alloc (.cells #[.int .i64 2, .int .i64 1, .int .i64 0] 3)).alloc (.cells #[.slice (some ⟨W.heap.size, 0, none⟩) 3 3] 29)) fun e w' => e = .returned (.bool true) ∧ Below W.heap.size W w' :=
  (same_any v _ [[2, 1, 0]] [[2, 1, 0]] _ (rdn_on h (al (al1 W _) _)) (lit_rdn W [2, 1, 0]) (by decide) (by decide)).mono fun e w' k => by obtain ⟨h1, n, rfl⟩ := k; exact ⟨h1, below_drewN (al (al1 W _) _) n⟩
set_option maxRecDepth 100000 in
set_option maxHeartbeats 2000000 in
theorem awake_any (w : World) : Calls Try.prog 9 #[] w fun e w' => e = .returned (.bool true) ∧ Below w.heap.size w w' := by
  have hG := ex_gr w
  have b0 := al1 w (.cells xc 46)
  have HG := Lib.hid (And.intro hG b0)
  clear hG b0
  go_enter Try.func9, Try.ntmps9
  go_upto_region 2 with fail
  show Code.wp _ _ _ _ (w.alloc (.cells xc 46))
  generalize w.alloc (.cells xc 46) = W at *
  have hG := HG.out.1
  go_upto_region 6 with (first
    | (go_at_call 12; (with_reducible refine (ex_f _ W hG).mono ?_); rintro e w1 ⟨v1, rfl, o1, b1⟩; have r1 := o1.rd; have G1 := hG.on b1)
    | (go_at_call 19; (with_reducible refine (ex_c _ w1 G1).mono ?_); rintro e w2 ⟨v2, rfl, o2, b2⟩; have r2 := r1.on b2; have s2 := o2.rd; have G2 := G1.on b2)
    | (go_at_call 25; (with_reducible refine (ex_b _ w2 G2).mono ?_); rintro e w3 ⟨v3, rfl, o3, b3⟩; have r3 := r2.on b3; have t3 := o3.rd; have G3 := G2.on b3)
    | (go_at_call 26; (with_reducible refine (ex_p _ w3 G3).mono ?_); rintro e w4 ⟨v4, rfl, o4, b4⟩; have r4 := r3.on b4; have t4 := t3.on b4; have p4 := o4.rd; have s4 := (Nest.on (Nest.on o2 b3) b4).rd))
  have bb := belows (belows (belows b1 b2) b3) b4
  clear r1 r2 r3 t3 s2 G1 G2 G3 hG o1 o2 o3 o4 b1 b2 b3 b4
  go_wp2_with (first
    | (go_at_call 17; first
        | ((with_reducible refine (eq_a v1 w4 r4).mono ?_); rintro e w5 ⟨rfl, q5⟩; have r5 := p4.on q5; have x5 := t4.on q5; have y5 := rdn_on s4 q5)
        | ((with_reducible refine (eq_b v3 w6 x6).mono ?_); rintro e w7 ⟨rfl, q7⟩; have r7 := r6.on q7)
        | ((with_reducible refine (eq_c v4 w7 r7).mono ?_); rintro e w8 ⟨rfl, q8⟩))
    | (go_at_call 15; (with_reducible refine (sa_a v2 w5 y5).mono ?_); rintro e w6 ⟨rfl, q6⟩; have r6 := r5.on q6; have x6 := x5.on q6))
  go_ret
  have b0 := HG.out.2
  exact ⟨rfl, belows (belows (belows (belows (belows b0 bb) q5) q6) q7) q8⟩
end Go.Proofs.Ytampfciacjifgaa
