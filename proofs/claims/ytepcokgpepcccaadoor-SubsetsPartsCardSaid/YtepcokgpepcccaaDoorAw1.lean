/- The chapter's examples: awake answers true. -/
import Derived.Test.YtepcokgpepcccaaDoorAw0
namespace Go.Proofs.YtepcokgpepcccaaDoor
open Go.ChangeShapes Go.WideShapes Go.ChangeAt Go.RowKit
set_option linter.unusedVariables false
set_option linter.unusedSimpArgs false
theorem lit_rd (w : World) (xs : List Int) (t : TypeId) : Rdz (w.alloc (.cells (zv xs).toArray t)) (.slice (some ⟨w.heap.size, 0, none⟩) xs.length xs.length) xs := by
  have H := Has.new_ w t (zv xs).toArray
  refine ⟨_, _, rfl, fun j hj => ⟨_, rfl, ?_⟩⟩
  rw [Addr.add_lit, Nat.zero_add, H.read j]
  simp [zv, hj]
theorem lit_rdzz (w : World) (xs ys : List Int) : Rdzz (((w.alloc (.cells (zv xs).toArray 3)).alloc (.cells (zv ys).toArray 3)).alloc (.cells #[.slice (some ⟨w.heap.size, 0, none⟩) xs.length xs.length, .slice (some ⟨w.heap.size + 1, 0, none⟩) ys.length ys.length] 22)) (.slice (some ⟨w.heap.size + 1 + 1, 0, none⟩) 2 2) [xs, ys] := by
  have H := Has.new_ ((w.alloc (.cells (zv xs).toArray 3)).alloc (.cells (zv ys).toArray 3)) 22 #[.slice (some ⟨w.heap.size, 0, none⟩) xs.length xs.length, .slice (some ⟨w.heap.size + 1, 0, none⟩) ys.length ys.length]
  have e1 : (w.alloc (.cells (zv xs).toArray 3)).heap.size = w.heap.size + 1 := by simp
  have e : ((w.alloc (.cells (zv xs).toArray 3)).alloc (.cells (zv ys).toArray 3)).heap.size = w.heap.size + 1 + 1 := by simp
  rw [e] at H
  have r1 := Rdz.on (Rdz.on (lit_rd w xs 3) (al1 _ (.cells (zv ys).toArray 3))) (al1 _ (.cells #[.slice (some ⟨w.heap.size, 0, none⟩) xs.length xs.length, .slice (some ⟨w.heap.size + 1, 0, none⟩) ys.length ys.length] 22))
  have r2 := lit_rd (w.alloc (.cells (zv xs).toArray 3)) ys 3
  rw [e1] at r2
  have r2 := r2.on (al1 _ (.cells #[.slice (some ⟨w.heap.size, 0, none⟩) xs.length xs.length, .slice (some ⟨w.heap.size + 1, 0, none⟩) ys.length ys.length] 22))
  refine ⟨_, _, rfl, fun j hj => ?_⟩
  have hj2 : j = 0 ∨ j = 1 := by simp at hj; omega
  rcases hj2 with rfl | rfl
  · exact ⟨_, _, rfl, H.read 0, r1⟩
  · exact ⟨_, _, rfl, H.read 1, r2⟩
theorem ex_s (W : World) (v : Value) (h : Rdz W v xa) : Calls Tryd.prog 11 #[v] W fun e w' => ∃ v, e = .returned (.tuple #[v, .int .i64 0]) ∧ Rdz w' v [-1, 0, 2, 3] ∧ Below W.heap.size W w' :=
  (sums_ok v xa W h ex_fau (by decide)).mono fun e w' k => by
    obtain ⟨v, he, ho, hb⟩ := k
    rw [ex_smz] at ho
    exact ⟨v, he, ho.rd, hb⟩
theorem ex_z (W : World) (v : Value) (h : Rdz W v xl) (hT : Tab W) : Calls Tryd.prog 20 #[v] W fun e w' => ∃ v, e = .returned (.tuple #[v, .int .i64 0]) ∧ Rdz w' v [3, 4] ∧ Below W.heap.size W w' :=
  (zero_any v xl W h hT (fun _ => by decide)).mono fun e w' k => by
    obtain ⟨hb, -, k⟩ := k
    have k := k ex_fau2
    rw [ex_zero] at k
    obtain ⟨v, he, ho⟩ := k
    rw [ex_ixs] at ho
    exact ⟨v, he, ho.rd, hb⟩
theorem ex_p (W : World) (v : Value) (h : Rdz W v xl) (hT : Tab W) : Calls Tryd.prog 24 #[v] W fun e w' => ∃ v, e = .returned (.tuple #[v, .int .i64 0]) ∧ Rdzz w' v [[0, 1, 2], [3, 4]] ∧ Below W.heap.size W w' :=
  (parts_any v xl W h hT (fun _ => by decide)).mono fun e w' k => by
    obtain ⟨hb, -, -, k⟩ := k
    obtain ⟨ps, vs, v, hp, he, ho⟩ := k ex_fau2 ex_sum
    have ho := ho.rd
    rw [ex_parts hp] at ho
    exact ⟨v, he, ho, hb⟩
theorem eq_a (v : Value) (W : World) (h : Rdz W v [-1, 0, 2, 3]) : Calls Tryd.prog 14 #[v, .slice (some ⟨W.heap.size, 0, none⟩) 4 4] (W.alloc (.cells #[.int .i64 (-1), .int .i64 0, .int .i64 2, .int .i64 3] 3)) fun e w' => e = .returned (.bool true) ∧ Below W.heap.size W w' :=
  (equal_any v _ [-1, 0, 2, 3] [-1, 0, 2, 3] _ (h.on (al1 W _)) (lit_rd W [-1, 0, 2, 3] 3) (by decide)).mono fun e w' k => by obtain ⟨h1, n, rfl⟩ := k; exact ⟨h1, below_drewN (al1 W _) n⟩
theorem eq_b (v : Value) (W : World) (h : Rdz W v [3, 4]) : Calls Tryd.prog 14 #[v, .slice (some ⟨W.heap.size, 0, none⟩) 2 2] (W.alloc (.cells #[.int .i64 3, .int .i64 4] 3)) fun e w' => e = .returned (.bool true) ∧ Below W.heap.size W w' :=
  (equal_any v _ [3, 4] [3, 4] _ (h.on (al1 W _)) (lit_rd W [3, 4] 3) (by decide)).mono fun e w' k => by obtain ⟨h1, n, rfl⟩ := k; exact ⟨h1, below_drewN (al1 W _) n⟩
theorem sa_a (v : Value) (W : World) (h : Rdzz W v [[0, 1, 2], [3, 4]]) : Calls Tryd.prog 27 #[v, .slice (some ⟨W.heap.size + 1 + 1, 0, none⟩) 2 2] (((W.alloc (.cells #[.int .i64 0, .int .i64 1, .int .i64 2] 3)).alloc (.cells #[.int .i64 3, .int .i64 4] 3)).alloc (.cells #[.slice (some ⟨W.heap.size, 0, none⟩) 3 3, .slice (some ⟨W.heap.size + 1, 0, none⟩) 2 2] 22)) fun e w' => e = .returned (.bool true) ∧ Below W.heap.size W w' :=
  (same_any v _ [[0, 1, 2], [3, 4]] [[0, 1, 2], [3, 4]] _ (h.on (al (al (al1 W _) _) _)) (lit_rdzz W [0, 1, 2] [3, 4]) (by decide) (by decide) (by decide)).mono fun e w' k => by obtain ⟨h1, n, rfl⟩ := k; exact ⟨h1, below_drewN (al (al (al1 W _) _) _) n⟩
theorem lit_a (w : World) : Rdz (w.alloc (.cells #[.int .i64 3, .int .i64 (-1)] 3)) (.slice (some ⟨w.heap.size, 0, none⟩) 2 2) xa := lit_rd w xa 3
theorem lit_l (w : World) : Rdz (w.alloc (.cells #[.int .i64 5, .int .i64 (-2), .int .i64 (-3), .int .i64 4, .int .i64 (-4)] 3)) (.slice (some ⟨w.heap.size, 0, none⟩) 5 5) xl := lit_rd w xl 3
set_option maxRecDepth 100000 in
set_option maxHeartbeats 2000000 in
theorem awake_any (w : World) (hT : Tab w) : Calls Tryd.prog 9 #[] w fun e w' => e = .returned (.bool true) ∧ Below w.heap.size w w' := by
  have hA := lit_a w
  have b0 := al1 w (.cells #[.int .i64 3, .int .i64 (-1)] 3)
  have hT0 := hT.on b0
  have hL := fun w => lit_l w
  have bL := fun (w : World) => al1 w (.cells #[.int .i64 5, .int .i64 (-2), .int .i64 (-3), .int .i64 4, .int .i64 (-4)] 3)
  go_enter Tryd.func9, Tryd.ntmps9
  go_upto_region 5 with (first
    | (go_at_call 11; (with_reducible refine (ex_s _ _ hA).mono ?_); rintro e w1 ⟨v1, rfl, o1, b1⟩; have hL := hL w1; have bL := bL w1; have o1 := o1.on bL; have hT1 := (hT0.on b1).on bL; have B1 := belows (belows b0 b1) bL)
    | (go_at_call 20; (with_reducible refine (ex_z _ _ hL hT1).mono ?_); rintro e w2 ⟨v2, rfl, o2, b2⟩; have o1 := o1.on b2; have hL := hL.on b2; have hT2 := hT1.on b2; have B2 := belows B1 b2)
    | (go_at_call 24; (with_reducible refine (ex_p _ _ hL hT2).mono ?_); rintro e w3 ⟨v3, rfl, o3, b3⟩; have o1 := o1.on b3; have o2 := o2.on b3; have B3 := belows B2 b3))
  clear hL bL hT0 hT1 hT2 B1 B2 b1 b2 b3 hA b0 hT
  go_wp2_with (first
    | (go_at_call 14; first
        | ((with_reducible refine (eq_a v1 w3 o1).mono ?_); rintro e w4 ⟨rfl, q4⟩; have o2 := o2.on q4; have o3 := o3.on q4)
        | ((with_reducible refine (eq_b v2 w4 o2).mono ?_); rintro e w5 ⟨rfl, q5⟩; have o3 := o3.on q5))
    | (go_at_call 27; (with_reducible refine (sa_a v3 w5 o3).mono ?_); rintro e w6 ⟨rfl, q6⟩))
  go_ret
  exact ⟨rfl, belows (belows (belows B3 q4) q5) q6⟩
end Go.Proofs.YtepcokgpepcccaaDoor
