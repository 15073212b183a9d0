/- The chapter's example: the walk. -/
import Derived.Test.YteofbbakegcohaaAw
namespace Go.Proofs.Yteofbbakegcohaa
open Go.ChangeShapes Go.WideShapes Go.ChangeAt Go.RowKit
set_option linter.unusedVariables false
set_option linter.unusedSimpArgs false


def xc : Array Value := #[.int .i64 0, .int .i64 2, .int .i64 2, .int .i64 1]
def yc : Array Value := #[.int .i64 0, .int .i64 2, .int .i64 2, .int .i64 1, .int .i64 1, .int .i64 0]
theorem ex_gx {w : World} {g : Nat} (H : Has w g 42 xc) : Gr w (some ⟨g, 0, none⟩) 3 xl := by
  refine ⟨?_, by decide, by decide, by decide⟩
  refine ⟨(fun h => by cases h), ?_, by decide, ?_⟩
  · intro a ha i hi
    cases ha
    have hi' : i < 2 := hi
    have : i = 0 ∨ i = 1 := by omega
    rcases this with rfl | rfl
    · exact ⟨H.read 0, H.read 1⟩
    · exact ⟨H.read 2, H.read 3⟩
  · unfold I64; decide
theorem ex_gy {w : World} {g : Nat} (H : Has w g 42 yc) : Gr w (some ⟨g, 0, none⟩) 3 yl := by
  refine ⟨?_, by decide, by decide, by decide⟩
  refine ⟨(fun h => by cases h), ?_, by decide, ?_⟩
  · intro a ha i hi
    cases ha
    have hi' : i < 3 := hi
    have : i = 0 ∨ i = 1 ∨ i = 2 := by omega
    rcases this with rfl | rfl | rfl
    · exact ⟨H.read 0, H.read 1⟩
    · exact ⟨H.read 2, H.read 3⟩
    · exact ⟨H.read 4, H.read 5⟩
  · unfold I64; decide
theorem ex_w {w : World} {g : Nat} (H : Has w g 3 #[.int .i64 5, .int .i64 1, .int .i64 0]) : Rdz w (.slice (some ⟨g, 0, none⟩) 3 3) [5, 1, 0] := by
  refine ⟨some ⟨g, 0, none⟩, 3, rfl, fun j hj => ⟨_, rfl, ?_⟩⟩
  have hj' : j < 3 := hj
  have : j = 0 ∨ j = 1 ∨ j = 2 := by omega
  rcases this with rfl | rfl | rfl
  · exact H.read 0
  · exact H.read 1
  · exact H.read 2
theorem ex_l {w : World} {g : Nat} (H : Has w g 3 #[.int .i64 0, .int .i64 2, .int .i64 1]) : Rdl w (.slice (some ⟨g, 0, none⟩) 3 3) [0, 2, 1] := by
  refine ⟨some ⟨g, 0, none⟩, 3, rfl, fun j hj => ⟨g, rfl, ?_⟩⟩
  have hj' : j < 3 := hj
  have : j = 0 ∨ j = 1 ∨ j = 2 := by omega
  rcases this with rfl | rfl | rfl
  · exact H.read 0
  · exact H.read 1
  · exact H.read 2
theorem ex_o (g : Nat) (W : World) (h : Gr W (some ⟨g, 0, none⟩) 3 xl) : Calls Try.prog 12 #[.int .i64 3, .slice (some ⟨g, 0, none⟩) 2 2] W fun e w' => ∃ v, e = .returned (.tuple #[v, .int .i64 0]) ∧ Own W.heap.size w' v [0, 2, 1] ∧ Below W.heap.size W w' :=
  order_yes (some ⟨g, 0, none⟩) 3 xl 2 W h [0, 2, 1] ex_ord
theorem ex_p (g : Nat) (W : World) (h : Gr W (some ⟨g, 0, none⟩) 3 yl) : Calls Try.prog 27 #[.int .i64 3, .slice (some ⟨g, 0, none⟩) 3 3] W fun e w' => ∃ v, e = .returned (.tuple #[v, .int .i64 0]) ∧ Own W.heap.size w' v [0, 2, 1] ∧ Below W.heap.size W w' :=
  (loop_ok (some ⟨g, 0, none⟩) 3 yl 3 W h (fun ls hls q hq _ => by
    rw [ex_pso hls] at hq
    rw [List.mem_singleton.1 hq]
    exact ex_lh)).mono fun e w' k => by
      obtain ⟨ls, hls, hb, h1, -⟩ := k
      have hf : ls.find? (lpy (adj yl)) = some [0, 1, 2] := by rw [ex_pso hls]; rfl
      obtain ⟨v, he, ho⟩ := h1 _ hf
      have e0 : hd [0, 1, 2] = 0 := rfl
      rw [e0, ex_lpl] at ho
      exact ⟨v, he, ho, hb⟩
theorem ex_q (g g2 : Nat) (W : World) (h : Gr W (some ⟨g, 0, none⟩) 3 xl) (hw : Rdz W (.slice (some ⟨g2, 0, none⟩) 3 3) [5, 1, 0]) : Calls Try.prog 20 #[.int .i64 3, .slice (some ⟨g, 0, none⟩) 2 2, .slice (some ⟨g2, 0, none⟩) 3 3] W fun e w' => ∃ v, e = .returned (.tuple #[.int .i64 6, v, .int .i64 0]) ∧ Own W.heap.size w' v [0, 2, 1] ∧ Below W.heap.size W w' := by
  have k := lon_ok (some ⟨g, 0, none⟩) 3 xl 2 W (.slice (some ⟨g2, 0, none⟩) 3 3) [5, 1, 0] h hw (by decide) ex_lgE
  rw [ex_lgA] at k
  exact k
theorem ex_eq (v : Value) (W : World) (h : Rdl W v [0, 2, 1]) : Calls Try.prog 17 #[v, .slice (some ⟨W.heap.size, 0, none⟩) 3 3] (W.alloc (.cells #[.int .i64 0, .int .i64 2, .int .i64 1] 3)) fun e w' => e = .returned (.bool true) ∧ Below W.heap.size W w' :=
  (equal_any v _ [0, 2, 1] [0, 2, 1] _ (h.on (al1 W _)) (ex_l (Has.new_ W 3 _)) (by decide)).mono fun e w' k => by obtain ⟨h1, n, rfl⟩ := k; exact ⟨h1, below_drewN (al1 W _) n⟩
set_option maxRecDepth 100000 in
set_option maxHeartbeats 2000000 in
theorem awake_any (w : World) : Calls Try.prog 10 #[] w fun e w' => e = .returned (.bool true) ∧ Below w.heap.size w w' := by
  have a1 := al1 w (.cells xc 42)
  have hO := ex_o w.heap.size _ (ex_gx (Has.new_ w 42 xc))
  unfold xc at a1 hO
  go_enter Try.func10, Try.ntmps10
  go_wp2_with (go_at_call 12; (with_reducible refine hO.mono ?_); rintro e w1 ⟨v1, rfl, o1, b1⟩)
  have r1 := o1.rd
  have bw1 := belows a1 b1
  have a2 := al1 w1 (.cells yc 42)
  have hP := ex_p w1.heap.size _ (ex_gy (Has.new_ w1 42 yc))
  unfold yc at a2 hP
  clear o1 b1 hO a1
  go_wp2_with (go_at_call 27; (with_reducible refine hP.mono ?_); rintro e w2 ⟨v2, rfl, o2, b2⟩)
  have b12 := belows a2 b2
  have s1 := r1.on b12
  have r2 := o2.rd
  have bw2 := belows bw1 b12
  have a3 := al1 w2 (.cells xc 42)
  have a4 := al1 (w2.alloc (.cells xc 42)) (.cells #[.int .i64 5, .int .i64 1, .int .i64 0] 3)
  have hW := Has.new_ (w2.alloc (.cells xc 42)) 3 #[.int .i64 5, .int .i64 1, .int .i64 0]
  have e3 : (w2.alloc (.cells xc 42)).heap.size = w2.heap.size + 1 := by simp
  rw [e3] at hW
  have hQ := ex_q w2.heap.size (w2.heap.size + 1) _ (ex_gx (Has.on (Has.new_ w2 42 xc) a4)) (ex_w hW)
  unfold xc at a3 a4 hQ
  clear o2 b2 hP a2 r1 b12 e3 hW
  go_wp2_with (go_at_call 20; (with_reducible refine hQ.mono ?_); rintro e w3 ⟨v3, rfl, o3, b3⟩)
  have b23 := belows (belows a3 a4) b3
  have t1 := s1.on b23
  have t2 := r2.on b23
  have t3 := o3.rd
  have bw3 := belows bw2 b23
  clear s1 r2 a3 a4 b3 b23 hQ o3 bw1 bw2
  have e1 := ex_eq v1 w3 t1
  go_wp2_with (go_at_call 17; (with_reducible refine e1.mono ?_); rintro e w4 ⟨rfl, q4⟩)
  have t2 := t2.on q4
  have t3 := t3.on q4
  have e2 := ex_eq v2 w4 t2
  clear e1
  go_wp2_with (go_at_call 17; (with_reducible refine e2.mono ?_); rintro e w5 ⟨rfl, q5⟩)
  have t3 := t3.on q5
  have e3 := ex_eq v3 w5 t3
  clear e2
  go_wp2_with (go_at_call 17; (with_reducible refine e3.mono ?_); rintro e w6 ⟨rfl, q6⟩)
  go_ret
  exact ⟨rfl, belows (belows (belows bw3 q4) q5) q6⟩
def lrg (n k : Int) : Bool := (decide (20 < n) && decide (n ≤ 60)) || (decide (60 < k) && decide (k ≤ 1000)) || decide (1005 < k)
theorem large_any (p : Option Addr) (l : List (Int × Int)) (cap : Nat) (n : Int) (w : World) (hl : l.length ≤ maxLen) : Calls Try.prog 11 #[.int .i64 n, .slice p l.length cap] w fun e w' => e = .returned (.bool (lrg n l.length)) ∧ w = w' := by
  unfold maxLen at hl
  obtain ⟨B, hB⟩ : ∃ B, B = lrg n l.length := ⟨_, rfl⟩
  rw [← hB]
  by_cases h1 : 20 < n <;> by_cases h2 : n ≤ 60 <;> by_cases h3 : (60 : Int) < l.length <;> by_cases h4 : (l.length : Int) ≤ 1000 <;> by_cases h5 : (1005 : Int) < l.length
  all_goals (
    have HB : Hid (B = lrg n l.length) := Lib.hid hB
    first
    | (exfalso; clear HB hB; omega)
    | (have hv : lrg n l.length = true := by (unfold lrg; simp only [h1, h2, h3, h4, h5, decide_true, decide_false, Bool.and_true, Bool.or_true, Bool.true_or, Bool.and_self, Bool.false_or, Bool.and_false, Bool.or_false])
       have HV : Hid (B = true) := Lib.hid (hB.trans hv)
       clear hB hv HB
       go_enter Try.func11, Try.ntmps11
       go_wp2
       go_ret
       exact ⟨by rw [HV.out]; rfl, rfl⟩)
    | (have hv : lrg n l.length = false := by (unfold lrg; simp only [h1, h2, h3, h4, h5, decide_true, decide_false, Bool.and_true, Bool.or_true, Bool.true_or, Bool.and_self, Bool.false_or, Bool.and_false, Bool.or_false, Bool.false_and])
       have HV : Hid (B = false) := Lib.hid (hB.trans hv)
       clear hB hv HB
       go_enter Try.func11, Try.ntmps11
       go_wp2
       go_ret
       exact ⟨by rw [HV.out]; rfl, rfl⟩))
theorem lrg_no {n : Int} {l : List (Int × Int)} (h : lrg n l.length = false) : l.length ≤ 1005 := by
  unfold lrg at h
  simp at h
  omega
end Go.Proofs.Yteofbbakegcohaa
