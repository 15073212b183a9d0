/- The reference: Nearest. -/
import Derived.Test.YtffigpkkdljaiaaRw0
namespace Go.Proofs.Ytffigpkkdljaiaa
open Go.ChangeShapes Go.WideShapes Go.ChangeAt Go.RowKit
set_option linter.unusedVariables false
set_option linter.unusedSimpArgs false

def Lnr (n i : Nat) (x y : Bx) (p0 p1 p2 q0 q1 q2 : Int) : List Fb := [⟨n + 1 + 1 + 1 + 1 + 1, 23, #[.int .i64 (if 0 < i then q0 else 0), .int .i64 (if 1 < i then q1 else 0), .int .i64 (if 2 < i then q2 else 0)]⟩, ⟨n + 1 + 1 + 1 + 1, 23, #[.int .i64 (if 0 < i then p0 else 0), .int .i64 (if 1 < i then p1 else 0), .int .i64 (if 2 < i then p2 else 0)]⟩, ⟨n + 1 + 1 + 1, 23, #[.int .i64 0, .int .i64 0, .int .i64 0]⟩, ⟨n + 1 + 1, 23, #[.int .i64 0, .int .i64 0, .int .i64 0]⟩, ⟨n + 1, 25, #[.int .i64 y.a, .int .i64 y.b, .int .i64 y.c, .int .i64 y.d, .int .i64 y.e, .int .i64 y.f]⟩, ⟨n, 25, #[.int .i64 x.a, .int .i64 x.b, .int .i64 x.c, .int .i64 x.d, .int .i64 x.e, .int .i64 x.f]⟩]
theorem mx_max (a b : Int) : mx a b = max a b := by unfold mx; split <;> omega
theorem cells_nr {x y : Bx} {w W' : World} {i : Nat} {p0 p1 p2 q0 q1 q2 : Int} (h : Env w W' (Lnr w.heap.size i x y p0 p1 p2 q0 q1 q2)) : W'.cell? ⟨w.heap.size, 0, none⟩ = some (.int .i64 x.a) ∧ W'.cell? ⟨w.heap.size, 1, none⟩ = some (.int .i64 x.b) ∧ W'.cell? ⟨w.heap.size, 2, none⟩ = some (.int .i64 x.c) ∧ W'.cell? ⟨w.heap.size, 3, none⟩ = some (.int .i64 x.d) ∧ W'.cell? ⟨w.heap.size, 4, none⟩ = some (.int .i64 x.e) ∧ W'.cell? ⟨w.heap.size, 5, none⟩ = some (.int .i64 x.f) ∧ W'.cell? ⟨w.heap.size + 1, 0, none⟩ = some (.int .i64 y.a) ∧ W'.cell? ⟨w.heap.size + 1, 1, none⟩ = some (.int .i64 y.b) ∧ W'.cell? ⟨w.heap.size + 1, 2, none⟩ = some (.int .i64 y.c) ∧ W'.cell? ⟨w.heap.size + 1, 3, none⟩ = some (.int .i64 y.d) ∧ W'.cell? ⟨w.heap.size + 1, 4, none⟩ = some (.int .i64 y.e) ∧ W'.cell? ⟨w.heap.size + 1, 5, none⟩ = some (.int .i64 y.f) ∧ Env w W' (Lnr w.heap.size i x y p0 p1 p2 q0 q1 q2) := by
  have C := h.cells
  simp [BC, CF, Lnr] at C
  simp [C, h]
set_option maxHeartbeats 32000000 in
set_option maxRecDepth 100000 in
theorem rnearest_any (x y : Bx) (w : World) (hx : x.ok = true) (hy : y.ok = true) : Calls Try.prog 15 #[x.val, y.val] w fun E w' => E = .returned (.tuple #[ptv (nr x y 0).1 (nr x y 1).1 (nr x y 2).1, ptv (nr x y 0).2 (nr x y 1).2 (nr x y 2).2]) ∧ Below w.heap.size w w' := by
  have h1 := Bx.ok_t hx
  have h2 := Bx.ok_t hy
  have E := ((((((Env.nil w).add w.heap.size 25 #[.int .i64 x.a, .int .i64 x.b, .int .i64 x.c, .int .i64 x.d, .int .i64 x.e, .int .i64 x.f] rfl).add (w.heap.size + 1) 25 #[.int .i64 y.a, .int .i64 y.b, .int .i64 y.c, .int .i64 y.d, .int .i64 y.e, .int .i64 y.f] (by simp)).add (w.heap.size + 1 + 1) 23 #[.int .i64 0, .int .i64 0, .int .i64 0] (by simp)).add (w.heap.size + 1 + 1 + 1) 23 #[.int .i64 0, .int .i64 0, .int .i64 0] (by simp)).add (w.heap.size + 1 + 1 + 1 + 1) 23 #[.int .i64 0, .int .i64 0, .int .i64 0] (by simp)).add (w.heap.size + 1 + 1 + 1 + 1 + 1) 23 #[.int .i64 0, .int .i64 0, .int .i64 0] (by simp)
  obtain ⟨p0, ep0⟩ : ∃ p, p = (nr x y 0).1 := ⟨_, rfl⟩
  obtain ⟨p1, ep1⟩ : ∃ p, p = (nr x y 1).1 := ⟨_, rfl⟩
  obtain ⟨p2, ep2⟩ : ∃ p, p = (nr x y 2).1 := ⟨_, rfl⟩
  obtain ⟨q0, eq0⟩ : ∃ p, p = (nr x y 0).2 := ⟨_, rfl⟩
  obtain ⟨q1, eq1⟩ : ∃ p, p = (nr x y 1).2 := ⟨_, rfl⟩
  obtain ⟨q2, eq2⟩ : ∃ p, p = (nr x y 2).2 := ⟨_, rfl⟩
  rw [← ep0, ← ep1, ← ep2, ← eq0, ← eq1, ← eq2]
  unfold Bx.val ptv
  go_enter Try.func15, Try.ntmps15
  go_wp2_with fail
  go_loopw [8] (fun v wr => ∃ i : Nat, v = .int .i64 (i : Int) ∧ i ≤ 3 ∧ Env w wr (Lnr w.heap.size i x y p0 p1 p2 q0 q1 q2)) (fun v _ => 3 - (intOf v).toNat)
  case atStart => exact ⟨0, rfl, by omega, E⟩
  case round =>
    clear E
    obtain ⟨i, rfl, hi, E⟩ := hrel
    rcases (by omega : i = 0 ∨ i = 1 ∨ i = 2 ∨ i = 3) with rfl | rfl | rfl | rfl
    · have C := E.cells
      simp [BC, CF, Lnr] at C
      have cxl := fun W => rcoord0 x.a x.b x.c W
      have cxh := fun W => rcoord0 x.d x.e x.f W
      have cyl := fun W => rcoord0 y.a y.b y.c W
      have cyh := fun W => rcoord0 y.d y.e y.f W
      by_cases c1 : x.d < y.a
      · have d1 : decide (x.d < y.a) = true := by simp [c1]
        have d2 : decide (y.d < x.a) = false := by simp; omega
        have ep : p0 = x.d := by rw [ep0]; unfold nr nearS; simp only [Bx.side]; rw [if_pos c1]
        have eq : q0 = y.a := by rw [eq0]; unfold nr nearS; simp only [Bx.side]; rw [if_pos c1]
        clear ep0 ep1 ep2 eq0 eq1 eq2
        subst ep eq
        go_upto_region 5 with fail
        (go_region_held3 (fun W' => W'.cell? ⟨w.heap.size, 0, none⟩ = some (.int .i64 x.a) ∧ W'.cell? ⟨w.heap.size, 1, none⟩ = some (.int .i64 x.b) ∧ W'.cell? ⟨w.heap.size, 2, none⟩ = some (.int .i64 x.c) ∧ W'.cell? ⟨w.heap.size, 3, none⟩ = some (.int .i64 x.d) ∧ W'.cell? ⟨w.heap.size, 4, none⟩ = some (.int .i64 x.e) ∧ W'.cell? ⟨w.heap.size, 5, none⟩ = some (.int .i64 x.f) ∧ W'.cell? ⟨w.heap.size + 1, 0, none⟩ = some (.int .i64 y.a) ∧ W'.cell? ⟨w.heap.size + 1, 1, none⟩ = some (.int .i64 y.b) ∧ W'.cell? ⟨w.heap.size + 1, 2, none⟩ = some (.int .i64 y.c) ∧ W'.cell? ⟨w.heap.size + 1, 3, none⟩ = some (.int .i64 y.d) ∧ W'.cell? ⟨w.heap.size + 1, 4, none⟩ = some (.int .i64 y.e) ∧ W'.cell? ⟨w.heap.size + 1, 5, none⟩ = some (.int .i64 y.f) ∧ Env w W' (Lnr w.heap.size 0 x y (x.d) p1 p2 (y.a) q1 q2)) (first | exact cells_nr (by go_split_ands; assumption) | exact cells_nr E | exact cells_nr E.drw) ((go_at_call 44; (first | with_reducible refine (cxl _).mono ?_ | with_reducible refine (cyl _).mono ?_); rintro X w1 ⟨rfl, hb⟩; (first | have E := E.drw.on hb | have E := E.on hb); clear hb)))
        all_goals (have C := E.cells; simp [BC, CF, Lnr] at C)
        all_goals go_upto_region 7 with fail
        all_goals (go_region_held3 (fun W' => W'.cell? ⟨w.heap.size, 0, none⟩ = some (.int .i64 x.a) ∧ W'.cell? ⟨w.heap.size, 1, none⟩ = some (.int .i64 x.b) ∧ W'.cell? ⟨w.heap.size, 2, none⟩ = some (.int .i64 x.c) ∧ W'.cell? ⟨w.heap.size, 3, none⟩ = some (.int .i64 x.d) ∧ W'.cell? ⟨w.heap.size, 4, none⟩ = some (.int .i64 x.e) ∧ W'.cell? ⟨w.heap.size, 5, none⟩ = some (.int .i64 x.f) ∧ W'.cell? ⟨w.heap.size + 1, 0, none⟩ = some (.int .i64 y.a) ∧ W'.cell? ⟨w.heap.size + 1, 1, none⟩ = some (.int .i64 y.b) ∧ W'.cell? ⟨w.heap.size + 1, 2, none⟩ = some (.int .i64 y.c) ∧ W'.cell? ⟨w.heap.size + 1, 3, none⟩ = some (.int .i64 y.d) ∧ W'.cell? ⟨w.heap.size + 1, 4, none⟩ = some (.int .i64 y.e) ∧ W'.cell? ⟨w.heap.size + 1, 5, none⟩ = some (.int .i64 y.f) ∧ Env w W' (Lnr w.heap.size 0 x y (x.d) p1 p2 (y.a) q1 q2)) (first | exact cells_nr (by go_split_ands; assumption) | exact cells_nr E | exact cells_nr E.drw) ((go_at_call 44; (first | with_reducible refine (cxh _).mono ?_ | with_reducible refine (cyl _).mono ?_); rintro X w1 ⟨rfl, hb⟩; (first | have E := E.drw.on hb | have E := E.on hb); clear hb)))
        all_goals (have C := E.cells; simp [BC, CF, Lnr] at C)
        all_goals go_upto_region 10 with (go_at_call 44; (first | with_reducible refine (cxh _).mono ?_ | with_reducible refine (cyl _).mono ?_); rintro X w1 ⟨rfl, hb⟩; replace E := E.on hb; have C := E.cells; simp [BC, CF, Lnr] at C; clear hb)
        all_goals (go_region_held3 (fun W' => W'.cell? ⟨w.heap.size, 0, none⟩ = some (.int .i64 x.a) ∧ W'.cell? ⟨w.heap.size, 1, none⟩ = some (.int .i64 x.b) ∧ W'.cell? ⟨w.heap.size, 2, none⟩ = some (.int .i64 x.c) ∧ W'.cell? ⟨w.heap.size, 3, none⟩ = some (.int .i64 x.d) ∧ W'.cell? ⟨w.heap.size, 4, none⟩ = some (.int .i64 x.e) ∧ W'.cell? ⟨w.heap.size, 5, none⟩ = some (.int .i64 x.f) ∧ W'.cell? ⟨w.heap.size + 1, 0, none⟩ = some (.int .i64 y.a) ∧ W'.cell? ⟨w.heap.size + 1, 1, none⟩ = some (.int .i64 y.b) ∧ W'.cell? ⟨w.heap.size + 1, 2, none⟩ = some (.int .i64 y.c) ∧ W'.cell? ⟨w.heap.size + 1, 3, none⟩ = some (.int .i64 y.d) ∧ W'.cell? ⟨w.heap.size + 1, 4, none⟩ = some (.int .i64 y.e) ∧ W'.cell? ⟨w.heap.size + 1, 5, none⟩ = some (.int .i64 y.f) ∧ Env w W' (Lnr w.heap.size 0 x y (x.d) p1 p2 (y.a) q1 q2)) (first | exact cells_nr (by go_split_ands; assumption) | exact cells_nr E | exact cells_nr E.drw) ((go_at_call 44; (first | with_reducible refine (cyh _).mono ?_ | with_reducible refine (cxl _).mono ?_); rintro X w1 ⟨rfl, hb⟩; (first | have E := E.drw.on hb | have E := E.on hb); clear hb)))
        all_goals (have C := E.cells; simp [BC, CF, Lnr] at C)
        all_goals go_upto_region 13 with (go_at_call 44; (first | with_reducible refine (cxl _).mono ?_ | with_reducible refine (cyh _).mono ?_); rintro X w1 ⟨rfl, hb⟩; replace E := E.on hb; have C := E.cells; simp [BC, CF, Lnr] at C; clear hb)
        all_goals (
          go_upto_region 14 with (go_at_call 45; (with_reducible refine (rwith0 _ _ _ _ _).mono ?_); rintro X w1 ⟨rfl, hb⟩; have E1 := E.on hb; clear E hb; have C := E1.cells; simp [BC, CF, Lnr] at C)
          have E := ((E1.put 1 0 (.int .i64 (x.d)) rfl).put 1 1 (.int .i64 0) rfl).put 1 2 (.int .i64 0) rfl
          have C := E.cells; simp [BC, CF, Lnr, setB] at C
          go_wp2_with (go_at_call 45; (with_reducible refine (rwith0 _ _ _ _ _).mono ?_); rintro X w1 ⟨rfl, hb⟩; have E2 := E.on hb; clear hb; have C := E2.cells; simp [BC, CF, Lnr, setB] at C)
          exact ⟨⟨1, rfl, by omega, ((E2.put 0 0 (.int .i64 (y.a)) rfl).put 0 1 (.int .i64 0) rfl).put 0 2 (.int .i64 0) rfl⟩, by simp [intOf]⟩)
      · by_cases c2 : y.d < x.a
        · have d1 : decide (x.d < y.a) = false := by simp; omega
          have d2 : decide (y.d < x.a) = true := by simp [c2]
          have ep : p0 = x.a := by rw [ep0]; unfold nr nearS; simp only [Bx.side]; rw [if_neg c1, if_pos c2]
          have eq : q0 = y.d := by rw [eq0]; unfold nr nearS; simp only [Bx.side]; rw [if_neg c1, if_pos c2]
          clear ep0 ep1 ep2 eq0 eq1 eq2
          subst ep eq
          go_upto_region 5 with fail
          (go_region_held3 (fun W' => W'.cell? ⟨w.heap.size, 0, none⟩ = some (.int .i64 x.a) ∧ W'.cell? ⟨w.heap.size, 1, none⟩ = some (.int .i64 x.b) ∧ W'.cell? ⟨w.heap.size, 2, none⟩ = some (.int .i64 x.c) ∧ W'.cell? ⟨w.heap.size, 3, none⟩ = some (.int .i64 x.d) ∧ W'.cell? ⟨w.heap.size, 4, none⟩ = some (.int .i64 x.e) ∧ W'.cell? ⟨w.heap.size, 5, none⟩ = some (.int .i64 x.f) ∧ W'.cell? ⟨w.heap.size + 1, 0, none⟩ = some (.int .i64 y.a) ∧ W'.cell? ⟨w.heap.size + 1, 1, none⟩ = some (.int .i64 y.b) ∧ W'.cell? ⟨w.heap.size + 1, 2, none⟩ = some (.int .i64 y.c) ∧ W'.cell? ⟨w.heap.size + 1, 3, none⟩ = some (.int .i64 y.d) ∧ W'.cell? ⟨w.heap.size + 1, 4, none⟩ = some (.int .i64 y.e) ∧ W'.cell? ⟨w.heap.size + 1, 5, none⟩ = some (.int .i64 y.f) ∧ Env w W' (Lnr w.heap.size 0 x y (x.a) p1 p2 (y.d) q1 q2)) (first | exact cells_nr (by go_split_ands; assumption) | exact cells_nr E | exact cells_nr E.drw) ((go_at_call 44; (first | with_reducible refine (cxl _).mono ?_ | with_reducible refine (cyl _).mono ?_); rintro X w1 ⟨rfl, hb⟩; (first | have E := E.drw.on hb | have E := E.on hb); clear hb)))
          all_goals (have C := E.cells; simp [BC, CF, Lnr] at C)
          all_goals go_upto_region 7 with fail
          all_goals (go_region_held3 (fun W' => W'.cell? ⟨w.heap.size, 0, none⟩ = some (.int .i64 x.a) ∧ W'.cell? ⟨w.heap.size, 1, none⟩ = some (.int .i64 x.b) ∧ W'.cell? ⟨w.heap.size, 2, none⟩ = some (.int .i64 x.c) ∧ W'.cell? ⟨w.heap.size, 3, none⟩ = some (.int .i64 x.d) ∧ W'.cell? ⟨w.heap.size, 4, none⟩ = some (.int .i64 x.e) ∧ W'.cell? ⟨w.heap.size, 5, none⟩ = some (.int .i64 x.f) ∧ W'.cell? ⟨w.heap.size + 1, 0, none⟩ = some (.int .i64 y.a) ∧ W'.cell? ⟨w.heap.size + 1, 1, none⟩ = some (.int .i64 y.b) ∧ W'.cell? ⟨w.heap.size + 1, 2, none⟩ = some (.int .i64 y.c) ∧ W'.cell? ⟨w.heap.size + 1, 3, none⟩ = some (.int .i64 y.d) ∧ W'.cell? ⟨w.heap.size + 1, 4, none⟩ = some (.int .i64 y.e) ∧ W'.cell? ⟨w.heap.size + 1, 5, none⟩ = some (.int .i64 y.f) ∧ Env w W' (Lnr w.heap.size 0 x y (x.a) p1 p2 (y.d) q1 q2)) (first | exact cells_nr (by go_split_ands; assumption) | exact cells_nr E | exact cells_nr E.drw) ((go_at_call 44; (first | with_reducible refine (cxh _).mono ?_ | with_reducible refine (cyl _).mono ?_); rintro X w1 ⟨rfl, hb⟩; (first | have E := E.drw.on hb | have E := E.on hb); clear hb)))
          all_goals (have C := E.cells; simp [BC, CF, Lnr] at C)
          all_goals go_upto_region 10 with (go_at_call 44; (first | with_reducible refine (cxh _).mono ?_ | with_reducible refine (cyl _).mono ?_); rintro X w1 ⟨rfl, hb⟩; replace E := E.on hb; have C := E.cells; simp [BC, CF, Lnr] at C; clear hb)
          all_goals (go_region_held3 (fun W' => W'.cell? ⟨w.heap.size, 0, none⟩ = some (.int .i64 x.a) ∧ W'.cell? ⟨w.heap.size, 1, none⟩ = some (.int .i64 x.b) ∧ W'.cell? ⟨w.heap.size, 2, none⟩ = some (.int .i64 x.c) ∧ W'.cell? ⟨w.heap.size, 3, none⟩ = some (.int .i64 x.d) ∧ W'.cell? ⟨w.heap.size, 4, none⟩ = some (.int .i64 x.e) ∧ W'.cell? ⟨w.heap.size, 5, none⟩ = some (.int .i64 x.f) ∧ W'.cell? ⟨w.heap.size + 1, 0, none⟩ = some (.int .i64 y.a) ∧ W'.cell? ⟨w.heap.size + 1, 1, none⟩ = some (.int .i64 y.b) ∧ W'.cell? ⟨w.heap.size + 1, 2, none⟩ = some (.int .i64 y.c) ∧ W'.cell? ⟨w.heap.size + 1, 3, none⟩ = some (.int .i64 y.d) ∧ W'.cell? ⟨w.heap.size + 1, 4, none⟩ = some (.int .i64 y.e) ∧ W'.cell? ⟨w.heap.size + 1, 5, none⟩ = some (.int .i64 y.f) ∧ Env w W' (Lnr w.heap.size 0 x y (x.a) p1 p2 (y.d) q1 q2)) (first | exact cells_nr (by go_split_ands; assumption) | exact cells_nr E | exact cells_nr E.drw) ((go_at_call 44; (first | with_reducible refine (cyh _).mono ?_ | with_reducible refine (cxl _).mono ?_); rintro X w1 ⟨rfl, hb⟩; (first | have E := E.drw.on hb | have E := E.on hb); clear hb)))
          all_goals (have C := E.cells; simp [BC, CF, Lnr] at C)
          all_goals go_upto_region 13 with (go_at_call 44; (first | with_reducible refine (cxl _).mono ?_ | with_reducible refine (cyh _).mono ?_); rintro X w1 ⟨rfl, hb⟩; replace E := E.on hb; have C := E.cells; simp [BC, CF, Lnr] at C; clear hb)
          all_goals (
            go_upto_region 14 with (go_at_call 45; (with_reducible refine (rwith0 _ _ _ _ _).mono ?_); rintro X w1 ⟨rfl, hb⟩; have E1 := E.on hb; clear E hb; have C := E1.cells; simp [BC, CF, Lnr] at C)
            have E := ((E1.put 1 0 (.int .i64 (x.a)) rfl).put 1 1 (.int .i64 0) rfl).put 1 2 (.int .i64 0) rfl
            have C := E.cells; simp [BC, CF, Lnr, setB] at C
            go_wp2_with (go_at_call 45; (with_reducible refine (rwith0 _ _ _ _ _).mono ?_); rintro X w1 ⟨rfl, hb⟩; have E2 := E.on hb; clear hb; have C := E2.cells; simp [BC, CF, Lnr, setB] at C)
            exact ⟨⟨1, rfl, by omega, ((E2.put 0 0 (.int .i64 (y.d)) rfl).put 0 1 (.int .i64 0) rfl).put 0 2 (.int .i64 0) rfl⟩, by simp [intOf]⟩)
        · have d1 : decide (x.d < y.a) = false := by simp; omega
          have d2 : decide (y.d < x.a) = false := by simp; omega
          have ep : p0 = max x.a y.a := by rw [ep0]; unfold nr nearS; simp only [Bx.side]; rw [if_neg c1, if_neg c2]; exact mx_max _ _
          have eq : q0 = max x.a y.a := by rw [eq0]; unfold nr nearS; simp only [Bx.side]; rw [if_neg c1, if_neg c2]; exact mx_max _ _
          clear ep0 ep1 ep2 eq0 eq1 eq2
          subst ep eq
          go_upto_region 5 with fail
          (go_region_held3 (fun W' => W'.cell? ⟨w.heap.size, 0, none⟩ = some (.int .i64 x.a) ∧ W'.cell? ⟨w.heap.size, 1, none⟩ = some (.int .i64 x.b) ∧ W'.cell? ⟨w.heap.size, 2, none⟩ = some (.int .i64 x.c) ∧ W'.cell? ⟨w.heap.size, 3, none⟩ = some (.int .i64 x.d) ∧ W'.cell? ⟨w.heap.size, 4, none⟩ = some (.int .i64 x.e) ∧ W'.cell? ⟨w.heap.size, 5, none⟩ = some (.int .i64 x.f) ∧ W'.cell? ⟨w.heap.size + 1, 0, none⟩ = some (.int .i64 y.a) ∧ W'.cell? ⟨w.heap.size + 1, 1, none⟩ = some (.int .i64 y.b) ∧ W'.cell? ⟨w.heap.size + 1, 2, none⟩ = some (.int .i64 y.c) ∧ W'.cell? ⟨w.heap.size + 1, 3, none⟩ = some (.int .i64 y.d) ∧ W'.cell? ⟨w.heap.size + 1, 4, none⟩ = some (.int .i64 y.e) ∧ W'.cell? ⟨w.heap.size + 1, 5, none⟩ = some (.int .i64 y.f) ∧ Env w W' (Lnr w.heap.size 0 x y (max x.a y.a) p1 p2 (max x.a y.a) q1 q2)) (first | exact cells_nr (by go_split_ands; assumption) | exact cells_nr E | exact cells_nr E.drw) ((go_at_call 44; (first | with_reducible refine (cxl _).mono ?_ | with_reducible refine (cyl _).mono ?_); rintro X w1 ⟨rfl, hb⟩; (first | have E := E.drw.on hb | have E := E.on hb); clear hb)))
          all_goals (have C := E.cells; simp [BC, CF, Lnr] at C)
          all_goals go_upto_region 7 with fail
          all_goals (go_region_held3 (fun W' => W'.cell? ⟨w.heap.size, 0, none⟩ = some (.int .i64 x.a) ∧ W'.cell? ⟨w.heap.size, 1, none⟩ = some (.int .i64 x.b) ∧ W'.cell? ⟨w.heap.size, 2, none⟩ = some (.int .i64 x.c) ∧ W'.cell? ⟨w.heap.size, 3, none⟩ = some (.int .i64 x.d) ∧ W'.cell? ⟨w.heap.size, 4, none⟩ = some (.int .i64 x.e) ∧ W'.cell? ⟨w.heap.size, 5, none⟩ = some (.int .i64 x.f) ∧ W'.cell? ⟨w.heap.size + 1, 0, none⟩ = some (.int .i64 y.a) ∧ W'.cell? ⟨w.heap.size + 1, 1, none⟩ = some (.int .i64 y.b) ∧ W'.cell? ⟨w.heap.size + 1, 2, none⟩ = some (.int .i64 y.c) ∧ W'.cell? ⟨w.heap.size + 1, 3, none⟩ = some (.int .i64 y.d) ∧ W'.cell? ⟨w.heap.size + 1, 4, none⟩ = some (.int .i64 y.e) ∧ W'.cell? ⟨w.heap.size + 1, 5, none⟩ = some (.int .i64 y.f) ∧ Env w W' (Lnr w.heap.size 0 x y (max x.a y.a) p1 p2 (max x.a y.a) q1 q2)) (first | exact cells_nr (by go_split_ands; assumption) | exact cells_nr E | exact cells_nr E.drw) ((go_at_call 44; (first | with_reducible refine (cxh _).mono ?_ | with_reducible refine (cyl _).mono ?_); rintro X w1 ⟨rfl, hb⟩; (first | have E := E.drw.on hb | have E := E.on hb); clear hb)))
          all_goals (have C := E.cells; simp [BC, CF, Lnr] at C)
          all_goals go_upto_region 10 with (go_at_call 44; (first | with_reducible refine (cxh _).mono ?_ | with_reducible refine (cyl _).mono ?_); rintro X w1 ⟨rfl, hb⟩; replace E := E.on hb; have C := E.cells; simp [BC, CF, Lnr] at C; clear hb)
          all_goals (go_region_held3 (fun W' => W'.cell? ⟨w.heap.size, 0, none⟩ = some (.int .i64 x.a) ∧ W'.cell? ⟨w.heap.size, 1, none⟩ = some (.int .i64 x.b) ∧ W'.cell? ⟨w.heap.size, 2, none⟩ = some (.int .i64 x.c) ∧ W'.cell? ⟨w.heap.size, 3, none⟩ = some (.int .i64 x.d) ∧ W'.cell? ⟨w.heap.size, 4, none⟩ = some (.int .i64 x.e) ∧ W'.cell? ⟨w.heap.size, 5, none⟩ = some (.int .i64 x.f) ∧ W'.cell? ⟨w.heap.size + 1, 0, none⟩ = some (.int .i64 y.a) ∧ W'.cell? ⟨w.heap.size + 1, 1, none⟩ = some (.int .i64 y.b) ∧ W'.cell? ⟨w.heap.size + 1, 2, none⟩ = some (.int .i64 y.c) ∧ W'.cell? ⟨w.heap.size + 1, 3, none⟩ = some (.int .i64 y.d) ∧ W'.cell? ⟨w.heap.size + 1, 4, none⟩ = some (.int .i64 y.e) ∧ W'.cell? ⟨w.heap.size + 1, 5, none⟩ = some (.int .i64 y.f) ∧ Env w W' (Lnr w.heap.size 0 x y (max x.a y.a) p1 p2 (max x.a y.a) q1 q2)) (first | exact cells_nr (by go_split_ands; assumption) | exact cells_nr E | exact cells_nr E.drw) ((go_at_call 44; (first | with_reducible refine (cyh _).mono ?_ | with_reducible refine (cxl _).mono ?_); rintro X w1 ⟨rfl, hb⟩; (first | have E := E.drw.on hb | have E := E.on hb); clear hb)))
          all_goals (have C := E.cells; simp [BC, CF, Lnr] at C)
          all_goals go_upto_region 13 with (go_at_call 44; (first | with_reducible refine (cxl _).mono ?_ | with_reducible refine (cyh _).mono ?_); rintro X w1 ⟨rfl, hb⟩; replace E := E.on hb; have C := E.cells; simp [BC, CF, Lnr] at C; clear hb)
          all_goals (
            go_upto_region 14 with (go_at_call 45; (with_reducible refine (rwith0 _ _ _ _ _).mono ?_); rintro X w1 ⟨rfl, hb⟩; have E1 := E.on hb; clear E hb; have C := E1.cells; simp [BC, CF, Lnr] at C)
            have E := ((E1.put 1 0 (.int .i64 (max x.a y.a)) rfl).put 1 1 (.int .i64 0) rfl).put 1 2 (.int .i64 0) rfl
            have C := E.cells; simp [BC, CF, Lnr, setB] at C
            go_wp2_with (go_at_call 45; (with_reducible refine (rwith0 _ _ _ _ _).mono ?_); rintro X w1 ⟨rfl, hb⟩; have E2 := E.on hb; clear hb; have C := E2.cells; simp [BC, CF, Lnr, setB] at C)
            exact ⟨⟨1, rfl, by omega, ((E2.put 0 0 (.int .i64 (max x.a y.a)) rfl).put 0 1 (.int .i64 0) rfl).put 0 2 (.int .i64 0) rfl⟩, by simp [intOf]⟩)
    · have C := E.cells
      simp [BC, CF, Lnr] at C
      have cxl := fun W => rcoord1 x.a x.b x.c W
      have cxh := fun W => rcoord1 x.d x.e x.f W
      have cyl := fun W => rcoord1 y.a y.b y.c W
      have cyh := fun W => rcoord1 y.d y.e y.f W
      by_cases c1 : x.e < y.b
      · have d1 : decide (x.e < y.b) = true := by simp [c1]
        have d2 : decide (y.e < x.b) = false := by simp; omega
        have ep : p1 = x.e := by rw [ep1]; unfold nr nearS; simp only [Bx.side]; rw [if_pos c1]
        have eq : q1 = y.b := by rw [eq1]; unfold nr nearS; simp only [Bx.side]; rw [if_pos c1]
        clear ep0 ep1 ep2 eq0 eq1 eq2
        subst ep eq
        go_upto_region 5 with fail
        (go_region_held3 (fun W' => W'.cell? ⟨w.heap.size, 0, none⟩ = some (.int .i64 x.a) ∧ W'.cell? ⟨w.heap.size, 1, none⟩ = some (.int .i64 x.b) ∧ W'.cell? ⟨w.heap.size, 2, none⟩ = some (.int .i64 x.c) ∧ W'.cell? ⟨w.heap.size, 3, none⟩ = some (.int .i64 x.d) ∧ W'.cell? ⟨w.heap.size, 4, none⟩ = some (.int .i64 x.e) ∧ W'.cell? ⟨w.heap.size, 5, none⟩ = some (.int .i64 x.f) ∧ W'.cell? ⟨w.heap.size + 1, 0, none⟩ = some (.int .i64 y.a) ∧ W'.cell? ⟨w.heap.size + 1, 1, none⟩ = some (.int .i64 y.b) ∧ W'.cell? ⟨w.heap.size + 1, 2, none⟩ = some (.int .i64 y.c) ∧ W'.cell? ⟨w.heap.size + 1, 3, none⟩ = some (.int .i64 y.d) ∧ W'.cell? ⟨w.heap.size + 1, 4, none⟩ = some (.int .i64 y.e) ∧ W'.cell? ⟨w.heap.size + 1, 5, none⟩ = some (.int .i64 y.f) ∧ Env w W' (Lnr w.heap.size 1 x y p0 (x.e) p2 q0 (y.b) q2)) (first | exact cells_nr (by go_split_ands; assumption) | exact cells_nr E | exact cells_nr E.drw) ((go_at_call 44; (first | with_reducible refine (cxl _).mono ?_ | with_reducible refine (cyl _).mono ?_); rintro X w1 ⟨rfl, hb⟩; (first | have E := E.drw.on hb | have E := E.on hb); clear hb)))
        all_goals (have C := E.cells; simp [BC, CF, Lnr] at C)
        all_goals go_upto_region 7 with fail
        all_goals (go_region_held3 (fun W' => W'.cell? ⟨w.heap.size, 0, none⟩ = some (.int .i64 x.a) ∧ W'.cell? ⟨w.heap.size, 1, none⟩ = some (.int .i64 x.b) ∧ W'.cell? ⟨w.heap.size, 2, none⟩ = some (.int .i64 x.c) ∧ W'.cell? ⟨w.heap.size, 3, none⟩ = some (.int .i64 x.d) ∧ W'.cell? ⟨w.heap.size, 4, none⟩ = some (.int .i64 x.e) ∧ W'.cell? ⟨w.heap.size, 5, none⟩ = some (.int .i64 x.f) ∧ W'.cell? ⟨w.heap.size + 1, 0, none⟩ = some (.int .i64 y.a) ∧ W'.cell? ⟨w.heap.size + 1, 1, none⟩ = some (.int .i64 y.b) ∧ W'.cell? ⟨w.heap.size + 1, 2, none⟩ = some (.int .i64 y.c) ∧ W'.cell? ⟨w.heap.size + 1, 3, none⟩ = some (.int .i64 y.d) ∧ W'.cell? ⟨w.heap.size + 1, 4, none⟩ = some (.int .i64 y.e) ∧ W'.cell? ⟨w.heap.size + 1, 5, none⟩ = some (.int .i64 y.f) ∧ Env w W' (Lnr w.heap.size 1 x y p0 (x.e) p2 q0 (y.b) q2)) (first | exact cells_nr (by go_split_ands; assumption) | exact cells_nr E | exact cells_nr E.drw) ((go_at_call 44; (first | with_reducible refine (cxh _).mono ?_ | with_reducible refine (cyl _).mono ?_); rintro X w1 ⟨rfl, hb⟩; (first | have E := E.drw.on hb | have E := E.on hb); clear hb)))
        all_goals (have C := E.cells; simp [BC, CF, Lnr] at C)
        all_goals go_upto_region 10 with (go_at_call 44; (first | with_reducible refine (cxh _).mono ?_ | with_reducible refine (cyl _).mono ?_); rintro X w1 ⟨rfl, hb⟩; replace E := E.on hb; have C := E.cells; simp [BC, CF, Lnr] at C; clear hb)
        all_goals (go_region_held3 (fun W' => W'.cell? ⟨w.heap.size, 0, none⟩ = some (.int .i64 x.a) ∧ W'.cell? ⟨w.heap.size, 1, none⟩ = some (.int .i64 x.b) ∧ W'.cell? ⟨w.heap.size, 2, none⟩ = some (.int .i64 x.c) ∧ W'.cell? ⟨w.heap.size, 3, none⟩ = some (.int .i64 x.d) ∧ W'.cell? ⟨w.heap.size, 4, none⟩ = some (.int .i64 x.e) ∧ W'.cell? ⟨w.heap.size, 5, none⟩ = some (.int .i64 x.f) ∧ W'.cell? ⟨w.heap.size + 1, 0, none⟩ = some (.int .i64 y.a) ∧ W'.cell? ⟨w.heap.size + 1, 1, none⟩ = some (.int .i64 y.b) ∧ W'.cell? ⟨w.heap.size + 1, 2, none⟩ = some (.int .i64 y.c) ∧ W'.cell? ⟨w.heap.size + 1, 3, none⟩ = some (.int .i64 y.d) ∧ W'.cell? ⟨w.heap.size + 1, 4, none⟩ = some (.int .i64 y.e) ∧ W'.cell? ⟨w.heap.size + 1, 5, none⟩ = some (.int .i64 y.f) ∧ Env w W' (Lnr w.heap.size 1 x y p0 (x.e) p2 q0 (y.b) q2)) (first | exact cells_nr (by go_split_ands; assumption) | exact cells_nr E | exact cells_nr E.drw) ((go_at_call 44; (first | with_reducible refine (cyh _).mono ?_ | with_reducible refine (cxl _).mono ?_); rintro X w1 ⟨rfl, hb⟩; (first | have E := E.drw.on hb | have E := E.on hb); clear hb)))
        all_goals (have C := E.cells; simp [BC, CF, Lnr] at C)
        all_goals go_upto_region 13 with (go_at_call 44; (first | with_reducible refine (cxl _).mono ?_ | with_reducible refine (cyh _).mono ?_); rintro X w1 ⟨rfl, hb⟩; replace E := E.on hb; have C := E.cells; simp [BC, CF, Lnr] at C; clear hb)
        all_goals (
          go_upto_region 14 with (go_at_call 45; (with_reducible refine (rwith1 _ _ _ _ _).mono ?_); rintro X w1 ⟨rfl, hb⟩; have E1 := E.on hb; clear E hb; have C := E1.cells; simp [BC, CF, Lnr] at C)
          have E := ((E1.put 1 0 (.int .i64 p0) rfl).put 1 1 (.int .i64 (x.e)) rfl).put 1 2 (.int .i64 0) rfl
          have C := E.cells; simp [BC, CF, Lnr, setB] at C
          go_wp2_with (go_at_call 45; (with_reducible refine (rwith1 _ _ _ _ _).mono ?_); rintro X w1 ⟨rfl, hb⟩; have E2 := E.on hb; clear hb; have C := E2.cells; simp [BC, CF, Lnr, setB] at C)
          exact ⟨⟨2, rfl, by omega, ((E2.put 0 0 (.int .i64 q0) rfl).put 0 1 (.int .i64 (y.b)) rfl).put 0 2 (.int .i64 0) rfl⟩, by simp [intOf]⟩)
      · by_cases c2 : y.e < x.b
        · have d1 : decide (x.e < y.b) = false := by simp; omega
          have d2 : decide (y.e < x.b) = true := by simp [c2]
          have ep : p1 = x.b := by rw [ep1]; unfold nr nearS; simp only [Bx.side]; rw [if_neg c1, if_pos c2]
          have eq : q1 = y.e := by rw [eq1]; unfold nr nearS; simp only [Bx.side]; rw [if_neg c1, if_pos c2]
          clear ep0 ep1 ep2 eq0 eq1 eq2
          subst ep eq
          go_upto_region 5 with fail
          (go_region_held3 (fun W' => W'.cell? ⟨w.heap.size, 0, none⟩ = some (.int .i64 x.a) ∧ W'.cell? ⟨w.heap.size, 1, none⟩ = some (.int .i64 x.b) ∧ W'.cell? ⟨w.heap.size, 2, none⟩ = some (.int .i64 x.c) ∧ W'.cell? ⟨w.heap.size, 3, none⟩ = some (.int .i64 x.d) ∧ W'.cell? ⟨w.heap.size, 4, none⟩ = some (.int .i64 x.e) ∧ W'.cell? ⟨w.heap.size, 5, none⟩ = some (.int .i64 x.f) ∧ W'.cell? ⟨w.heap.size + 1, 0, none⟩ = some (.int .i64 y.a) ∧ W'.cell? ⟨w.heap.size + 1, 1, none⟩ = some (.int .i64 y.b) ∧ W'.cell? ⟨w.heap.size + 1, 2, none⟩ = some (.int .i64 y.c) ∧ W'.cell? ⟨w.heap.size + 1, 3, none⟩ = some (.int .i64 y.d) ∧ W'.cell? ⟨w.heap.size + 1, 4, none⟩ = some (.int .i64 y.e) ∧ W'.cell? ⟨w.heap.size + 1, 5, none⟩ = some (.int .i64 y.f) ∧ Env w W' (Lnr w.heap.size 1 x y p0 (x.b) p2 q0 (y.e) q2)) (first | exact cells_nr (by go_split_ands; assumption) | exact cells_nr E | exact cells_nr E.drw) ((go_at_call 44; (first | with_reducible refine (cxl _).mono ?_ | with_reducible refine (cyl _).mono ?_); rintro X w1 ⟨rfl, hb⟩; (first | have E := E.drw.on hb | have E := E.on hb); clear hb)))
          all_goals (have C := E.cells; simp [BC, CF, Lnr] at C)
          all_goals go_upto_region 7 with fail
          all_goals (go_region_held3 (fun W' => W'.cell? ⟨w.heap.size, 0, none⟩ = some (.int .i64 x.a) ∧ W'.cell? ⟨w.heap.size, 1, none⟩ = some (.int .i64 x.b) ∧ W'.cell? ⟨w.heap.size, 2, none⟩ = some (.int .i64 x.c) ∧ W'.cell? ⟨w.heap.size, 3, none⟩ = some (.int .i64 x.d) ∧ W'.cell? ⟨w.heap.size, 4, none⟩ = some (.int .i64 x.e) ∧ W'.cell? ⟨w.heap.size, 5, none⟩ = some (.int .i64 x.f) ∧ W'.cell? ⟨w.heap.size + 1, 0, none⟩ = some (.int .i64 y.a) ∧ W'.cell? ⟨w.heap.size + 1, 1, none⟩ = some (.int .i64 y.b) ∧ W'.cell? ⟨w.heap.size + 1, 2, none⟩ = some (.int .i64 y.c) ∧ W'.cell? ⟨w.heap.size + 1, 3, none⟩ = some (.int .i64 y.d) ∧ W'.cell? ⟨w.heap.size + 1, 4, none⟩ = some (.int .i64 y.e) ∧ W'.cell? ⟨w.heap.size + 1, 5, none⟩ = some (.int .i64 y.f) ∧ Env w W' (Lnr w.heap.size 1 x y p0 (x.b) p2 q0 (y.e) q2)) (first | exact cells_nr (by go_split_ands; assumption) | exact cells_nr E | exact cells_nr E.drw) ((go_at_call 44; (first | with_reducible refine (cxh _).mono ?_ | with_reducible refine (cyl _).mono ?_); rintro X w1 ⟨rfl, hb⟩; (first | have E := E.drw.on hb | have E := E.on hb); clear hb)))
          all_goals (have C := E.cells; simp [BC, CF, Lnr] at C)
          all_goals go_upto_region 10 with (go_at_call 44; (first | with_reducible refine (cxh _).mono ?_ | with_reducible refine (cyl _).mono ?_); rintro X w1 ⟨rfl, hb⟩; replace E := E.on hb; have C := E.cells; simp [BC, CF, Lnr] at C; clear hb)
          all_goals (go_region_held3 (fun W' => W'.cell? ⟨w.heap.size, 0, none⟩ = some (.int .i64 x.a) ∧ W'.cell? ⟨w.heap.size, 1, none⟩ = some (.int .i64 x.b) ∧ W'.cell? ⟨w.heap.size, 2, none⟩ = some (.int .i64 x.c) ∧ W'.cell? ⟨w.heap.size, 3, none⟩ = some (.int .i64 x.d) ∧ W'.cell? ⟨w.heap.size, 4, none⟩ = some (.int .i64 x.e) ∧ W'.cell? ⟨w.heap.size, 5, none⟩ = some (.int .i64 x.f) ∧ W'.cell? ⟨w.heap.size + 1, 0, none⟩ = some (.int .i64 y.a) ∧ W'.cell? ⟨w.heap.size + 1, 1, none⟩ = some (.int .i64 y.b) ∧ W'.cell? ⟨w.heap.size + 1, 2, none⟩ = some (.int .i64 y.c) ∧ W'.cell? ⟨w.heap.size + 1, 3, none⟩ = some (.int .i64 y.d) ∧ W'.cell? ⟨w.heap.size + 1, 4, none⟩ = some (.int .i64 y.e) ∧ W'.cell? ⟨w.heap.size + 1, 5, none⟩ = some (.int .i64 y.f) ∧ Env w W' (Lnr w.heap.size 1 x y p0 (x.b) p2 q0 (y.e) q2)) (first | exact cells_nr (by go_split_ands; assumption) | exact cells_nr E | exact cells_nr E.drw) ((go_at_call 44; (first | with_reducible refine (cyh _).mono ?_ | with_reducible refine (cxl _).mono ?_); rintro X w1 ⟨rfl, hb⟩; (first | have E := E.drw.on hb | have E := E.on hb); clear hb)))
          all_goals (have C := E.cells; simp [BC, CF, Lnr] at C)
          all_goals go_upto_region 13 with (go_at_call 44; (first | with_reducible refine (cxl _).mono ?_ | with_reducible refine (cyh _).mono ?_); rintro X w1 ⟨rfl, hb⟩; replace E := E.on hb; have C := E.cells; simp [BC, CF, Lnr] at C; clear hb)
          all_goals (
            go_upto_region 14 with (go_at_call 45; (with_reducible refine (rwith1 _ _ _ _ _).mono ?_); rintro X w1 ⟨rfl, hb⟩; have E1 := E.on hb; clear E hb; have C := E1.cells; simp [BC, CF, Lnr] at C)
            have E := ((E1.put 1 0 (.int .i64 p0) rfl).put 1 1 (.int .i64 (x.b)) rfl).put 1 2 (.int .i64 0) rfl
            have C := E.cells; simp [BC, CF, Lnr, setB] at C
            go_wp2_with (go_at_call 45; (with_reducible refine (rwith1 _ _ _ _ _).mono ?_); rintro X w1 ⟨rfl, hb⟩; have E2 := E.on hb; clear hb; have C := E2.cells; simp [BC, CF, Lnr, setB] at C)
            exact ⟨⟨2, rfl, by omega, ((E2.put 0 0 (.int .i64 q0) rfl).put 0 1 (.int .i64 (y.e)) rfl).put 0 2 (.int .i64 0) rfl⟩, by simp [intOf]⟩)
        · have d1 : decide (x.e < y.b) = false := by simp; omega
          have d2 : decide (y.e < x.b) = false := by simp; omega
          have ep : p1 = max x.b y.b := by rw [ep1]; unfold nr nearS; simp only [Bx.side]; rw [if_neg c1, if_neg c2]; exact mx_max _ _
          have eq : q1 = max x.b y.b := by rw [eq1]; unfold nr nearS; simp only [Bx.side]; rw [if_neg c1, if_neg c2]; exact mx_max _ _
          clear ep0 ep1 ep2 eq0 eq1 eq2
          subst ep eq
          go_upto_region 5 with fail
          (go_region_held3 (fun W' => W'.cell? ⟨w.heap.size, 0, none⟩ = some (.int .i64 x.a) ∧ W'.cell? ⟨w.heap.size, 1, none⟩ = some (.int .i64 x.b) ∧ W'.cell? ⟨w.heap.size, 2, none⟩ = some (.int .i64 x.c) ∧ W'.cell? ⟨w.heap.size, 3, none⟩ = some (.int .i64 x.d) ∧ W'.cell? ⟨w.heap.size, 4, none⟩ = some (.int .i64 x.e) ∧ W'.cell? ⟨w.heap.size, 5, none⟩ = some (.int .i64 x.f) ∧ W'.cell? ⟨w.heap.size + 1, 0, none⟩ = some (.int .i64 y.a) ∧ W'.cell? ⟨w.heap.size + 1, 1, none⟩ = some (.int .i64 y.b) ∧ W'.cell? ⟨w.heap.size + 1, 2, none⟩ = some (.int .i64 y.c) ∧ W'.cell? ⟨w.heap.size + 1, 3, none⟩ = some (.int .i64 y.d) ∧ W'.cell? ⟨w.heap.size + 1, 4, none⟩ = some (.int .i64 y.e) ∧ W'.cell? ⟨w.heap.size + 1, 5, none⟩ = some (.int .i64 y.f) ∧ Env w W' (Lnr w.heap.size 1 x y p0 (max x.b y.b) p2 q0 (max x.b y.b) q2)) (first | exact cells_nr (by go_split_ands; assumption) | exact cells_nr E | exact cells_nr E.drw) ((go_at_call 44; (first | with_reducible refine (cxl _).mono ?_ | with_reducible refine (cyl _).mono ?_); rintro X w1 ⟨rfl, hb⟩; (first | have E := E.drw.on hb | have E := E.on hb); clear hb)))
          all_goals (have C := E.cells; simp [BC, CF, Lnr] at C)
          all_goals go_upto_region 7 with fail
          all_goals (go_region_held3 (fun W' => W'.cell? ⟨w.heap.size, 0, none⟩ = some (.int .i64 x.a) ∧ W'.cell? ⟨w.heap.size, 1, none⟩ = some (.int .i64 x.b) ∧ W'.cell? ⟨w.heap.size, 2, none⟩ = some (.int .i64 x.c) ∧ W'.cell? ⟨w.heap.size, 3, none⟩ = some (.int .i64 x.d) ∧ W'.cell? ⟨w.heap.size, 4, none⟩ = some (.int .i64 x.e) ∧ W'.cell? ⟨w.heap.size, 5, none⟩ = some (.int .i64 x.f) ∧ W'.cell? ⟨w.heap.size + 1, 0, none⟩ = some (.int .i64 y.a) ∧ W'.cell? ⟨w.heap.size + 1, 1, none⟩ = some (.int .i64 y.b) ∧ W'.cell? ⟨w.heap.size + 1, 2, none⟩ = some (.int .i64 y.c) ∧ W'.cell? ⟨w.heap.size + 1, 3, none⟩ = some (.int .i64 y.d) ∧ W'.cell? ⟨w.heap.size + 1, 4, none⟩ = some (.int .i64 y.e) ∧ W'.cell? ⟨w.heap.size + 1, 5, none⟩ = some (.int .i64 y.f) ∧ Env w W' (Lnr w.heap.size 1 x y p0 (max x.b y.b) p2 q0 (max x.b y.b) q2)) (first | exact cells_nr (by go_split_ands; assumption) | exact cells_nr E | exact cells_nr E.drw) ((go_at_call 44; (first | with_reducible refine (cxh _).mono ?_ | with_reducible refine (cyl _).mono ?_); rintro X w1 ⟨rfl, hb⟩; (first | have E := E.drw.on hb | have E := E.on hb); clear hb)))
          all_goals (have C := E.cells; simp [BC, CF, Lnr] at C)
          all_goals go_upto_region 10 with (go_at_call 44; (first | with_reducible refine (cxh _).mono ?_ | with_reducible refine (cyl _).mono ?_); rintro X w1 ⟨rfl, hb⟩; replace E := E.on hb; have C := E.cells; simp [BC, CF, Lnr] at C; clear hb)
          all_goals (go_region_held3 (fun W' => W'.cell? ⟨w.heap.size, 0, none⟩ = some (.int .i64 x.a) ∧ W'.cell? ⟨w.heap.size, 1, none⟩ = some (.int .i64 x.b) ∧ W'.cell? ⟨w.heap.size, 2, none⟩ = some (.int .i64 x.c) ∧ W'.cell? ⟨w.heap.size, 3, none⟩ = some (.int .i64 x.d) ∧ W'.cell? ⟨w.heap.size, 4, none⟩ = some (.int .i64 x.e) ∧ W'.cell? ⟨w.heap.size, 5, none⟩ = some (.int .i64 x.f) ∧ W'.cell? ⟨w.heap.size + 1, 0, none⟩ = some (.int .i64 y.a) ∧ W'.cell? ⟨w.heap.size + 1, 1, none⟩ = some (.int .i64 y.b) ∧ W'.cell? ⟨w.heap.size + 1, 2, none⟩ = some (.int .i64 y.c) ∧ W'.cell? ⟨w.heap.size + 1, 3, none⟩ = some (.int .i64 y.d) ∧ W'.cell? ⟨w.heap.size + 1, 4, none⟩ = some (.int .i64 y.e) ∧ W'.cell? ⟨w.heap.size + 1, 5, none⟩ = some (.int .i64 y.f) ∧ Env w W' (Lnr w.heap.size 1 x y p0 (max x.b y.b) p2 q0 (max x.b y.b) q2)) (first | exact cells_nr (by go_split_ands; assumption) | exact cells_nr E | exact cells_nr E.drw) ((go_at_call 44; (first | with_reducible refine (cyh _).mono ?_ | with_reducible refine (cxl _).mono ?_); rintro X w1 ⟨rfl, hb⟩; (first | have E := E.drw.on hb | have E := E.on hb); clear hb)))
          all_goals (have C := E.cells; simp [BC, CF, Lnr] at C)
          all_goals go_upto_region 13 with (go_at_call 44; (first | with_reducible refine (cxl _).mono ?_ | with_reducible refine (cyh _).mono ?_); rintro X w1 ⟨rfl, hb⟩; replace E := E.on hb; have C := E.cells; simp [BC, CF, Lnr] at C; clear hb)
          all_goals (
            go_upto_region 14 with (go_at_call 45; (with_reducible refine (rwith1 _ _ _ _ _).mono ?_); rintro X w1 ⟨rfl, hb⟩; have E1 := E.on hb; clear E hb; have C := E1.cells; simp [BC, CF, Lnr] at C)
            have E := ((E1.put 1 0 (.int .i64 p0) rfl).put 1 1 (.int .i64 (max x.b y.b)) rfl).put 1 2 (.int .i64 0) rfl
            have C := E.cells; simp [BC, CF, Lnr, setB] at C
            go_wp2_with (go_at_call 45; (with_reducible refine (rwith1 _ _ _ _ _).mono ?_); rintro X w1 ⟨rfl, hb⟩; have E2 := E.on hb; clear hb; have C := E2.cells; simp [BC, CF, Lnr, setB] at C)
            exact ⟨⟨2, rfl, by omega, ((E2.put 0 0 (.int .i64 q0) rfl).put 0 1 (.int .i64 (max x.b y.b)) rfl).put 0 2 (.int .i64 0) rfl⟩, by simp [intOf]⟩)
    · have C := E.cells
      simp [BC, CF, Lnr] at C
      have cxl := fun W => rcoord2 x.a x.b x.c W
      have cxh := fun W => rcoord2 x.d x.e x.f W
      have cyl := fun W => rcoord2 y.a y.b y.c W
      have cyh := fun W => rcoord2 y.d y.e y.f W
      by_cases c1 : x.f < y.c
      · have d1 : decide (x.f < y.c) = true := by simp [c1]
        have d2 : decide (y.f < x.c) = false := by simp; omega
        have ep : p2 = x.f := by rw [ep2]; unfold nr nearS; simp only [Bx.side]; rw [if_pos c1]
        have eq : q2 = y.c := by rw [eq2]; unfold nr nearS; simp only [Bx.side]; rw [if_pos c1]
        clear ep0 ep1 ep2 eq0 eq1 eq2
        subst ep eq
        go_upto_region 5 with fail
        (go_region_held3 (fun W' => W'.cell? ⟨w.heap.size, 0, none⟩ = some (.int .i64 x.a) ∧ W'.cell? ⟨w.heap.size, 1, none⟩ = some (.int .i64 x.b) ∧ W'.cell? ⟨w.heap.size, 2, none⟩ = some (.int .i64 x.c) ∧ W'.cell? ⟨w.heap.size, 3, none⟩ = some (.int .i64 x.d) ∧ W'.cell? ⟨w.heap.size, 4, none⟩ = some (.int .i64 x.e) ∧ W'.cell? ⟨w.heap.size, 5, none⟩ = some (.int .i64 x.f) ∧ W'.cell? ⟨w.heap.size + 1, 0, none⟩ = some (.int .i64 y.a) ∧ W'.cell? ⟨w.heap.size + 1, 1, none⟩ = some (.int .i64 y.b) ∧ W'.cell? ⟨w.heap.size + 1, 2, none⟩ = some (.int .i64 y.c) ∧ W'.cell? ⟨w.heap.size + 1, 3, none⟩ = some (.int .i64 y.d) ∧ W'.cell? ⟨w.heap.size + 1, 4, none⟩ = some (.int .i64 y.e) ∧ W'.cell? ⟨w.heap.size + 1, 5, none⟩ = some (.int .i64 y.f) ∧ Env w W' (Lnr w.heap.size 2 x y p0 p1 (x.f) q0 q1 (y.c))) (first | exact cells_nr (by go_split_ands; assumption) | exact cells_nr E | exact cells_nr E.drw) ((go_at_call 44; (first | with_reducible refine (cxl _).mono ?_ | with_reducible refine (cyl _).mono ?_); rintro X w1 ⟨rfl, hb⟩; (first | have E := E.drw.on hb | have E := E.on hb); clear hb)))
        all_goals (have C := E.cells; simp [BC, CF, Lnr] at C)
        all_goals go_upto_region 7 with fail
        all_goals (go_region_held3 (fun W' => W'.cell? ⟨w.heap.size, 0, none⟩ = some (.int .i64 x.a) ∧ W'.cell? ⟨w.heap.size, 1, none⟩ = some (.int .i64 x.b) ∧ W'.cell? ⟨w.heap.size, 2, none⟩ = some (.int .i64 x.c) ∧ W'.cell? ⟨w.heap.size, 3, none⟩ = some (.int .i64 x.d) ∧ W'.cell? ⟨w.heap.size, 4, none⟩ = some (.int .i64 x.e) ∧ W'.cell? ⟨w.heap.size, 5, none⟩ = some (.int .i64 x.f) ∧ W'.cell? ⟨w.heap.size + 1, 0, none⟩ = some (.int .i64 y.a) ∧ W'.cell? ⟨w.heap.size + 1, 1, none⟩ = some (.int .i64 y.b) ∧ W'.cell? ⟨w.heap.size + 1, 2, none⟩ = some (.int .i64 y.c) ∧ W'.cell? ⟨w.heap.size + 1, 3, none⟩ = some (.int .i64 y.d) ∧ W'.cell? ⟨w.heap.size + 1, 4, none⟩ = some (.int .i64 y.e) ∧ W'.cell? ⟨w.heap.size + 1, 5, none⟩ = some (.int .i64 y.f) ∧ Env w W' (Lnr w.heap.size 2 x y p0 p1 (x.f) q0 q1 (y.c))) (first | exact cells_nr (by go_split_ands; assumption) | exact cells_nr E | exact cells_nr E.drw) ((go_at_call 44; (first | with_reducible refine (cxh _).mono ?_ | with_reducible refine (cyl _).mono ?_); rintro X w1 ⟨rfl, hb⟩; (first | have E := E.drw.on hb | have E := E.on hb); clear hb)))
        all_goals (have C := E.cells; simp [BC, CF, Lnr] at C)
        all_goals go_upto_region 10 with (go_at_call 44; (first | with_reducible refine (cxh _).mono ?_ | with_reducible refine (cyl _).mono ?_); rintro X w1 ⟨rfl, hb⟩; replace E := E.on hb; have C := E.cells; simp [BC, CF, Lnr] at C; clear hb)
        all_goals (go_region_held3 (fun W' => W'.cell? ⟨w.heap.size, 0, none⟩ = some (.int .i64 x.a) ∧ W'.cell? ⟨w.heap.size, 1, none⟩ = some (.int .i64 x.b) ∧ W'.cell? ⟨w.heap.size, 2, none⟩ = some (.int .i64 x.c) ∧ W'.cell? ⟨w.heap.size, 3, none⟩ = some (.int .i64 x.d) ∧ W'.cell? ⟨w.heap.size, 4, none⟩ = some (.int .i64 x.e) ∧ W'.cell? ⟨w.heap.size, 5, none⟩ = some (.int .i64 x.f) ∧ W'.cell? ⟨w.heap.size + 1, 0, none⟩ = some (.int .i64 y.a) ∧ W'.cell? ⟨w.heap.size + 1, 1, none⟩ = some (.int .i64 y.b) ∧ W'.cell? ⟨w.heap.size + 1, 2, none⟩ = some (.int .i64 y.c) ∧ W'.cell? ⟨w.heap.size + 1, 3, none⟩ = some (.int .i64 y.d) ∧ W'.cell? ⟨w.heap.size + 1, 4, none⟩ = some (.int .i64 y.e) ∧ W'.cell? ⟨w.heap.size + 1, 5, none⟩ = some (.int .i64 y.f) ∧ Env w W' (Lnr w.heap.size 2 x y p0 p1 (x.f) q0 q1 (y.c))) (first | exact cells_nr (by go_split_ands; assumption) | exact cells_nr E | exact cells_nr E.drw) ((go_at_call 44; (first | with_reducible refine (cyh _).mono ?_ | with_reducible refine (cxl _).mono ?_); rintro X w1 ⟨rfl, hb⟩; (first | have E := E.drw.on hb | have E := E.on hb); clear hb)))
        all_goals (have C := E.cells; simp [BC, CF, Lnr] at C)
        all_goals go_upto_region 13 with (go_at_call 44; (first | with_reducible refine (cxl _).mono ?_ | with_reducible refine (cyh _).mono ?_); rintro X w1 ⟨rfl, hb⟩; replace E := E.on hb; have C := E.cells; simp [BC, CF, Lnr] at C; clear hb)
        all_goals (
          go_upto_region 14 with (go_at_call 45; (with_reducible refine (rwith2 _ _ _ _ _).mono ?_); rintro X w1 ⟨rfl, hb⟩; have E1 := E.on hb; clear E hb; have C := E1.cells; simp [BC, CF, Lnr] at C)
          have E := ((E1.put 1 0 (.int .i64 p0) rfl).put 1 1 (.int .i64 p1) rfl).put 1 2 (.int .i64 (x.f)) rfl
          have C := E.cells; simp [BC, CF, Lnr, setB] at C
          go_wp2_with (go_at_call 45; (with_reducible refine (rwith2 _ _ _ _ _).mono ?_); rintro X w1 ⟨rfl, hb⟩; have E2 := E.on hb; clear hb; have C := E2.cells; simp [BC, CF, Lnr, setB] at C)
          exact ⟨⟨3, rfl, by omega, ((E2.put 0 0 (.int .i64 q0) rfl).put 0 1 (.int .i64 q1) rfl).put 0 2 (.int .i64 (y.c)) rfl⟩, by simp [intOf]⟩)
      · by_cases c2 : y.f < x.c
        · have d1 : decide (x.f < y.c) = false := by simp; omega
          have d2 : decide (y.f < x.c) = true := by simp [c2]
          have ep : p2 = x.c := by rw [ep2]; unfold nr nearS; simp only [Bx.side]; rw [if_neg c1, if_pos c2]
          have eq : q2 = y.f := by rw [eq2]; unfold nr nearS; simp only [Bx.side]; rw [if_neg c1, if_pos c2]
          clear ep0 ep1 ep2 eq0 eq1 eq2
          subst ep eq
          go_upto_region 5 with fail
          (go_region_held3 (fun W' => W'.cell? ⟨w.heap.size, 0, none⟩ = some (.int .i64 x.a) ∧ W'.cell? ⟨w.heap.size, 1, none⟩ = some (.int .i64 x.b) ∧ W'.cell? ⟨w.heap.size, 2, none⟩ = some (.int .i64 x.c) ∧ W'.cell? ⟨w.heap.size, 3, none⟩ = some (.int .i64 x.d) ∧ W'.cell? ⟨w.heap.size, 4, none⟩ = some (.int .i64 x.e) ∧ W'.cell? ⟨w.heap.size, 5, none⟩ = some (.int .i64 x.f) ∧ W'.cell? ⟨w.heap.size + 1, 0, none⟩ = some (.int .i64 y.a) ∧ W'.cell? ⟨w.heap.size + 1, 1, none⟩ = some (.int .i64 y.b) ∧ W'.cell? ⟨w.heap.size + 1, 2, none⟩ = some (.int .i64 y.c) ∧ W'.cell? ⟨w.heap.size + 1, 3, none⟩ = some (.int .i64 y.d) ∧ W'.cell? ⟨w.heap.size + 1, 4, none⟩ = some (.int .i64 y.e) ∧ W'.cell? ⟨w.heap.size + 1, 5, none⟩ = some (.int .i64 y.f) ∧ Env w W' (Lnr w.heap.size 2 x y p0 p1 (x.c) q0 q1 (y.f))) (first | exact cells_nr (by go_split_ands; assumption) | exact cells_nr E | exact cells_nr E.drw) ((go_at_call 44; (first | with_reducible refine (cxl _).mono ?_ | with_reducible refine (cyl _).mono ?_); rintro X w1 ⟨rfl, hb⟩; (first | have E := E.drw.on hb | have E := E.on hb); clear hb)))
          all_goals (have C := E.cells; simp [BC, CF, Lnr] at C)
          all_goals go_upto_region 7 with fail
          all_goals (go_region_held3 (fun W' => W'.cell? ⟨w.heap.size, 0, none⟩ = some (.int .i64 x.a) ∧ W'.cell? ⟨w.heap.size, 1, none⟩ = some (.int .i64 x.b) ∧ W'.cell? ⟨w.heap.size, 2, none⟩ = some (.int .i64 x.c) ∧ W'.cell? ⟨w.heap.size, 3, none⟩ = some (.int .i64 x.d) ∧ W'.cell? ⟨w.heap.size, 4, none⟩ = some (.int .i64 x.e) ∧ W'.cell? ⟨w.heap.size, 5, none⟩ = some (.int .i64 x.f) ∧ W'.cell? ⟨w.heap.size + 1, 0, none⟩ = some (.int .i64 y.a) ∧ W'.cell? ⟨w.heap.size + 1, 1, none⟩ = some (.int .i64 y.b) ∧ W'.cell? ⟨w.heap.size + 1, 2, none⟩ = some (.int .i64 y.c) ∧ W'.cell? ⟨w.heap.size + 1, 3, none⟩ = some (.int .i64 y.d) ∧ W'.cell? ⟨w.heap.size + 1, 4, none⟩ = some (.int .i64 y.e) ∧ W'.cell? ⟨w.heap.size + 1, 5, none⟩ = some (.int .i64 y.f) ∧ Env w W' (Lnr w.heap.size 2 x y p0 p1 (x.c) q0 q1 (y.f))) (first | exact cells_nr (by go_split_ands; assumption) | exact cells_nr E | exact cells_nr E.drw) ((go_at_call 44; (first | with_reducible refine (cxh _).mono ?_ | with_reducible refine (cyl _).mono ?_); rintro X w1 ⟨rfl, hb⟩; (first | have E := E.drw.on hb | have E := E.on hb); clear hb)))
          all_goals (have C := E.cells; simp [BC, CF, Lnr] at C)
          all_goals go_upto_region 10 with (go_at_call 44; (first | with_reducible refine (cxh _).mono ?_ | with_reducible refine (cyl _).mono ?_); rintro X w1 ⟨rfl, hb⟩; replace E := E.on hb; have C := E.cells; simp [BC, CF, Lnr] at C; clear hb)
          all_goals (go_region_held3 (fun W' => W'.cell? ⟨w.heap.size, 0, none⟩ = some (.int .i64 x.a) ∧ W'.cell? ⟨w.heap.size, 1, none⟩ = some (.int .i64 x.b) ∧ W'.cell? ⟨w.heap.size, 2, none⟩ = some (.int .i64 x.c) ∧ W'.cell? ⟨w.heap.size, 3, none⟩ = some (.int .i64 x.d) ∧ W'.cell? ⟨w.heap.size, 4, none⟩ = some (.int .i64 x.e) ∧ W'.cell? ⟨w.heap.size, 5, none⟩ = some (.int .i64 x.f) ∧ W'.cell? ⟨w.heap.size + 1, 0, none⟩ = some (.int .i64 y.a) ∧ W'.cell? ⟨w.heap.size + 1, 1, none⟩ = some (.int .i64 y.b) ∧ W'.cell? ⟨w.heap.size + 1, 2, none⟩ = some (.int .i64 y.c) ∧ W'.cell? ⟨w.heap.size + 1, 3, none⟩ = some (.int .i64 y.d) ∧ W'.cell? ⟨w.heap.size + 1, 4, none⟩ = some (.int .i64 y.e) ∧ W'.cell? ⟨w.heap.size + 1, 5, none⟩ = some (.int .i64 y.f) ∧ Env w W' (Lnr w.heap.size 2 x y p0 p1 (x.c) q0 q1 (y.f))) (first | exact cells_nr (by go_split_ands; assumption) | exact cells_nr E | exact cells_nr E.drw) ((go_at_call 44; (first | with_reducible refine (cyh _).mono ?_ | with_reducible refine (cxl _).mono ?_); rintro X w1 ⟨rfl, hb⟩; (first | have E := E.drw.on hb | have E := E.on hb); clear hb)))
          all_goals (have C := E.cells; simp [BC, CF, Lnr] at C)
          all_goals go_upto_region 13 with (go_at_call 44; (first | with_reducible refine (cxl _).mono ?_ | with_reducible refine (cyh _).mono ?_); rintro X w1 ⟨rfl, hb⟩; replace E := E.on hb; have C := E.cells; simp [BC, CF, Lnr] at C; clear hb)
          all_goals (
            go_upto_region 14 with (go_at_call 45; (with_reducible refine (rwith2 _ _ _ _ _).mono ?_); rintro X w1 ⟨rfl, hb⟩; have E1 := E.on hb; clear E hb; have C := E1.cells; simp [BC, CF, Lnr] at C)
            have E := ((E1.put 1 0 (.int .i64 p0) rfl).put 1 1 (.int .i64 p1) rfl).put 1 2 (.int .i64 (x.c)) rfl
            have C := E.cells; simp [BC, CF, Lnr, setB] at C
            go_wp2_with (go_at_call 45; (with_reducible refine (rwith2 _ _ _ _ _).mono ?_); rintro X w1 ⟨rfl, hb⟩; have E2 := E.on hb; clear hb; have C := E2.cells; simp [BC, CF, Lnr, setB] at C)
            exact ⟨⟨3, rfl, by omega, ((E2.put 0 0 (.int .i64 q0) rfl).put 0 1 (.int .i64 q1) rfl).put 0 2 (.int .i64 (y.f)) rfl⟩, by simp [intOf]⟩)
        · have d1 : decide (x.f < y.c) = false := by simp; omega
          have d2 : decide (y.f < x.c) = false := by simp; omega
          have ep : p2 = max x.c y.c := by rw [ep2]; unfold nr nearS; simp only [Bx.side]; rw [if_neg c1, if_neg c2]; exact mx_max _ _
          have eq : q2 = max x.c y.c := by rw [eq2]; unfold nr nearS; simp only [Bx.side]; rw [if_neg c1, if_neg c2]; exact mx_max _ _
          clear ep0 ep1 ep2 eq0 eq1 eq2
          subst ep eq
          go_upto_region 5 with fail
          (go_region_held3 (fun W' => W'.cell? ⟨w.heap.size, 0, none⟩ = some (.int .i64 x.a) ∧ W'.cell? ⟨w.heap.size, 1, none⟩ = some (.int .i64 x.b) ∧ W'.cell? ⟨w.heap.size, 2, none⟩ = some (.int .i64 x.c) ∧ W'.cell? ⟨w.heap.size, 3, none⟩ = some (.int .i64 x.d) ∧ W'.cell? ⟨w.heap.size, 4, none⟩ = some (.int .i64 x.e) ∧ W'.cell? ⟨w.heap.size, 5, none⟩ = some (.int .i64 x.f) ∧ W'.cell? ⟨w.heap.size + 1, 0, none⟩ = some (.int .i64 y.a) ∧ W'.cell? ⟨w.heap.size + 1, 1, none⟩ = some (.int .i64 y.b) ∧ W'.cell? ⟨w.heap.size + 1, 2, none⟩ = some (.int .i64 y.c) ∧ W'.cell? ⟨w.heap.size + 1, 3, none⟩ = some (.int .i64 y.d) ∧ W'.cell? ⟨w.heap.size + 1, 4, none⟩ = some (.int .i64 y.e) ∧ W'.cell? ⟨w.heap.size + 1, 5, none⟩ = some (.int .i64 y.f) ∧ Env w W' (Lnr w.heap.size 2 x y p0 p1 (max x.c y.c) q0 q1 (max x.c y.c))) (first | exact cells_nr (by go_split_ands; assumption) | exact cells_nr E | exact cells_nr E.drw) ((go_at_call 44; (first | with_reducible refine (cxl _).mono ?_ | with_reducible refine (cyl _).mono ?_); rintro X w1 ⟨rfl, hb⟩; (first | have E := E.drw.on hb | have E := E.on hb); clear hb)))
          all_goals (have C := E.cells; simp [BC, CF, Lnr] at C)
          all_goals go_upto_region 7 with fail
          all_goals (go_region_held3 (fun W' => W'.cell? ⟨w.heap.size, 0, none⟩ = some (.int .i64 x.a) ∧ W'.cell? ⟨w.heap.size, 1, none⟩ = some (.int .i64 x.b) ∧ W'.cell? ⟨w.heap.size, 2, none⟩ = some (.int .i64 x.c) ∧ W'.cell? ⟨w.heap.size, 3, none⟩ = some (.int .i64 x.d) ∧ W'.cell? ⟨w.heap.size, 4, none⟩ = some (.int .i64 x.e) ∧ W'.cell? ⟨w.heap.size, 5, none⟩ = some (.int .i64 x.f) ∧ W'.cell? ⟨w.heap.size + 1, 0, none⟩ = some (.int .i64 y.a) ∧ W'.cell? ⟨w.heap.size + 1, 1, none⟩ = some (.int .i64 y.b) ∧ W'.cell? ⟨w.heap.size + 1, 2, none⟩ = some (.int .i64 y.c) ∧ W'.cell? ⟨w.heap.size + 1, 3, none⟩ = some (.int .i64 y.d) ∧ W'.cell? ⟨w.heap.size + 1, 4, none⟩ = some (.int .i64 y.e) ∧ W'.cell? ⟨w.heap.size + 1, 5, none⟩ = some (.int .i64 y.f) ∧ Env w W' (Lnr w.heap.size 2 x y p0 p1 (max x.c y.c) q0 q1 (max x.c y.c))) (first | exact cells_nr (by go_split_ands; assumption) | exact cells_nr E | exact cells_nr E.drw) ((go_at_call 44; (first | with_reducible refine (cxh _).mono ?_ | with_reducible refine (cyl _).mono ?_); rintro X w1 ⟨rfl, hb⟩; (first | have E := E.drw.on hb | have E := E.on hb); clear hb)))
          all_goals (have C := E.cells; simp [BC, CF, Lnr] at C)
          all_goals go_upto_region 10 with (go_at_call 44; (first | with_reducible refine (cxh _).mono ?_ | with_reducible refine (cyl _).mono ?_); rintro X w1 ⟨rfl, hb⟩; replace E := E.on hb; have C := E.cells; simp [BC, CF, Lnr] at C; clear hb)
          all_goals (go_region_held3 (fun W' => W'.cell? ⟨w.heap.size, 0, none⟩ = some (.int .i64 x.a) ∧ W'.cell? ⟨w.heap.size, 1, none⟩ = some (.int .i64 x.b) ∧ W'.cell? ⟨w.heap.size, 2, none⟩ = some (.int .i64 x.c) ∧ W'.cell? ⟨w.heap.size, 3, none⟩ = some (.int .i64 x.d) ∧ W'.cell? ⟨w.heap.size, 4, none⟩ = some (.int .i64 x.e) ∧ W'.cell? ⟨w.heap.size, 5, none⟩ = some (.int .i64 x.f) ∧ W'.cell? ⟨w.heap.size + 1, 0, none⟩ = some (.int .i64 y.a) ∧ W'.cell? ⟨w.heap.size + 1, 1, none⟩ = some (.int .i64 y.b) ∧ W'.cell? ⟨w.heap.size + 1, 2, none⟩ = some (.int .i64 y.c) ∧ W'.cell? ⟨w.heap.size + 1, 3, none⟩ = some (.int .i64 y.d) ∧ W'.cell? ⟨w.heap.size + 1, 4, none⟩ = some (.int .i64 y.e) ∧ W'.cell? ⟨w.heap.size + 1, 5, none⟩ = some (.int .i64 y.f) ∧ Env w W' (Lnr w.heap.size 2 x y p0 p1 (max x.c y.c) q0 q1 (max x.c y.c))) (first | exact cells_nr (by go_split_ands; assumption) | exact cells_nr E | exact cells_nr E.drw) ((go_at_call 44; (first | with_reducible refine (cyh _).mono ?_ | with_reducible refine (cxl _).mono ?_); rintro X w1 ⟨rfl, hb⟩; (first | have E := E.drw.on hb | have E := E.on hb); clear hb)))
          all_goals (have C := E.cells; simp [BC, CF, Lnr] at C)
          all_goals go_upto_region 13 with (go_at_call 44; (first | with_reducible refine (cxl _).mono ?_ | with_reducible refine (cyh _).mono ?_); rintro X w1 ⟨rfl, hb⟩; replace E := E.on hb; have C := E.cells; simp [BC, CF, Lnr] at C; clear hb)
          all_goals (
            go_upto_region 14 with (go_at_call 45; (with_reducible refine (rwith2 _ _ _ _ _).mono ?_); rintro X w1 ⟨rfl, hb⟩; have E1 := E.on hb; clear E hb; have C := E1.cells; simp [BC, CF, Lnr] at C)
            have E := ((E1.put 1 0 (.int .i64 p0) rfl).put 1 1 (.int .i64 p1) rfl).put 1 2 (.int .i64 (max x.c y.c)) rfl
            have C := E.cells; simp [BC, CF, Lnr, setB] at C
            go_wp2_with (go_at_call 45; (with_reducible refine (rwith2 _ _ _ _ _).mono ?_); rintro X w1 ⟨rfl, hb⟩; have E2 := E.on hb; clear hb; have C := E2.cells; simp [BC, CF, Lnr, setB] at C)
            exact ⟨⟨3, rfl, by omega, ((E2.put 0 0 (.int .i64 q0) rfl).put 0 1 (.int .i64 q1) rfl).put 0 2 (.int .i64 (max x.c y.c)) rfl⟩, by simp [intOf]⟩)
    · clear ep0 ep1 ep2 eq0 eq1 eq2
      have C := E.cells
      simp [BC, CF, Lnr] at C
      go_wp2
      go_region_law (fail)
      all_goals go_wp2
      all_goals refine bodyPost_ret (v := .tuple #[.agg #[.int .i64 p0, .int .i64 p1, .int .i64 p2], .agg #[.int .i64 q0, .int .i64 q1, .int .i64 q2]]) (by simp [results, Try.results15, go_sem, C]) rfl ⟨rfl, ?_⟩
      all_goals (try refine Below.drew ?_)
      all_goals exact ((((((E.1.setCell (by dsimp only; omega) _).setCell (by dsimp only; omega) _).setCell (by dsimp only; omega) _).setCell (by dsimp only; omega) _).setCell (by dsimp only; omega) _).setCell (by dsimp only; omega) _)
end Go.Proofs.Ytffigpkkdljaiaa
