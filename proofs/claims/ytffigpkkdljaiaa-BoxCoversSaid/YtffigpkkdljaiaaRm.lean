/- The reference: Meet. -/
import Derived.Test.YtffigpkkdljaiaaRn
import Derived.Test.YtffigpkkdljaiaaLm0
namespace Go.Proofs.Ytffigpkkdljaiaa
open Go.ChangeShapes Go.WideShapes Go.ChangeAt Go.RowKit
set_option linter.unusedVariables false
set_option linter.unusedSimpArgs false

def Lmt (n i : Nat) (x y : Bx) (l0 l1 l2 h0 h1 h2 : Int) : List Fb := [⟨n + 1 + 1 + 1, 25, #[.int .i64 (if 0 < i then l0 else 0), .int .i64 (if 1 < i then l1 else 0), .int .i64 (if 2 < i then l2 else 0), .int .i64 (if 0 < i then h0 else 0), .int .i64 (if 1 < i then h1 else 0), .int .i64 (if 2 < i then h2 else 0)]⟩, ⟨n + 1 + 1, 25, #[.int .i64 0, .int .i64 0, .int .i64 0, .int .i64 0, .int .i64 0, .int .i64 0]⟩, ⟨n + 1, 25, #[.int .i64 y.a, .int .i64 y.b, .int .i64 y.c, .int .i64 y.d, .int .i64 y.e, .int .i64 y.f]⟩, ⟨n, 25, #[.int .i64 x.a, .int .i64 x.b, .int .i64 x.c, .int .i64 x.d, .int .i64 x.e, .int .i64 x.f]⟩]
theorem cells_mt {x y : Bx} {w W' : World} {i : Nat} {l0 l1 l2 h0 h1 h2 : Int} (h : Env w W' (Lmt w.heap.size i x y l0 l1 l2 h0 h1 h2)) : W'.cell? ⟨w.heap.size, 0, none⟩ = some (.int .i64 x.a) ∧ W'.cell? ⟨w.heap.size, 1, none⟩ = some (.int .i64 x.b) ∧ W'.cell? ⟨w.heap.size, 2, none⟩ = some (.int .i64 x.c) ∧ W'.cell? ⟨w.heap.size, 3, none⟩ = some (.int .i64 x.d) ∧ W'.cell? ⟨w.heap.size, 4, none⟩ = some (.int .i64 x.e) ∧ W'.cell? ⟨w.heap.size, 5, none⟩ = some (.int .i64 x.f) ∧ W'.cell? ⟨w.heap.size + 1, 0, none⟩ = some (.int .i64 y.a) ∧ W'.cell? ⟨w.heap.size + 1, 1, none⟩ = some (.int .i64 y.b) ∧ W'.cell? ⟨w.heap.size + 1, 2, none⟩ = some (.int .i64 y.c) ∧ W'.cell? ⟨w.heap.size + 1, 3, none⟩ = some (.int .i64 y.d) ∧ W'.cell? ⟨w.heap.size + 1, 4, none⟩ = some (.int .i64 y.e) ∧ W'.cell? ⟨w.heap.size + 1, 5, none⟩ = some (.int .i64 y.f) ∧ Env w W' (Lmt w.heap.size i x y l0 l1 l2 h0 h1 h2) := by
  have C := h.cells
  simp [BC, CF, Lmt] at C
  simp [C, h]
set_option maxHeartbeats 32000000 in
set_option maxRecDepth 100000 in
theorem rmeet_core (x y : Bx) (l0 l1 l2 h0 h1 h2 : Int) (w : World) (r : Value) (HR : Hid (r = if l0 ≤ h0 ∧ l1 ≤ h1 ∧ l2 ≤ h2 then .tuple #[.agg #[.int .i64 l0, .int .i64 l1, .int .i64 l2, .int .i64 h0, .int .i64 h1, .int .i64 h2], .bool true] else .tuple #[.agg #[.int .i64 0, .int .i64 0, .int .i64 0, .int .i64 0, .int .i64 0, .int .i64 0], .bool false])) (EL0 : Hid (max x.a y.a = l0)) (EL1 : Hid (max x.b y.b = l1)) (EL2 : Hid (max x.c y.c = l2)) (EH0 : Hid (min x.d y.d = h0)) (EH1 : Hid (min x.e y.e = h1)) (EH2 : Hid (min x.f y.f = h2)) :
    Calls Try.prog 30 #[x.val, y.val] w fun E w' => E = .returned r ∧ Below w.heap.size w w' := by
  have E := ((((Env.nil w).add w.heap.size 25 #[.int .i64 x.a, .int .i64 x.b, .int .i64 x.c, .int .i64 x.d, .int .i64 x.e, .int .i64 x.f] rfl).add (w.heap.size + 1) 25 #[.int .i64 y.a, .int .i64 y.b, .int .i64 y.c, .int .i64 y.d, .int .i64 y.e, .int .i64 y.f] (by simp)).add (w.heap.size + 1 + 1) 25 #[.int .i64 0, .int .i64 0, .int .i64 0, .int .i64 0, .int .i64 0, .int .i64 0] (by simp)).add (w.heap.size + 1 + 1 + 1) 25 #[.int .i64 0, .int .i64 0, .int .i64 0, .int .i64 0, .int .i64 0, .int .i64 0] (by simp)
  unfold Bx.val
  go_enter Try.func30, Try.ntmps30
  go_wp2_with fail
  go_loopw [7] (fun v wr => ∃ i : Nat, v = .int .i64 (i : Int) ∧ i ≤ 3 ∧ Hid ((0 < i → l0 ≤ h0) ∧ (1 < i → l1 ≤ h1) ∧ (2 < i → l2 ≤ h2)) ∧ Env w wr (Lmt w.heap.size i x y l0 l1 l2 h0 h1 h2)) (fun v _ => 3 - (intOf v).toNat)
  case atStart => exact ⟨0, rfl, by omega, Lib.hid ⟨fun h => absurd h (by omega), fun h => absurd h (by omega), fun h => absurd h (by omega)⟩, E⟩
  case round =>
    clear E
    obtain ⟨i, rfl, hi, HI, E⟩ := hrel
    rcases (by omega : i = 0 ∨ i = 1 ∨ i = 2 ∨ i = 3) with rfl | rfl | rfl | rfl
    · have C := E.cells
      simp [BC, CF, Lmt] at C
      have cxl := fun W => rcoord0 x.a x.b x.c W
      have cxh := fun W => rcoord0 x.d x.e x.f W
      have cyl := fun W => rcoord0 y.a y.b y.c W
      have cyh := fun W => rcoord0 y.d y.e y.f W
      have G1 := EL0.out
      have G2 := EH0.out
      by_cases c : l0 ≤ h0
      · have d1 : decide (h0 < l0) = false := by simp; omega
        have HC := Lib.hid c
        clear c
        go_upto_region 5 with fail
        (go_region_held3 (fun W' => W'.cell? ⟨w.heap.size, 0, none⟩ = some (.int .i64 x.a) ∧ W'.cell? ⟨w.heap.size, 1, none⟩ = some (.int .i64 x.b) ∧ W'.cell? ⟨w.heap.size, 2, none⟩ = some (.int .i64 x.c) ∧ W'.cell? ⟨w.heap.size, 3, none⟩ = some (.int .i64 x.d) ∧ W'.cell? ⟨w.heap.size, 4, none⟩ = some (.int .i64 x.e) ∧ W'.cell? ⟨w.heap.size, 5, none⟩ = some (.int .i64 x.f) ∧ W'.cell? ⟨w.heap.size + 1, 0, none⟩ = some (.int .i64 y.a) ∧ W'.cell? ⟨w.heap.size + 1, 1, none⟩ = some (.int .i64 y.b) ∧ W'.cell? ⟨w.heap.size + 1, 2, none⟩ = some (.int .i64 y.c) ∧ W'.cell? ⟨w.heap.size + 1, 3, none⟩ = some (.int .i64 y.d) ∧ W'.cell? ⟨w.heap.size + 1, 4, none⟩ = some (.int .i64 y.e) ∧ W'.cell? ⟨w.heap.size + 1, 5, none⟩ = some (.int .i64 y.f) ∧ Env w W' (Lmt w.heap.size 0 x y l0 l1 l2 h0 h1 h2)) (first | exact cells_mt (by go_split_ands; assumption) | exact cells_mt E | exact cells_mt E.drw) ((go_at_call 44; (first | with_reducible refine (cxl _).mono ?_ | with_reducible refine (cyl _).mono ?_ | with_reducible refine (cxh _).mono ?_ | with_reducible refine (cyh _).mono ?_); rintro X w1 ⟨rfl, hb⟩; (first | have E := E.drw.on hb | have E := E.on hb); clear hb)))
        all_goals (have C := E.cells; simp [BC, CF, Lmt] at C)
        all_goals (
          go_upto_region 9 with (go_at_call 45; (with_reducible refine (rwith0 _ _ _ _ _).mono ?_); rintro X w1 ⟨rfl, hb⟩; have E1 := E.on hb; clear E hb; have C := E1.cells; simp [BC, CF, Lmt] at C)
          have E := ((E1.put 0 0 (.int .i64 l0) rfl).put 0 1 (.int .i64 0) rfl).put 0 2 (.int .i64 0) rfl
          have C := E.cells; simp [BC, CF, Lmt, setB] at C
          go_wp2_with (go_at_call 45; (with_reducible refine (rwith0 _ _ _ _ _).mono ?_); rintro X w1 ⟨rfl, hb⟩; have E2 := E.on hb; clear hb; have C := E2.cells; simp [BC, CF, Lmt, setB] at C)
          exact ⟨⟨1, rfl, by omega, Lib.hid ⟨fun _ => HC.out, fun h => absurd h (by omega), fun h => absurd h (by omega)⟩, ((E2.put 0 3 (.int .i64 h0) rfl).put 0 4 (.int .i64 0) rfl).put 0 5 (.int .i64 0) rfl⟩, by simp [intOf]⟩)
      · have d1 : decide (h0 < l0) = true := by simp; omega
        have HC : Hid (¬ (l0 ≤ h0 ∧ l1 ≤ h1 ∧ l2 ≤ h2)) := Lib.hid (by omega)
        clear c
        go_upto_region 5 with fail
        (go_region_held3 (fun W' => W'.cell? ⟨w.heap.size, 0, none⟩ = some (.int .i64 x.a) ∧ W'.cell? ⟨w.heap.size, 1, none⟩ = some (.int .i64 x.b) ∧ W'.cell? ⟨w.heap.size, 2, none⟩ = some (.int .i64 x.c) ∧ W'.cell? ⟨w.heap.size, 3, none⟩ = some (.int .i64 x.d) ∧ W'.cell? ⟨w.heap.size, 4, none⟩ = some (.int .i64 x.e) ∧ W'.cell? ⟨w.heap.size, 5, none⟩ = some (.int .i64 x.f) ∧ W'.cell? ⟨w.heap.size + 1, 0, none⟩ = some (.int .i64 y.a) ∧ W'.cell? ⟨w.heap.size + 1, 1, none⟩ = some (.int .i64 y.b) ∧ W'.cell? ⟨w.heap.size + 1, 2, none⟩ = some (.int .i64 y.c) ∧ W'.cell? ⟨w.heap.size + 1, 3, none⟩ = some (.int .i64 y.d) ∧ W'.cell? ⟨w.heap.size + 1, 4, none⟩ = some (.int .i64 y.e) ∧ W'.cell? ⟨w.heap.size + 1, 5, none⟩ = some (.int .i64 y.f) ∧ Env w W' (Lmt w.heap.size 0 x y l0 l1 l2 h0 h1 h2)) (first | exact cells_mt (by go_split_ands; assumption) | exact cells_mt E | exact cells_mt E.drw) ((go_at_call 44; (first | with_reducible refine (cxl _).mono ?_ | with_reducible refine (cyl _).mono ?_ | with_reducible refine (cxh _).mono ?_ | with_reducible refine (cyh _).mono ?_); rintro X w1 ⟨rfl, hb⟩; (first | have E := E.drw.on hb | have E := E.on hb); clear hb)))
        all_goals (have C := E.cells; simp [BC, CF, Lmt] at C)
        all_goals (
          go_wp2
          refine bodyPost_ret (v := .tuple #[.agg #[.int .i64 0, .int .i64 0, .int .i64 0, .int .i64 0, .int .i64 0, .int .i64 0], .bool false]) (by simp [results, Try.results30, go_sem, C]) rfl ⟨by rw [HR.out, if_neg HC.out], ?_⟩
          exact ((((((E.1.setCell (by dsimp only; omega) _).setCell (by dsimp only; omega) _).setCell (by dsimp only; omega) _).setCell (by dsimp only; omega) _).setCell (by dsimp only; omega) _).setCell (by dsimp only; omega) _))
    · have C := E.cells
      simp [BC, CF, Lmt] at C
      have cxl := fun W => rcoord1 x.a x.b x.c W
      have cxh := fun W => rcoord1 x.d x.e x.f W
      have cyl := fun W => rcoord1 y.a y.b y.c W
      have cyh := fun W => rcoord1 y.d y.e y.f W
      have G1 := EL1.out
      have G2 := EH1.out
      by_cases c : l1 ≤ h1
      · have d1 : decide (h1 < l1) = false := by simp; omega
        have HC := Lib.hid c
        clear c
        go_upto_region 5 with fail
        (go_region_held3 (fun W' => W'.cell? ⟨w.heap.size, 0, none⟩ = some (.int .i64 x.a) ∧ W'.cell? ⟨w.heap.size, 1, none⟩ = some (.int .i64 x.b) ∧ W'.cell? ⟨w.heap.size, 2, none⟩ = some (.int .i64 x.c) ∧ W'.cell? ⟨w.heap.size, 3, none⟩ = some (.int .i64 x.d) ∧ W'.cell? ⟨w.heap.size, 4, none⟩ = some (.int .i64 x.e) ∧ W'.cell? ⟨w.heap.size, 5, none⟩ = some (.int .i64 x.f) ∧ W'.cell? ⟨w.heap.size + 1, 0, none⟩ = some (.int .i64 y.a) ∧ W'.cell? ⟨w.heap.size + 1, 1, none⟩ = some (.int .i64 y.b) ∧ W'.cell? ⟨w.heap.size + 1, 2, none⟩ = some (.int .i64 y.c) ∧ W'.cell? ⟨w.heap.size + 1, 3, none⟩ = some (.int .i64 y.d) ∧ W'.cell? ⟨w.heap.size + 1, 4, none⟩ = some (.int .i64 y.e) ∧ W'.cell? ⟨w.heap.size + 1, 5, none⟩ = some (.int .i64 y.f) ∧ Env w W' (Lmt w.heap.size 1 x y l0 l1 l2 h0 h1 h2)) (first | exact cells_mt (by go_split_ands; assumption) | exact cells_mt E | exact cells_mt E.drw) ((go_at_call 44; (first | with_reducible refine (cxl _).mono ?_ | with_reducible refine (cyl _).mono ?_ | with_reducible refine (cxh _).mono ?_ | with_reducible refine (cyh _).mono ?_); rintro X w1 ⟨rfl, hb⟩; (first | have E := E.drw.on hb | have E := E.on hb); clear hb)))
        all_goals (have C := E.cells; simp [BC, CF, Lmt] at C)
        all_goals (
          go_upto_region 9 with (go_at_call 45; (with_reducible refine (rwith1 _ _ _ _ _).mono ?_); rintro X w1 ⟨rfl, hb⟩; have E1 := E.on hb; clear E hb; have C := E1.cells; simp [BC, CF, Lmt] at C)
          have E := ((E1.put 0 0 (.int .i64 l0) rfl).put 0 1 (.int .i64 l1) rfl).put 0 2 (.int .i64 0) rfl
          have C := E.cells; simp [BC, CF, Lmt, setB] at C
          go_wp2_with (go_at_call 45; (with_reducible refine (rwith1 _ _ _ _ _).mono ?_); rintro X w1 ⟨rfl, hb⟩; have E2 := E.on hb; clear hb; have C := E2.cells; simp [BC, CF, Lmt, setB] at C)
          exact ⟨⟨2, rfl, by omega, Lib.hid ⟨fun _ => HI.out.1 (by omega), fun _ => HC.out, fun h => absurd h (by omega)⟩, ((E2.put 0 3 (.int .i64 h0) rfl).put 0 4 (.int .i64 h1) rfl).put 0 5 (.int .i64 0) rfl⟩, by simp [intOf]⟩)
      · have d1 : decide (h1 < l1) = true := by simp; omega
        have HC : Hid (¬ (l0 ≤ h0 ∧ l1 ≤ h1 ∧ l2 ≤ h2)) := Lib.hid (by omega)
        clear c
        go_upto_region 5 with fail
        (go_region_held3 (fun W' => W'.cell? ⟨w.heap.size, 0, none⟩ = some (.int .i64 x.a) ∧ W'.cell? ⟨w.heap.size, 1, none⟩ = some (.int .i64 x.b) ∧ W'.cell? ⟨w.heap.size, 2, none⟩ = some (.int .i64 x.c) ∧ W'.cell? ⟨w.heap.size, 3, none⟩ = some (.int .i64 x.d) ∧ W'.cell? ⟨w.heap.size, 4, none⟩ = some (.int .i64 x.e) ∧ W'.cell? ⟨w.heap.size, 5, none⟩ = some (.int .i64 x.f) ∧ W'.cell? ⟨w.heap.size + 1, 0, none⟩ = some (.int .i64 y.a) ∧ W'.cell? ⟨w.heap.size + 1, 1, none⟩ = some (.int .i64 y.b) ∧ W'.cell? ⟨w.heap.size + 1, 2, none⟩ = some (.int .i64 y.c) ∧ W'.cell? ⟨w.heap.size + 1, 3, none⟩ = some (.int .i64 y.d) ∧ W'.cell? ⟨w.heap.size + 1, 4, none⟩ = some (.int .i64 y.e) ∧ W'.cell? ⟨w.heap.size + 1, 5, none⟩ = some (.int .i64 y.f) ∧ Env w W' (Lmt w.heap.size 1 x y l0 l1 l2 h0 h1 h2)) (first | exact cells_mt (by go_split_ands; assumption) | exact cells_mt E | exact cells_mt E.drw) ((go_at_call 44; (first | with_reducible refine (cxl _).mono ?_ | with_reducible refine (cyl _).mono ?_ | with_reducible refine (cxh _).mono ?_ | with_reducible refine (cyh _).mono ?_); rintro X w1 ⟨rfl, hb⟩; (first | have E := E.drw.on hb | have E := E.on hb); clear hb)))
        all_goals (have C := E.cells; simp [BC, CF, Lmt] at C)
        all_goals (
          go_wp2
          refine bodyPost_ret (v := .tuple #[.agg #[.int .i64 0, .int .i64 0, .int .i64 0, .int .i64 0, .int .i64 0, .int .i64 0], .bool false]) (by simp [results, Try.results30, go_sem, C]) rfl ⟨by rw [HR.out, if_neg HC.out], ?_⟩
          exact ((((((E.1.setCell (by dsimp only; omega) _).setCell (by dsimp only; omega) _).setCell (by dsimp only; omega) _).setCell (by dsimp only; omega) _).setCell (by dsimp only; omega) _).setCell (by dsimp only; omega) _))
    · have C := E.cells
      simp [BC, CF, Lmt] at C
      have cxl := fun W => rcoord2 x.a x.b x.c W
      have cxh := fun W => rcoord2 x.d x.e x.f W
      have cyl := fun W => rcoord2 y.a y.b y.c W
      have cyh := fun W => rcoord2 y.d y.e y.f W
      have G1 := EL2.out
      have G2 := EH2.out
      by_cases c : l2 ≤ h2
      · have d1 : decide (h2 < l2) = false := by simp; omega
        have HC := Lib.hid c
        clear c
        go_upto_region 5 with fail
        (go_region_held3 (fun W' => W'.cell? ⟨w.heap.size, 0, none⟩ = some (.int .i64 x.a) ∧ W'.cell? ⟨w.heap.size, 1, none⟩ = some (.int .i64 x.b) ∧ W'.cell? ⟨w.heap.size, 2, none⟩ = some (.int .i64 x.c) ∧ W'.cell? ⟨w.heap.size, 3, none⟩ = some (.int .i64 x.d) ∧ W'.cell? ⟨w.heap.size, 4, none⟩ = some (.int .i64 x.e) ∧ W'.cell? ⟨w.heap.size, 5, none⟩ = some (.int .i64 x.f) ∧ W'.cell? ⟨w.heap.size + 1, 0, none⟩ = some (.int .i64 y.a) ∧ W'.cell? ⟨w.heap.size + 1, 1, none⟩ = some (.int .i64 y.b) ∧ W'.cell? ⟨w.heap.size + 1, 2, none⟩ = some (.int .i64 y.c) ∧ W'.cell? ⟨w.heap.size + 1, 3, none⟩ = some (.int .i64 y.d) ∧ W'.cell? ⟨w.heap.size + 1, 4, none⟩ = some (.int .i64 y.e) ∧ W'.cell? ⟨w.heap.size + 1, 5, none⟩ = some (.int .i64 y.f) ∧ Env w W' (Lmt w.heap.size 2 x y l0 l1 l2 h0 h1 h2)) (first | exact cells_mt (by go_split_ands; assumption) | exact cells_mt E | exact cells_mt E.drw) ((go_at_call 44; (first | with_reducible refine (cxl _).mono ?_ | with_reducible refine (cyl _).mono ?_ | with_reducible refine (cxh _).mono ?_ | with_reducible refine (cyh _).mono ?_); rintro X w1 ⟨rfl, hb⟩; (first | have E := E.drw.on hb | have E := E.on hb); clear hb)))
        all_goals (have C := E.cells; simp [BC, CF, Lmt] at C)
        all_goals (
          go_upto_region 9 with (go_at_call 45; (with_reducible refine (rwith2 _ _ _ _ _).mono ?_); rintro X w1 ⟨rfl, hb⟩; have E1 := E.on hb; clear E hb; have C := E1.cells; simp [BC, CF, Lmt] at C)
          have E := ((E1.put 0 0 (.int .i64 l0) rfl).put 0 1 (.int .i64 l1) rfl).put 0 2 (.int .i64 l2) rfl
          have C := E.cells; simp [BC, CF, Lmt, setB] at C
          go_wp2_with (go_at_call 45; (with_reducible refine (rwith2 _ _ _ _ _).mono ?_); rintro X w1 ⟨rfl, hb⟩; have E2 := E.on hb; clear hb; have C := E2.cells; simp [BC, CF, Lmt, setB] at C)
          exact ⟨⟨3, rfl, by omega, Lib.hid ⟨fun _ => HI.out.1 (by omega), fun _ => HI.out.2.1 (by omega), fun _ => HC.out⟩, ((E2.put 0 3 (.int .i64 h0) rfl).put 0 4 (.int .i64 h1) rfl).put 0 5 (.int .i64 h2) rfl⟩, by simp [intOf]⟩)
      · have d1 : decide (h2 < l2) = true := by simp; omega
        have HC : Hid (¬ (l0 ≤ h0 ∧ l1 ≤ h1 ∧ l2 ≤ h2)) := Lib.hid (by omega)
        clear c
        go_upto_region 5 with fail
        (go_region_held3 (fun W' => W'.cell? ⟨w.heap.size, 0, none⟩ = some (.int .i64 x.a) ∧ W'.cell? ⟨w.heap.size, 1, none⟩ = some (.int .i64 x.b) ∧ W'.cell? ⟨w.heap.size, 2, none⟩ = some (.int .i64 x.c) ∧ W'.cell? ⟨w.heap.size, 3, none⟩ = some (.int .i64 x.d) ∧ W'.cell? ⟨w.heap.size, 4, none⟩ = some (.int .i64 x.e) ∧ W'.cell? ⟨w.heap.size, 5, none⟩ = some (.int .i64 x.f) ∧ W'.cell? ⟨w.heap.size + 1, 0, none⟩ = some (.int .i64 y.a) ∧ W'.cell? ⟨w.heap.size + 1, 1, none⟩ = some (.int .i64 y.b) ∧ W'.cell? ⟨w.heap.size + 1, 2, none⟩ = some (.int .i64 y.c) ∧ W'.cell? ⟨w.heap.size + 1, 3, none⟩ = some (.int .i64 y.d) ∧ W'.cell? ⟨w.heap.size + 1, 4, none⟩ = some (.int .i64 y.e) ∧ W'.cell? ⟨w.heap.size + 1, 5, none⟩ = some (.int .i64 y.f) ∧ Env w W' (Lmt w.heap.size 2 x y l0 l1 l2 h0 h1 h2)) (first | exact cells_mt (by go_split_ands; assumption) | exact cells_mt E | exact cells_mt E.drw) ((go_at_call 44; (first | with_reducible refine (cxl _).mono ?_ | with_reducible refine (cyl _).mono ?_ | with_reducible refine (cxh _).mono ?_ | with_reducible refine (cyh _).mono ?_); rintro X w1 ⟨rfl, hb⟩; (first | have E := E.drw.on hb | have E := E.on hb); clear hb)))
        all_goals (have C := E.cells; simp [BC, CF, Lmt] at C)
        all_goals (
          go_wp2
          refine bodyPost_ret (v := .tuple #[.agg #[.int .i64 0, .int .i64 0, .int .i64 0, .int .i64 0, .int .i64 0, .int .i64 0], .bool false]) (by simp [results, Try.results30, go_sem, C]) rfl ⟨by rw [HR.out, if_neg HC.out], ?_⟩
          exact ((((((E.1.setCell (by dsimp only; omega) _).setCell (by dsimp only; omega) _).setCell (by dsimp only; omega) _).setCell (by dsimp only; omega) _).setCell (by dsimp only; omega) _).setCell (by dsimp only; omega) _))
    · have C := E.cells
      simp [BC, CF, Lmt] at C
      have HC : Hid (l0 ≤ h0 ∧ l1 ≤ h1 ∧ l2 ≤ h2) := Lib.hid ⟨HI.out.1 (by omega), HI.out.2.1 (by omega), HI.out.2.2 (by omega)⟩
      go_wp2
      refine bodyPost_ret (v := .tuple #[.agg #[.int .i64 l0, .int .i64 l1, .int .i64 l2, .int .i64 h0, .int .i64 h1, .int .i64 h2], .bool true]) (by simp [results, Try.results30, go_sem, C]) rfl ⟨by rw [HR.out, if_pos HC.out], ?_⟩
      exact ((((((E.1.setCell (by dsimp only; omega) _).setCell (by dsimp only; omega) _).setCell (by dsimp only; omega) _).setCell (by dsimp only; omega) _).setCell (by dsimp only; omega) _).setCell (by dsimp only; omega) _)
theorem meet_ok_iff {x y : Bx} (hx : x.ok = true) (hy : y.ok = true) : (meetB x y).ok = true ↔ (max x.a y.a ≤ min x.d y.d ∧ max x.b y.b ≤ min x.e y.e ∧ max x.c y.c ≤ min x.f y.f) := by
  have h1 := Bx.ok_i.1 hx
  have h2 := Bx.ok_i.1 hy
  rw [Bx.ok_i]
  simp only [meetB, mx_mx, mn_mn]
  omega
theorem rmeet_any (x y : Bx) (w : World) (hx : x.ok = true) (hy : y.ok = true) :
    Calls Try.prog 30 #[x.val, y.val] w fun E w' => E = .returned (if (meetB x y).ok = true then .tuple #[(meetB x y).val, .bool true] else .tuple #[zB.val, .bool false]) ∧ Below w.heap.size w w' := by
  refine (rmeet_core x y _ _ _ _ _ _ w _ (Lib.hid rfl) (Lib.hid rfl) (Lib.hid rfl) (Lib.hid rfl) (Lib.hid rfl) (Lib.hid rfl) (Lib.hid rfl)).mono ?_
  rintro e w' ⟨rfl, hb⟩
  refine ⟨?_, hb⟩
  by_cases h : (meetB x y).ok = true
  · rw [if_pos h, if_pos ((meet_ok_iff hx hy).1 h)]
    simp only [meetB, mx_mx, mn_mn, Bx.val]
  · rw [if_neg h, if_neg (fun k => h ((meet_ok_iff hx hy).2 k))]
    rfl
end Go.Proofs.Ytffigpkkdljaiaa
