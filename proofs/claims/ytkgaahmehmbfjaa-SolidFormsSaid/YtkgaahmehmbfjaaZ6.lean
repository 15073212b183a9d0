/- Gap, Square, Nearest, Contains, in terms of boxes; cube. awake: the example of the chapter. Meet, in terms of boxes; Grown. Hull. What boxes have in common: pure; the hull of two. What covers says: each point of the box lies in one of the boxes (pure). A point within a box, squared distances, a point as a box. Squared distances of points, a point as a box. -/
import Derived.Test.YtkgaahmehmbfjaaZ3
import Derived.Test.YtkgaahmehmbfjaaZ4
import Derived.Test.YtkgaahmehmbfjaaZ5
import Derived.Test.YtkgaahmehmbfjaaZ2
namespace Go.Proofs.Ytkgaahmehmbfjaa
open Go.ChangeShapes Go.WideShapes Go.ChangeAt Go.RowKit
set_option linter.unusedVariables false
set_option linter.unusedSimpArgs false


theorem sdV_t {lo hi : Int} : sdV lo hi = true ↔ -1048576 ≤ lo ∧ lo ≤ hi ∧ hi ≤ 1048576 := by
  unfold sdV; simp [and_assoc]
theorem vB_t {a b c d e f : Int} : vB a b c d e f = true ↔ (-1048576 ≤ a ∧ a ≤ d ∧ d ≤ 1048576) ∧ (-1048576 ≤ b ∧ b ≤ e ∧ e ≤ 1048576) ∧ (-1048576 ≤ c ∧ c ≤ f ∧ f ≤ 1048576) := by
  unfold vB; simp only [Bool.and_eq_true, sdV_t, and_assoc]
def gp (x y : Bx) (i : Nat) : Int := gapS (x.side i).1 (x.side i).2 (y.side i).1 (y.side i).2
def gapB (x y : Bx) : Int := mx (mx (gp x y 0) (gp x y 1)) (gp x y 2)
def sqB (x y : Bx) : Int := pq (gp x y 0) + pq (gp x y 1) + pq (gp x y 2)
def nr (x y : Bx) (i : Nat) : S2 := nearS (x.side i).1 (x.side i).2 (y.side i).1 (y.side i).2
def ptv (a b c : Int) : Value := .agg #[.int .i64 a, .int .i64 b, .int .i64 c]
def conB (x y : Bx) : Bool := conS x.a x.d y.a y.d && conS x.b x.e y.b y.e && conS x.c x.f y.c y.f
theorem Bx.ok_t {x : Bx} (h : x.ok = true) : (-1048576 ≤ x.a ∧ x.a ≤ x.d ∧ x.d ≤ 1048576) ∧ (-1048576 ≤ x.b ∧ x.b ≤ x.e ∧ x.e ≤ 1048576) ∧ (-1048576 ≤ x.c ∧ x.c ≤ x.f ∧ x.f ≤ 1048576) := vB_t.1 h
theorem mx_b {a b L : Int} (h1 : -L ≤ a ∧ a ≤ L) (h2 : -L ≤ b ∧ b ≤ L) : -L ≤ mx a b ∧ mx a b ≤ L := by unfold mx; split <;> assumption
theorem gp_b {x y : Bx} (hx : x.ok = true) (hy : y.ok = true) (i : Nat) : -2097152 ≤ gp x y i ∧ gp x y i ≤ 2097152 := by
  have h1 := Bx.ok_t hx
  have h2 := Bx.ok_t hy
  unfold gp gapS
  rcases i with _ | _ | i
  all_goals (simp only [Bx.side]; exact mx_b (by omega) (by omega))
theorem pq_b {x : Int} (h : -2097152 ≤ x ∧ x ≤ 2097152) : 0 ≤ pq x ∧ pq x ≤ 4398046511104 := by
  unfold pq
  split
  · rename_i hp
    constructor
    · exact Int.mul_nonneg (by omega) (by omega)
    · have : x * x ≤ 2097152 * 2097152 := Int.mul_le_mul h.2 h.2 (by omega) (by omega)
      omega
  · omega
theorem gap_fn {x y : Bx} (hx : x.ok = true) (hy : y.ok = true) (i : Nat) : Fn 94 #[.agg #[.int .i64 (x.side i).1, .int .i64 (x.side i).2], .agg #[.int .i64 (y.side i).1, .int .i64 (y.side i).2]] (.int .i64 (gp x y i)) := by
  have h1 := Bx.ok_t hx
  have h2 := Bx.ok_t hy
  intro w
  refine sdgap_any _ _ _ _ w ?_ ?_ ?_ ?_
  all_goals (unfold Sml; rcases i with _ | _ | i <;> simp only [Bx.side] <;> omega)
theorem Gap_ok (x y : Bx) (w : World) (hx : x.ok = true) (hy : y.ok = true) : Calls Try.prog 36 #[x.val, y.val] w fun E w' => E = .returned (.tuple #[.int .i64 (gapB x y), .int .i64 0]) ∧ Below w.heap.size w w' :=
  gap_ok x.a x.b x.c x.d x.e x.f y.a y.b y.c y.d y.e y.f _ _ _ w hx hy (gap_fn hx hy 0) (gap_fn hx hy 1) (gap_fn hx hy 2)
theorem Gap_arg (x y : Bx) (w : World) (h : x.ok = false ∨ y.ok = false) : Calls Try.prog 36 #[x.val, y.val] w fun E w' => E = .returned (.tuple #[.int .i64 0, .int .i64 1]) ∧ Below w.heap.size w w' := gap_arg x.a x.b x.c x.d x.e x.f y.a y.b y.c y.d y.e y.f w h
theorem Con_ok (x y : Bx) (w : World) (hx : x.ok = true) (hy : y.ok = true) : Calls Try.prog 37 #[x.val, y.val] w fun E w' => E = .returned (.tuple #[.bool (conB x y), .int .i64 0]) ∧ Below w.heap.size w w' := con_ok x.a x.b x.c x.d x.e x.f y.a y.b y.c y.d y.e y.f w hx hy
theorem Con_arg (x y : Bx) (w : World) (h : x.ok = false ∨ y.ok = false) : Calls Try.prog 37 #[x.val, y.val] w fun E w' => E = .returned (.tuple #[.bool false, .int .i64 1]) ∧ Below w.heap.size w w' := con_arg x.a x.b x.c x.d x.e x.f y.a y.b y.c y.d y.e y.f w h
end Go.Proofs.Ytkgaahmehmbfjaa
namespace Go.Proofs.Ytkgaahmehmbfjaa
open Go.ChangeShapes Go.WideShapes Go.ChangeAt Go.RowKit
set_option linter.unusedVariables false
set_option linter.unusedSimpArgs false

theorem ex_ok : xA.ok = true ∧ xB.ok = true ∧ [xC, xD].all Bx.ok = true := by decide
theorem ex_gap : gapB xA xB = 4 ∧ sqB xA xB = 25 := by decide
theorem ex_near : nr xA xB 0 = (10, 13) ∧ nr xA xB 1 = (10, 14) ∧ nr xA xB 2 = (5, 5) := by decide
theorem gap_ex (w : World) : Calls Try.prog 36 #[.agg #[.int .i64 0, .int .i64 0, .int .i64 0, .int .i64 10, .int .i64 10, .int .i64 10], .agg #[.int .i64 13, .int .i64 14, .int .i64 5, .int .i64 20, .int .i64 20, .int .i64 20]] w fun E w' => E = .returned (.tuple #[.int .i64 4, .int .i64 0]) ∧ Below w.heap.size w w' := by
  have h := Gap_ok xA xB w ex_ok.1 ex_ok.2.1
  rw [ex_gap.1] at h; exact h
theorem lit_sl {w : World} {g : Nat} (h : Has w g 30 #[.int .i64 0, .int .i64 0, .int .i64 0, .int .i64 4, .int .i64 10, .int .i64 10, .int .i64 4, .int .i64 0, .int .i64 0, .int .i64 11, .int .i64 10, .int .i64 10]) : Sl w (some ⟨g, 0, none⟩) [xC, xD] := by
  refine ⟨by simp, fun a e => ?_, by unfold maxLen; simp⟩
  cases e
  intro i hi
  have r := fun j => h.read j
  rcases (by simp at hi; omega : i = 0 ∨ i = 1) with rfl | rfl
  · exact ⟨r 0, r 1, r 2, r 3, r 4, r 5⟩
  · exact ⟨r 6, r 7, r 8, r 9, r 10, r 11⟩
theorem covers_ex (g : Nat) (w : World) (h : Has w g 30 #[.int .i64 0, .int .i64 0, .int .i64 0, .int .i64 4, .int .i64 10, .int .i64 10, .int .i64 4, .int .i64 0, .int .i64 0, .int .i64 11, .int .i64 10, .int .i64 10]) : Calls Try.prog 47 #[.slice (some ⟨g, 0, none⟩) 2 2, .agg #[.int .i64 0, .int .i64 0, .int .i64 0, .int .i64 10, .int .i64 10, .int .i64 10]] w fun E w' => E = .returned (.tuple #[.bool true, .int .i64 0]) ∧ Below w.heap.size w w' := by
  have h := Covers_ok (some ⟨g, 0, none⟩) [xC, xD] 2 xA w (lit_sl h) ex_ok.1 ex_ok.2.2 (by simp)
  rw [ex_cov] at h; exact h
theorem cells_ex {w2 W : World} {n : Nat} (h : Env w2 W [⟨n + 1, 28, #[.int .i64 13, .int .i64 14, .int .i64 5]⟩, ⟨n, 28, #[.int .i64 10, .int .i64 10, .int .i64 5]⟩, ⟨w2.heap.size + 1, 30, #[.int .i64 13, .int .i64 14, .int .i64 5, .int .i64 20, .int .i64 20, .int .i64 20]⟩, ⟨w2.heap.size, 30, #[.int .i64 0, .int .i64 0, .int .i64 0, .int .i64 10, .int .i64 10, .int .i64 10]⟩]) : W.cell? ⟨w2.heap.size, 0, none⟩ = some (.int .i64 0) ∧ W.cell? ⟨w2.heap.size, 1, none⟩ = some (.int .i64 0) ∧ W.cell? ⟨w2.heap.size, 2, none⟩ = some (.int .i64 0) ∧ W.cell? ⟨w2.heap.size, 3, none⟩ = some (.int .i64 10) ∧ W.cell? ⟨w2.heap.size, 4, none⟩ = some (.int .i64 10) ∧ W.cell? ⟨w2.heap.size, 5, none⟩ = some (.int .i64 10) ∧ Env w2 W [⟨n + 1, 28, #[.int .i64 13, .int .i64 14, .int .i64 5]⟩, ⟨n, 28, #[.int .i64 10, .int .i64 10, .int .i64 5]⟩, ⟨w2.heap.size + 1, 30, #[.int .i64 13, .int .i64 14, .int .i64 5, .int .i64 20, .int .i64 20, .int .i64 20]⟩, ⟨w2.heap.size, 30, #[.int .i64 0, .int .i64 0, .int .i64 0, .int .i64 10, .int .i64 10, .int .i64 10]⟩] := by
  have C := h.cells
  simp [BC, CF] at C
  simp [C, h]
end Go.Proofs.Ytkgaahmehmbfjaa
namespace Go.Proofs.Ytkgaahmehmbfjaa
open Go.ChangeShapes Go.WideShapes Go.ChangeAt Go.RowKit
set_option linter.unusedVariables false
set_option linter.unusedSimpArgs false

def zB : Bx := ⟨0, 0, 0, 0, 0, 0⟩
def meetB (x y : Bx) : Bx := ⟨mx x.a y.a, mx x.b y.b, mx x.c y.c, mn x.d y.d, mn x.e y.e, mn x.f y.f⟩
def hullB (x y : Bx) : Bx := ⟨mn x.a y.a, mn x.b y.b, mn x.c y.c, mx x.d y.d, mx x.e y.e, mx x.f y.f⟩
def growB (x : Bx) (n : Int) : Bx := ⟨x.a - n, x.b - n, x.c - n, x.d + n, x.e + n, x.f + n⟩
end Go.Proofs.Ytkgaahmehmbfjaa
namespace Go.Proofs.Ytkgaahmehmbfjaa
open Go.ChangeShapes Go.WideShapes Go.ChangeAt Go.RowKit
set_option linter.unusedVariables false
set_option linter.unusedSimpArgs false

theorem Sl.tail {w : World} {a : Addr} {x : Bx} {l : List Bx} (h : Sl w (some a) (x :: l)) : Sl w (some (a.add 6)) l := by
  refine ⟨by simp, fun b e => ?_, by have := h.2.2; simp at this ⊢; omega⟩
  cases e
  intro i hi
  have := h.2.1 a rfl (i + 1) (by simp; omega)
  have e : (a.add 6).add (i * 6) = a.add ((i + 1) * 6) := by rw [Go.Deep.add_add]; congr 1; omega
  rw [e]
  simpa using this
set_option maxHeartbeats 8000000 in
set_option maxRecDepth 100000 in
theorem Hull_ok (a : Addr) (x : Bx) (l : List Bx) (cap : Nat) (w : World) (hS : Sl w (some a) (x :: l)) (hl : (x :: l).all Bx.ok = true) (hc : l.length + 1 ≤ cap) : Calls Try.prog 45 #[.slice (some a) (l.length + 1) cap] w fun e w' => e = .returned (.tuple #[(l.foldl hullB x).val, .int .i64 0]) ∧ Below w.heap.size w w' := by
  have hm := hS.2.2
  unfold maxLen at hm
  simp only [List.length_cons] at hm
  have E := (Env.nil w).add w.heap.size 30 #[.int .i64 0, .int .i64 0, .int .i64 0, .int .i64 0, .int .i64 0, .int .i64 0] rfl
  have hS1 := hS.on (al1 w (.cells #[.int .i64 0, .int .i64 0, .int .i64 0, .int .i64 0, .int .i64 0, .int .i64 0] 30))
  have h49 : ∀ W, Sl W (some a) (x :: l) → Calls Try.prog 69 #[.slice (some a) (l.length + 1) cap] W fun e w' => e = .returned (.bool true) ∧ Below W.heap.size W w' := fun W h => by
    have := allvalid_any (some a) (x :: l) cap W h
    rw [hl] at this; exact this
  have h47 : ∀ (m y : Bx) W, Calls Try.prog 70 #[m.val, y.val, .func (.func 71) #[] #[]] W fun E w' => E = .returned (hullB m y).val ∧ Below W.heap.size W w' := fun m y W => hull2_any m.a m.b m.c m.d m.e m.f y.a y.b y.c y.d y.e y.f W
  have q0 : ((l.length : Int) + 1 == 0) = false := by simp; omega
  have q1 : decide ((l.length : Int) + 1 = 0) = false := by simp; omega
  obtain ⟨RES, hRES⟩ : ∃ R : Bx, R = l.foldl hullB x := ⟨_, rfl⟩
  rw [← hRES]
  have hr0 := Lib.hid hRES
  clear hRES
  unfold Bx.val at *
  go_enter Try.func45, Try.ntmps45
  go_upto_region 5 with (go_at_call 69; (with_reducible refine (h49 _ hS1).mono ?_); rintro X w1 ⟨rfl, hb⟩; replace E := E.on hb; have hS2 := hS1.on hb; clear hb)
  obtain ⟨a', ea, c0, c1, c2, c3, c4, c5⟩ := hS2.at (k := 0) (by simp)
  cases ea
  have ez : a.add 0 = a := by simp [Addr.add]; try (cases a; split <;> simp_all)
  simp only [Nat.zero_mul, ez, List.getElem_cons_zero] at c0 c1 c2 c3 c4 c5
  have hS3 := hS2.tail
  replace E := E.add w1.heap.size 30 #[.int .i64 x.a, .int .i64 x.b, .int .i64 x.c, .int .i64 x.d, .int .i64 x.e, .int .i64 x.f] rfl
  rcases l with _ | ⟨y, l⟩
  · have C := E.cells
    simp [BC, CF] at C
    have fin := fun (u0 u1 u2 u3 u4 u5 : Value) => (E.six (u0 := u0) (u1 := u1) (u2 := u2) (u3 := u3) (u4 := u4) (u5 := u5) 1 rfl).1
    simp only [List.length_nil, List.foldl_nil] at *
    go_wp2
    all_goals (
      go_loopw [21] (fun v wr => v = .int .i64 0 ∧ Env w wr [⟨w1.heap.size, 30, #[.int .i64 x.a, .int .i64 x.b, .int .i64 x.c, .int .i64 x.d, .int .i64 x.e, .int .i64 x.f]⟩, ⟨w.heap.size, 30, #[.int .i64 0, .int .i64 0, .int .i64 0, .int .i64 0, .int .i64 0, .int .i64 0]⟩]) (fun _ _ => 0)
      case atStart => exact ⟨rfl, E⟩
      case round =>
        clear E C fin
        obtain ⟨rfl, E⟩ := hrel
        have e := hr0.out
        subst e
        have C := E.cells
        simp [BC, CF] at C
        go_wp2
        refine bodyPost_ret (v := .tuple #[.agg #[.int .i64 RES.a, .int .i64 RES.b, .int .i64 RES.c, .int .i64 RES.d, .int .i64 RES.e, .int .i64 RES.f], .int .i64 0]) (by simp [results, Try.results45, go_sem, C]) rfl ⟨rfl, ?_⟩
        exact (E.six 1 rfl).1)
  · have hS4 : Sl w1 (some ⟨a.block, a.off + 6, none⟩) (y :: l) := by
      have := hS3
      rwa [show a.add 6 = ⟨a.block, a.off + 6, none⟩ by simp [Addr.add]] at this
    generalize hL : y :: l = L at *
    have hne : 0 < L.length := by rw [← hL]; simp
    have k1 : 1 < cap := by omega
    have k2 : ¬ cap = 1 := by omega
    have k3 : ¬ cap - 1 = 0 := by omega
    clear hL hS2 hS3 hS1 hS h49
    go_wp2
    clear c0 c1 c2 c3 c4 c5 ez
    go_loopw [21] (fun v wr => ∃ (k : Nat) (m : Bx), v = .int .i64 (k : Int) ∧ k ≤ L.length ∧ Hid (m = (L.take k).foldl hullB x) ∧ Env w wr [⟨w1.heap.size, 30, #[.int .i64 m.a, .int .i64 m.b, .int .i64 m.c, .int .i64 m.d, .int .i64 m.e, .int .i64 m.f]⟩, ⟨w.heap.size, 30, #[.int .i64 0, .int .i64 0, .int .i64 0, .int .i64 0, .int .i64 0, .int .i64 0]⟩] ∧ Below w1.heap.size w1 wr) (fun v _ => L.length - (intOf v).toNat)
    case atStart => exact ⟨0, x, rfl, Nat.zero_le _, Lib.hid rfl, E, al1 w1 _⟩
    case round =>
      clear E
      obtain ⟨k, m, rfl, hk, hM, E, hB⟩ := hrel
      by_cases hlt : k < L.length
      · have g1 : decide ((k : Int) < (L.length : Int)) = true := by simp [hlt]
        obtain ⟨a', ea, c0, c1, c2, c3, c4, c5⟩ := (hS4.on hB).at hlt
        cases ea
        have ad : (⟨a.block, a.off + 6, none⟩ : Addr).add (k * 6) = ⟨a.block, a.off + 6 + k * 6, none⟩ := by unfold Addr.add; split <;> simp_all
        simp only [ad] at c0 c1 c2 c3 c4 c5
        have W1 : IntKind.i64.wrap ((k : Int) + 1) = ((k + 1 : Nat) : Int) := by rw [IntWalk.i64_in _ (by omega)]; omega
        have h := fun W => h47 m L[k] W
        have eM : hullB m L[k] = (L.take (k + 1)).foldl hullB x := by rw [List.take_succ_eq_append_getElem hlt, List.foldl_append, ← hM.out]; rfl
        have EM := Lib.hid eM
        clear eM
        generalize hullB m L[k] = m2 at *
        have C := E.cells
        simp [BC, CF] at C
        go_wp2_with (go_at_call 70; (with_reducible refine (h _).mono ?_); rintro X w4 ⟨rfl, hb⟩; replace E := (E.more _).on hb; replace C := E.cells; simp [BC, CF] at C; have hB2 := belows (al hB _) hb; clear hb)
        exact ⟨⟨k + 1, m2, rfl, hlt, EM, E.six 0 rfl, (((((hB2.setCell (by dsimp only; omega) _).setCell (by dsimp only; omega) _).setCell (by dsimp only; omega) _).setCell (by dsimp only; omega) _).setCell (by dsimp only; omega) _).setCell (by dsimp only; omega) _⟩, by simp [intOf]; omega⟩
      · have g1 : decide ((k : Int) < (L.length : Int)) = false := by simp; omega
        have e0 := hM.out
        rw [List.take_of_length_le (by omega)] at e0
        have e := e0.trans hr0.out.symm
        clear e0 hM
        subst e
        have C := E.cells
        simp [BC, CF] at C
        go_wp2
        refine bodyPost_ret (v := .tuple #[.agg #[.int .i64 m.a, .int .i64 m.b, .int .i64 m.c, .int .i64 m.d, .int .i64 m.e, .int .i64 m.f], .int .i64 0]) (by simp [results, Try.results45, go_sem, C]) rfl ⟨rfl, ?_⟩
        exact (E.six 1 rfl).1
end Go.Proofs.Ytkgaahmehmbfjaa
namespace Go.Proofs.Ytkgaahmehmbfjaa
open Go.ChangeShapes Go.WideShapes Go.ChangeAt Go.RowKit
set_option linter.unusedVariables false
set_option linter.unusedSimpArgs false

theorem mx_mx (a b : Int) : mx a b = max a b := by unfold mx; split <;> omega
theorem mn_mn (a b : Int) : mn a b = min a b := by unfold mn; split <;> omega
theorem Bx.ok_i {x : Bx} : x.ok = true ↔ (-1048576 ≤ x.a ∧ x.a ≤ x.d ∧ x.d ≤ 1048576) ∧ (-1048576 ≤ x.b ∧ x.b ≤ x.e ∧ x.e ≤ 1048576) ∧ (-1048576 ≤ x.c ∧ x.c ≤ x.f ∧ x.f ≤ 1048576) := vB_t
theorem con_i {x y : Bx} : conB x y = true ↔ (x.a ≤ y.a ∧ y.d ≤ x.d) ∧ (x.b ≤ y.b ∧ y.e ≤ x.e) ∧ (x.c ≤ y.c ∧ y.f ≤ x.f) := by
  unfold conB conS
  simp only [Bool.and_eq_true, decide_eq_true_eq, and_assoc]
theorem gapB_max (x y : Bx) : gapB x y = max (max (max (y.a - x.d) (x.a - y.d)) (max (y.b - x.e) (x.b - y.e))) (max (y.c - x.f) (x.c - y.f)) := by
  simp only [gapB, gp, gapS, Bx.side, mx_mx]
theorem meet_gap {x y : Bx} (hx : x.ok = true) (hy : y.ok = true) : (meetB x y).ok = true ↔ gapB x y ≤ 0 := by
  rw [Bx.ok_i] at *
  rw [gapB_max]
  simp only [meetB, mx_mx, mn_mn]
  omega
theorem pq_pos {x : Int} : pq x = 0 ↔ x ≤ 0 := by
  unfold pq
  split
  · rename_i h
    have := Int.mul_pos h h
    omega
  · omega
theorem sq_gap {x y : Bx} (hx : x.ok = true) (hy : y.ok = true) : sqB x y = 0 ↔ gapB x y ≤ 0 := by
  have p0 := pq_b (gp_b hx hy 0)
  have p1 := pq_b (gp_b hx hy 1)
  have p2 := pq_b (gp_b hx hy 2)
  have k0 := @pq_pos (gp x y 0)
  have k1 := @pq_pos (gp x y 1)
  have k2 := @pq_pos (gp x y 2)
  unfold sqB gapB
  rw [mx_mx, mx_mx]
  omega
theorem hull_ok2 {x y : Bx} (hx : x.ok = true) (hy : y.ok = true) : (hullB x y).ok = true := by
  rw [Bx.ok_i] at *
  simp only [hullB, mx_mx, mn_mn]
  omega
theorem hull_l (x y : Bx) : conB (hullB x y) x = true := by
  rw [con_i]; simp only [hullB, mx_mx, mn_mn]; omega
theorem hull_r (x y : Bx) : conB (hullB x y) y = true := by
  rw [con_i]; simp only [hullB, mx_mx, mn_mn]; omega
theorem meet_l (x y : Bx) : conB x (meetB x y) = true := by
  rw [con_i]; simp only [meetB, mx_mx, mn_mn]; omega
theorem meet_r (x y : Bx) : conB y (meetB x y) = true := by
  rw [con_i]; simp only [meetB, mx_mx, mn_mn]; omega
theorem lit2_sl {w : World} {g : Nat} {x y : Bx} (h : Has w g 30 #[.int .i64 x.a, .int .i64 x.b, .int .i64 x.c, .int .i64 x.d, .int .i64 x.e, .int .i64 x.f, .int .i64 y.a, .int .i64 y.b, .int .i64 y.c, .int .i64 y.d, .int .i64 y.e, .int .i64 y.f]) : Sl w (some ⟨g, 0, none⟩) [x, y] := by
  refine ⟨by simp, fun a e => ?_, by unfold maxLen; simp⟩
  cases e
  intro i hi
  have r := fun j => h.read j
  rcases (by simp at hi; omega : i = 0 ∨ i = 1) with rfl | rfl
  · exact ⟨r 0, r 1, r 2, r 3, r 4, r 5⟩
  · exact ⟨r 6, r 7, r 8, r 9, r 10, r 11⟩
theorem has_new_at {w : World} {n : Nat} {t : TypeId} {cs : Array Value} (h : w.heap.size = n) : Has (w.alloc (.cells cs t)) n t cs := by subst h; exact Has.new_ _ _ _
theorem hull_lit (g : Nat) (x y : Bx) (w : World) (hx : x.ok = true) (hy : y.ok = true) (h : Has w g 30 #[.int .i64 x.a, .int .i64 x.b, .int .i64 x.c, .int .i64 x.d, .int .i64 x.e, .int .i64 x.f, .int .i64 y.a, .int .i64 y.b, .int .i64 y.c, .int .i64 y.d, .int .i64 y.e, .int .i64 y.f]) : Calls Try.prog 45 #[.slice (some ⟨g, 0, none⟩) 2 2] w fun e w' => e = .returned (.tuple #[(hullB x y).val, .int .i64 0]) ∧ Below w.heap.size w w' :=
  Hull_ok ⟨g, 0, none⟩ x [y] 2 w (lit2_sl h) (by simp [hx, hy]) (by simp)
end Go.Proofs.Ytkgaahmehmbfjaa
namespace Go.Proofs.Ytkgaahmehmbfjaa
set_option linter.unusedVariables false
set_option linter.unusedSimpArgs false
/-- A point, its coordinates doubled, lies in a box. -/
def In3 (x : Bx) (s t u : Int) : Prop := (2 * x.a ≤ s ∧ s ≤ 2 * x.d) ∧ (2 * x.b ≤ t ∧ t ≤ 2 * x.e) ∧ (2 * x.c ≤ u ∧ u ≤ 2 * x.f)
theorem cn_in {o p : S2} {t : Int} (h : cn o p = true) (k1 : 2 * p.1 ≤ t) (k2 : t ≤ 2 * p.2) : 2 * o.1 ≤ t ∧ t ≤ 2 * o.2 := by
  unfold cn conS at h
  simp only [Bool.and_eq_true, decide_eq_true_eq] at h
  omega
theorem and3 (x y z : Nat) : ((x &&& y &&& z) != 0) = true ↔ ∃ j, x.testBit j = true ∧ y.testBit j = true ∧ z.testBit j = true := by
  rw [bne_iff_ne]
  constructor
  · intro h
    obtain ⟨j, hj⟩ := Nat.exists_testBit_of_ne_zero h
    rw [Nat.testBit_and, Nat.testBit_and] at hj
    simp only [Bool.and_eq_true] at hj
    exact ⟨j, hj.1.1, hj.1.2, hj.2⟩
  · rintro ⟨j, h1, h2, h3⟩ e
    have : (x &&& y &&& z).testBit j = true := by rw [Nat.testBit_and, Nat.testBit_and, h1, h2, h3]; rfl
    rw [e, Nat.zero_testBit] at this
    cases this
theorem hm_bit (l : List Bx) (i : Nat) (p : S2) (j : Nat) : (hmk (sds l i) p (sds l i).length).testBit j = true ↔ ∃ h : j < l.length, cn (l[j].side i) p = true := by
  rw [hmk_bit]
  have e : (sds l i).length = l.length := by simp [sds]
  rw [e]
  constructor
  · intro h
    simp only [Bool.and_eq_true, decide_eq_true_eq] at h
    refine ⟨h.1, ?_⟩
    have := h.2
    rwa [show (sds l i).getD j (0, 0) = l[j].side i by simp [sds, h.1]] at this
  · rintro ⟨h, k⟩
    simp only [Bool.and_eq_true, decide_eq_true_eq]
    refine ⟨h, ?_⟩
    rwa [show (sds l i).getD j (0, 0) = l[j].side i by simp [sds, h]]
theorem covB_iff (l : List Bx) (b : Bx) (hb : b.ok = true) : covB l b = true ↔ ∀ s t u, In3 b s t u → ∃ x ∈ l, In3 x s t u := by
  have hk := Bx.ok_i.1 hb
  have hcov : covB l b = true ↔ ∀ p ∈ cutS b.a b.d (sds l 0), ∀ q ∈ cutS b.b b.e (sds l 1), ∀ r ∈ cutS b.c b.f (sds l 2), ∃ x ∈ l, cn (x.side 0) p = true ∧ cn (x.side 1) q = true ∧ cn (x.side 2) r = true := by
    unfold covB cov3 hold
    simp only [List.all_map, List.all_eq_true, Function.comp, and3, hm_bit]
    constructor
    · intro h p hp q hq r hr
      obtain ⟨j, ⟨h1, k1⟩, ⟨h2, k2⟩, ⟨h3, k3⟩⟩ := h p hp q hq r hr
      exact ⟨l[j], List.getElem_mem h1, k1, k2, k3⟩
    · intro h p hp q hq r hr
      obtain ⟨x, hx, k1, k2, k3⟩ := h p hp q hq r hr
      obtain ⟨j, hj, rfl⟩ := List.mem_iff_getElem.1 hx
      exact ⟨j, ⟨hj, k1⟩, ⟨hj, k2⟩, ⟨hj, k3⟩⟩
  rw [hcov]
  constructor
  · intro h s t u hi
    obtain ⟨p, hp, p1, p2⟩ := cut_cover (sds l 0) hk.1.2.1 hi.1.1 hi.1.2
    obtain ⟨q, hq, q1, q2⟩ := cut_cover (sds l 1) hk.2.1.2.1 hi.2.1.1 hi.2.1.2
    obtain ⟨r, hr, r1, r2⟩ := cut_cover (sds l 2) hk.2.2.2.1 hi.2.2.1 hi.2.2.2
    obtain ⟨x, hx, k1, k2, k3⟩ := h p hp q hq r hr
    exact ⟨x, hx, cn_in k1 p1 p2, cn_in k2 q1 q2, cn_in k3 r1 r2⟩
  · intro h p hp q hq r hr
    obtain ⟨s, s1, s2, hs⟩ := cut_inner (sds l 0) hk.1.2.1 hp
    obtain ⟨t, t1, t2, ht⟩ := cut_inner (sds l 1) hk.2.1.2.1 hq
    obtain ⟨u, u1, u2, hu⟩ := cut_inner (sds l 2) hk.2.2.2.1 hr
    obtain ⟨x, hx, i1, i2, i3⟩ := h s t u ⟨⟨s1, s2⟩, ⟨t1, t2⟩, ⟨u1, u2⟩⟩
    exact ⟨x, hx, hs _ (List.mem_map.2 ⟨x, hx, rfl⟩) i1.1 i1.2, ht _ (List.mem_map.2 ⟨x, hx, rfl⟩) i2.1 i2.2, hu _ (List.mem_map.2 ⟨x, hx, rfl⟩) i3.1 i3.2⟩
def ptB (p q r : Int) : Bx := ⟨p, q, r, p, q, r⟩
def leftB (b : Bx) (p : Int) : Bx := ⟨b.a, b.b, b.c, p, b.e, b.f⟩
def rightB (b : Bx) (p : Int) : Bx := ⟨p, b.b, b.c, b.d, b.e, b.f⟩
theorem halves_ok {b : Bx} {p : Int} (hb : b.ok = true) (h : b.a ≤ p ∧ p ≤ b.d) : (leftB b p).ok = true ∧ (rightB b p).ok = true := by
  rw [Bx.ok_i] at *
  rw [Bx.ok_i]
  simp only [leftB, rightB]
  omega
theorem cov_halves (l : List Bx) {b : Bx} {p : Int} (hb : b.ok = true) (h : b.a ≤ p ∧ p ≤ b.d) : covB l b = (covB l (leftB b p) && covB l (rightB b p)) := by
  obtain ⟨h1, h2⟩ := halves_ok hb h
  rw [Bool.eq_iff_iff, Bool.and_eq_true, covB_iff l b hb, covB_iff l _ h1, covB_iff l _ h2]
  constructor
  · intro k
    refine ⟨fun s t u hi => k s t u ?_, fun s t u hi => k s t u ?_⟩
    · simp only [In3, leftB] at hi ⊢; omega
    · simp only [In3, rightB] at hi ⊢; omega
  · rintro ⟨k1, k2⟩ s t u hi
    by_cases c : s ≤ 2 * p
    · exact k1 s t u (by simp only [In3, leftB] at hi ⊢; omega)
    · exact k2 s t u (by simp only [In3, rightB] at hi ⊢; omega)
theorem cov_point (l : List Bx) {p q r : Int} (hp : (ptB p q r).ok = true) : covB l (ptB p q r) = l.any fun x => conB x (ptB p q r) := by
  rw [Bool.eq_iff_iff, covB_iff l _ hp, List.any_eq_true]
  constructor
  · intro h
    obtain ⟨x, hx, hi⟩ := h (2 * p) (2 * q) (2 * r) (by simp only [In3, ptB]; omega)
    exact ⟨x, hx, by rw [con_i]; simp only [In3, ptB] at hi ⊢; omega⟩
  · rintro ⟨x, hx, hc⟩ s t u hi
    rw [con_i] at hc
    exact ⟨x, hx, by simp only [In3, ptB] at hi hc ⊢; omega⟩
theorem cov_sub (l : List Bx) {b c : Bx} (hb : b.ok = true) (hc : c.ok = true) (h : conB b c = true) (k : covB l b = true) : covB l c = true := by
  rw [covB_iff l _ hc]
  rw [covB_iff l _ hb] at k
  rw [con_i] at h
  intro s t u hi
  exact k s t u (by simp only [In3] at hi ⊢; omega)
theorem cov_more (l m : List Bx) {b : Bx} (hb : b.ok = true) (h : ∀ x ∈ l, x ∈ m) (k : covB l b = true) : covB m b = true := by
  rw [covB_iff _ _ hb] at *
  intro s t u hi
  obtain ⟨x, hx, hi⟩ := k s t u hi
  exact ⟨x, h x hx, hi⟩
theorem cov_left (l : List Bx) {b : Bx} {p : Int} (hb : b.ok = true) (h : b.a ≤ p ∧ p ≤ b.d) (k : covB l (rightB b p) = true) : covB (l ++ [leftB b p]) b = true := by
  obtain ⟨h1, h2⟩ := halves_ok hb h
  rw [cov_halves _ hb h, Bool.and_eq_true]
  refine ⟨?_, cov_more l _ h2 (fun x hx => List.mem_append_left _ hx) k⟩
  rw [covB_iff _ _ h1]
  exact fun s t u hi => ⟨leftB b p, by simp, hi⟩
theorem cov_own {b : Bx} {p : Int} (hb : b.ok = true) (h : b.a ≤ p ∧ p ≤ b.d) : covB [b] (leftB b p) = true := by
  obtain ⟨h1, -⟩ := halves_ok hb h
  rw [covB_iff _ _ h1]
  exact fun s t u hi => ⟨b, by simp, by simp only [In3, leftB] at hi ⊢; omega⟩
end Go.Proofs.Ytkgaahmehmbfjaa
namespace Go.Proofs.Ytkgaahmehmbfjaa
open Go.ChangeShapes Go.WideShapes Go.ChangeAt Go.RowKit
set_option linter.unusedVariables false
set_option linter.unusedSimpArgs false

def atI (lo hi n : Int) : Int := lo + ((hi - lo) * n).tdiv 65535
theorem at_b {d n : Int} (h0 : 0 ≤ d) (n0 : 0 ≤ n) (n1 : n ≤ 65535) : 0 ≤ (d * n).tdiv 65535 ∧ (d * n).tdiv 65535 ≤ d ∧ 0 ≤ d * n ∧ d * n ≤ d * 65535 := by
  have h1 : 0 ≤ d * n := Int.mul_nonneg h0 n0
  have h2 : d * n ≤ d * 65535 := Int.mul_le_mul_of_nonneg_left n1 h0
  rw [Int.tdiv_eq_ediv_of_nonneg h1]
  generalize d * n = z at *
  omega
theorem at_in {lo hi n : Int} (h1 : lo ≤ hi) (n0 : 0 ≤ n) (n1 : n ≤ 65535) : lo ≤ atI lo hi n ∧ atI lo hi n ≤ hi := by
  obtain ⟨b0, b1, b2, b3⟩ := at_b (d := hi - lo) (n := n) (by omega) n0 n1
  unfold atI
  omega
end Go.Proofs.Ytkgaahmehmbfjaa
namespace Go.Proofs.Ytkgaahmehmbfjaa
open Go.ChangeShapes Go.WideShapes Go.ChangeAt Go.RowKit
set_option linter.unusedVariables false
set_option linter.unusedSimpArgs false

def sqP (a b c a' b' c' : Int) : Int := (a - a') * (a - a') + (b - b') * (b - b') + (c - c') * (c - c')
def In6 (n : Int) : Prop := -1048576 ≤ n ∧ n ≤ 1048576
theorem sq_b {d : Int} (h0 : -2097152 ≤ d) (h1 : d ≤ 2097152) : 0 ≤ d * d ∧ d * d ≤ 4398046511104 := by
  have h2 : 0 ≤ d * d := by
    rcases Int.le_total 0 d with h | h
    · exact Int.mul_nonneg h h
    · have := Int.mul_nonneg (show 0 ≤ -d by omega) (show 0 ≤ -d by omega); rwa [Int.neg_mul_neg] at this
  have h3 : (2097152 - d) * (2097152 + d) = 4398046511104 - d * d := by
    rw [Int.sub_mul, Int.mul_add, Int.mul_add, Int.mul_comm d 2097152]; omega
  have h4 := Int.mul_nonneg (show 0 ≤ 2097152 - d by omega) (show 0 ≤ 2097152 + d by omega)
  omega
end Go.Proofs.Ytkgaahmehmbfjaa
