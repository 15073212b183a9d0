/- Hull. -/
import Derived.Test.YtcadghenjcaaiaaMe
namespace Go.Proofs.Ytcadghenjcaaiaa
open Go.ChangeShapes Go.WideShapes Go.ChangeAt Go.RowKit
set_option linter.unusedVariables false
set_option linter.unusedSimpArgs false

theorem Sl.tail {w : World} {a : Addr} {x : Bx} {l : List Bx} (h : Sl w (some a) (x :: l)) : Sl w (some (a.add 6)) l := by
  refine ⟨by simp, fun b e => ?_, by have := h.2.2; simp at this ⊢; omega⟩
  cases e
  intro i hi
  have := h.2.1 a rfl (i + 1) (by simp; omega)
  have e : (a.add 6).add (i * 6) = a.add ((i + 1) * 6) := by rw [Go.Deep.add_add]; congr 1; omega
  rw [e]
  simpa using this
set_option maxHeartbeats 8000000 in
set_option maxRecDepth 100000 in
theorem Hull_ok (a : Addr) (x : Bx) (l : List Bx) (cap : Nat) (w : World) (hS : Sl w (some a) (x :: l)) (hl : (x :: l).all Bx.ok = true) (hc : l.length + 1 ≤ cap) : Calls Try.prog 35 #[.slice (some a) (l.length + 1) cap] w fun e w' => e = .returned (.tuple #[(l.foldl hullB x).val, .int .i64 0]) ∧ Below w.heap.size w w' := by
  have hm := hS.2.2
  unfold maxLen at hm
  simp only [List.length_cons] at hm
  have E := (Env.nil w).add w.heap.size 42 #[.int .i64 0, .int .i64 0, .int .i64 0, .int .i64 0, .int .i64 0, .int .i64 0] rfl
  have hS1 := hS.on (al1 w (.cells #[.int .i64 0, .int .i64 0, .int .i64 0, .int .i64 0, .int .i64 0, .int .i64 0] 42))
  have h49 : ∀ W, Sl W (some a) (x :: l) → Calls Try.prog 44 #[.slice (some a) (l.length + 1) cap] W fun e w' => e = .returned (.bool true) ∧ Below W.heap.size W w' := fun W h => by
    have := allvalid_any (some a) (x :: l) cap W h
    rw [hl] at this; exact this
  have h47 : ∀ (m y : Bx) W, Calls Try.prog 45 #[m.val, y.val, .func (.func 46) #[] #[]] W fun E w' => E = .returned (hullB m y).val ∧ Below W.heap.size W w' := fun m y W => hull2_any m.a m.b m.c m.d m.e m.f y.a y.b y.c y.d y.e y.f W
  have q0 : ((l.length : Int) + 1 == 0) = false := by simp; omega
  have q1 : decide ((l.length : Int) + 1 = 0) = false := by simp; omega
  obtain ⟨RES, hRES⟩ : ∃ R : Bx, R = l.foldl hullB x := ⟨_, rfl⟩
  rw [← hRES]
  have hr0 := Lib.hid hRES
  clear hRES
  unfold Bx.val at *
  go_enter Try.func35, Try.ntmps35
  go_upto_region 5 with (go_at_call 44; (with_reducible refine (h49 _ hS1).mono ?_); rintro X w1 ⟨rfl, hb⟩; replace E := E.on hb; have hS2 := hS1.on hb; clear hb)
  obtain ⟨a', ea, c0, c1, c2, c3, c4, c5⟩ := hS2.at (k := 0) (by simp)
  cases ea
  have ez : a.add 0 = a := by simp [Addr.add]; try (cases a; split <;> simp_all)
  simp only [Nat.zero_mul, ez, List.getElem_cons_zero] at c0 c1 c2 c3 c4 c5
  have hS3 := hS2.tail
  replace E := E.add w1.heap.size 42 #[.int .i64 x.a, .int .i64 x.b, .int .i64 x.c, .int .i64 x.d, .int .i64 x.e, .int .i64 x.f] rfl
  rcases l with _ | ⟨y, l⟩
  · have C := E.cells
    simp [BC, CF] at C
    have fin := fun (u0 u1 u2 u3 u4 u5 : Value) => (E.six (u0 := u0) (u1 := u1) (u2 := u2) (u3 := u3) (u4 := u4) (u5 := u5) 1 rfl).1
    simp only [List.length_nil, List.foldl_nil] at *
    go_wp2
    all_goals (
      go_loopw [21] (fun v wr => v = .int .i64 0 ∧ Env w wr [⟨w1.heap.size, 42, #[.int .i64 x.a, .int .i64 x.b, .int .i64 x.c, .int .i64 x.d, .int .i64 x.e, .int .i64 x.f]⟩, ⟨w.heap.size, 42, #[.int .i64 0, .int .i64 0, .int .i64 0, .int .i64 0, .int .i64 0, .int .i64 0]⟩]) (fun _ _ => 0)
      case atStart => exact ⟨rfl, E⟩
      case round =>
        clear E C fin
        obtain ⟨rfl, E⟩ := hrel
        have e := hr0.out
        subst e
        have C := E.cells
        simp [BC, CF] at C
        go_wp2
        refine bodyPost_ret (v := .tuple #[.agg #[.int .i64 RES.a, .int .i64 RES.b, .int .i64 RES.c, .int .i64 RES.d, .int .i64 RES.e, .int .i64 RES.f], .int .i64 0]) (by simp [results, Try.results35, go_sem, C]) rfl ⟨rfl, ?_⟩
        exact (E.six 1 rfl).1)
  · have hS4 : Sl w1 (some ⟨a.block, a.off + 6, none⟩) (y :: l) := by
      have := hS3
      rwa [show a.add 6 = ⟨a.block, a.off + 6, none⟩ by simp [Addr.add]] at this
    generalize hL : y :: l = L at *
    have hne : 0 < L.length := by rw [← hL]; simp
    have k1 : 1 < cap := by omega
    have k2 : ¬ cap = 1 := by omega
    have k3 : ¬ cap - 1 = 0 := by omega
    clear hL hS2 hS3 hS1 hS h49
    go_wp2
    clear c0 c1 c2 c3 c4 c5 ez
    go_loopw [21] (fun v wr => ∃ (k : Nat) (m : Bx), v = .int .i64 (k : Int) ∧ k ≤ L.length ∧ Hid (m = (L.take k).foldl hullB x) ∧ Env w wr [⟨w1.heap.size, 42, #[.int .i64 m.a, .int .i64 m.b, .int .i64 m.c, .int .i64 m.d, .int .i64 m.e, .int .i64 m.f]⟩, ⟨w.heap.size, 42, #[.int .i64 0, .int .i64 0, .int .i64 0, .int .i64 0, .int .i64 0, .int .i64 0]⟩] ∧ Below w1.heap.size w1 wr) (fun v _ => L.length - (intOf v).toNat)
    case atStart => exact ⟨0, x, rfl, Nat.zero_le _, Lib.hid rfl, E, al1 w1 _⟩
    case round =>
      clear E
      obtain ⟨k, m, rfl, hk, hM, E, hB⟩ := hrel
      by_cases hlt : k < L.length
      · have g1 : decide ((k : Int) < (L.length : Int)) = true := by simp [hlt]
        obtain ⟨a', ea, c0, c1, c2, c3, c4, c5⟩ := (hS4.on hB).at hlt
        cases ea
        have ad : (⟨a.block, a.off + 6, none⟩ : Addr).add (k * 6) = ⟨a.block, a.off + 6 + k * 6, none⟩ := by unfold Addr.add; split <;> simp_all
        simp only [ad] at c0 c1 c2 c3 c4 c5
        have W1 : IntKind.i64.wrap ((k : Int) + 1) = ((k + 1 : Nat) : Int) := by rw [IntWalk.i64_in _ (by omega)]; omega
        have h := fun W => h47 m L[k] W
        have eM : hullB m L[k] = (L.take (k + 1)).foldl hullB x := by rw [List.take_succ_eq_append_getElem hlt, List.foldl_append, ← hM.out]; rfl
        have EM := Lib.hid eM
        clear eM
        generalize hullB m L[k] = m2 at *
        have C := E.cells
        simp [BC, CF] at C
        go_wp2_with (go_at_call 45; (with_reducible refine (h _).mono ?_); rintro X w4 ⟨rfl, hb⟩; replace E := (E.more _).on hb; replace C := E.cells; simp [BC, CF] at C; have hB2 := belows (al hB _) hb; clear hb)
        exact ⟨⟨k + 1, m2, rfl, hlt, EM, E.six 0 rfl, (((((hB2.setCell (by dsimp only; omega) _).setCell (by dsimp only; omega) _).setCell (by dsimp only; omega) _).setCell (by dsimp only; omega) _).setCell (by dsimp only; omega) _).setCell (by dsimp only; omega) _⟩, by simp [intOf]; omega⟩
      · have g1 : decide ((k : Int) < (L.length : Int)) = false := by simp; omega
        have e0 := hM.out
        rw [List.take_of_length_le (by omega)] at e0
        have e := e0.trans hr0.out.symm
        clear e0 hM
        subst e
        have C := E.cells
        simp [BC, CF] at C
        go_wp2
        refine bodyPost_ret (v := .tuple #[.agg #[.int .i64 m.a, .int .i64 m.b, .int .i64 m.c, .int .i64 m.d, .int .i64 m.e, .int .i64 m.f], .int .i64 0]) (by simp [results, Try.results35, go_sem, C]) rfl ⟨rfl, ?_⟩
        exact (E.six 1 rfl).1
end Go.Proofs.Ytcadghenjcaaiaa
