/- BoxForms. -/
import Derived.Test.YtffigpkkdljaiaaRh
import Derived.Test.YtffigpkkdljaiaaRg
import Derived.Test.YtffigpkkdljaiaaFd
import Derived.Deep.CutBlock
namespace Go.Proofs.Ytffigpkkdljaiaa
open Go.ChangeShapes Go.WideShapes Go.ChangeAt Go.RowKit
set_option linter.unusedVariables false
set_option linter.unusedSimpArgs false

theorem s_fo {w W' : World} {kz km kh kg : Nat} {m h g x y : Bx} (E : Env w W' [⟨kz, 25, #[.int .i64 0, .int .i64 0, .int .i64 0, .int .i64 0, .int .i64 0, .int .i64 0]⟩, ⟨km, 25, #[.int .i64 m.a, .int .i64 m.b, .int .i64 m.c, .int .i64 m.d, .int .i64 m.e, .int .i64 m.f]⟩, ⟨kh, 25, #[.int .i64 h.a, .int .i64 h.b, .int .i64 h.c, .int .i64 h.d, .int .i64 h.e, .int .i64 h.f]⟩, ⟨kg, 25, #[.int .i64 g.a, .int .i64 g.b, .int .i64 g.c, .int .i64 g.d, .int .i64 g.e, .int .i64 g.f]⟩, ⟨w.heap.size + 1, 25, #[.int .i64 y.a, .int .i64 y.b, .int .i64 y.c, .int .i64 y.d, .int .i64 y.e, .int .i64 y.f]⟩, ⟨w.heap.size, 25, #[.int .i64 x.a, .int .i64 x.b, .int .i64 x.c, .int .i64 x.d, .int .i64 x.e, .int .i64 x.f]⟩]) : Env w W' [⟨kz, 25, #[.int .i64 0, .int .i64 0, .int .i64 0, .int .i64 0, .int .i64 0, .int .i64 0]⟩, ⟨km, 25, #[.int .i64 m.a, .int .i64 m.b, .int .i64 m.c, .int .i64 m.d, .int .i64 m.e, .int .i64 m.f]⟩, ⟨kh, 25, #[.int .i64 h.a, .int .i64 h.b, .int .i64 h.c, .int .i64 h.d, .int .i64 h.e, .int .i64 h.f]⟩, ⟨kg, 25, #[.int .i64 g.a, .int .i64 g.b, .int .i64 g.c, .int .i64 g.d, .int .i64 g.e, .int .i64 g.f]⟩, ⟨w.heap.size + 1, 25, #[.int .i64 y.a, .int .i64 y.b, .int .i64 y.c, .int .i64 y.d, .int .i64 y.e, .int .i64 y.f]⟩, ⟨w.heap.size, 25, #[.int .i64 x.a, .int .i64 x.b, .int .i64 x.c, .int .i64 x.d, .int .i64 x.e, .int .i64 x.f]⟩] ∧ W'.cell? ⟨kg, 0, none⟩ = some (.int .i64 g.a) ∧ W'.cell? ⟨kg, 1, none⟩ = some (.int .i64 g.b) ∧ W'.cell? ⟨kg, 2, none⟩ = some (.int .i64 g.c) ∧ W'.cell? ⟨kg, 3, none⟩ = some (.int .i64 g.d) ∧ W'.cell? ⟨kg, 4, none⟩ = some (.int .i64 g.e) ∧ W'.cell? ⟨kg, 5, none⟩ = some (.int .i64 g.f) ∧ W'.cell? ⟨kh, 0, none⟩ = some (.int .i64 h.a) ∧ W'.cell? ⟨kh, 1, none⟩ = some (.int .i64 h.b) ∧ W'.cell? ⟨kh, 2, none⟩ = some (.int .i64 h.c) ∧ W'.cell? ⟨kh, 3, none⟩ = some (.int .i64 h.d) ∧ W'.cell? ⟨kh, 4, none⟩ = some (.int .i64 h.e) ∧ W'.cell? ⟨kh, 5, none⟩ = some (.int .i64 h.f) ∧ W'.cell? ⟨(w.heap.size + 1), 0, none⟩ = some (.int .i64 y.a) ∧ W'.cell? ⟨(w.heap.size + 1), 1, none⟩ = some (.int .i64 y.b) ∧ W'.cell? ⟨(w.heap.size + 1), 2, none⟩ = some (.int .i64 y.c) ∧ W'.cell? ⟨(w.heap.size + 1), 3, none⟩ = some (.int .i64 y.d) ∧ W'.cell? ⟨(w.heap.size + 1), 4, none⟩ = some (.int .i64 y.e) ∧ W'.cell? ⟨(w.heap.size + 1), 5, none⟩ = some (.int .i64 y.f) ∧ W'.cell? ⟨w.heap.size, 0, none⟩ = some (.int .i64 x.a) ∧ W'.cell? ⟨w.heap.size, 1, none⟩ = some (.int .i64 x.b) ∧ W'.cell? ⟨w.heap.size, 2, none⟩ = some (.int .i64 x.c) ∧ W'.cell? ⟨w.heap.size, 3, none⟩ = some (.int .i64 x.d) ∧ W'.cell? ⟨w.heap.size, 4, none⟩ = some (.int .i64 x.e) ∧ W'.cell? ⟨w.heap.size, 5, none⟩ = some (.int .i64 x.f) := by
  have C := E.cells
  simp [BC, CF] at C
  simp [C, E]
set_option maxHeartbeats 32000000 in
set_option maxRecDepth 100000 in
theorem forms_main (x y : Bx) (n : Int) (p : Option Addr) (l : List Bx) (cap : Nat) (w : World) (g h m : Bx) (ge he me je : Int) (is ALL A B : Bool) (hS : Sl w p l)
    (h26 : ∀ W, Calls Try.prog 26 #[.slice p l.length cap] W fun E w' => E = .returned (.bool false) ∧ Below W.heap.size W w') (h21 : ∀ W, Calls Try.prog 21 #[x.val, .int .i64 n] W fun E w' => E = .returned (.tuple #[g.val, .int .i64 ge]) ∧ Below W.heap.size W w')
    (h19 : ∀ W, Sl W p l → Calls Try.prog 19 #[.slice p l.length cap] W fun E w' => E = .returned (.tuple #[h.val, .int .i64 he]) ∧ Below W.heap.size W w') (h18 : ∀ W, Calls Try.prog 18 #[x.val, y.val] W fun E w' => E = .returned (.tuple #[m.val, .int .i64 me]) ∧ Below W.heap.size W w')
    (h20 : ∀ W, Calls Try.prog 20 #[x.val, y.val] W fun E w' => E = .returned (.tuple #[.bool is, .int .i64 je]) ∧ Below W.heap.size W w') (h27 : ∀ W, Sl W p l → Calls Try.prog 27 #[.slice p l.length cap] W fun E w' => E = .returned (.bool ALL) ∧ Below W.heap.size W w')
    (h22x : ∀ W, Calls Try.prog 22 #[x.val] W fun E w' => E = .returned (.bool A) ∧ Below W.heap.size W w') (h22y : ∀ W, Calls Try.prog 22 #[y.val] W fun E w' => E = .returned (.bool B) ∧ Below W.heap.size W w') (h14x : ∀ W, Calls Try.prog 14 #[x.val] W fun E w' => E = .returned (.bool A) ∧ Below W.heap.size W w') (h14y : ∀ W, Calls Try.prog 14 #[y.val] W fun E w' => E = .returned (.bool B) ∧ Below W.heap.size W w')
    (HH : (ALL = false ∧ h = zB ∧ he = 1) ∨ (ALL = true ∧ l.length = 0 ∧ h = zB ∧ he = 14) ∨ (ALL = true ∧ 0 < l.length ∧ he = 0 ∧ ∀ W, Sl W p l → Calls Try.prog 28 #[.slice p l.length cap] W fun E w' => E = .returned h.val ∧ Below W.heap.size W w'))
    (HG : (A = false ∧ g = zB ∧ ge = 1) ∨ (A = true ∧ n < 0 ∧ g = zB ∧ ge = 2) ∨ (A = true ∧ 1048576 < n ∧ g = zB ∧ ge = 2) ∨ (A = true ∧ (0 ≤ n ∧ n ≤ 1048576) ∧ g = zB ∧ ge = 2 ∧ ∃ gb : Bx, (∀ W, Calls Try.prog 29 #[x.val, .int .i64 n] W fun E w' => E = .returned gb.val ∧ Below W.heap.size W w') ∧ (∀ W, Calls Try.prog 14 #[gb.val] W fun E w' => E = .returned (.bool false) ∧ Below W.heap.size W w')) ∨
      (A = true ∧ (0 ≤ n ∧ n ≤ 1048576) ∧ ge = 0 ∧ (∀ W, Calls Try.prog 29 #[x.val, .int .i64 n] W fun E w' => E = .returned g.val ∧ Below W.heap.size W w') ∧ (∀ W, Calls Try.prog 14 #[g.val] W fun E w' => E = .returned (.bool true) ∧ Below W.heap.size W w')))
    (HM : (A = false ∧ m = zB ∧ me = 1 ∧ is = false ∧ je = 1) ∨ (A = true ∧ B = false ∧ m = zB ∧ me = 1 ∧ is = false ∧ je = 1) ∨ (A = true ∧ B = true ∧ je = 0 ∧ me = 0 ∧ (∀ W, Calls Try.prog 30 #[x.val, y.val] W fun E w' => E = .returned (.tuple #[m.val, .bool true]) ∧ Below W.heap.size W w') ∧ (∀ W, Calls Try.prog 31 #[x.val, y.val] W fun E w' => E = .returned (.bool is) ∧ Below W.heap.size W w')) ∨
      (A = true ∧ B = true ∧ je = 0 ∧ me = 12 ∧ m = zB ∧ (∀ W, Calls Try.prog 30 #[x.val, y.val] W fun E w' => E = .returned (.tuple #[zB.val, .bool false]) ∧ Below W.heap.size W w') ∧ (∀ W, Calls Try.prog 31 #[x.val, y.val] W fun E w' => E = .returned (.bool is) ∧ Below W.heap.size W w'))) :
    Calls Try.prog 7 #[x.val, y.val, .int .i64 n, .slice p l.length cap] w fun e w' => e = .returned (.bool true) ∧ Below w.heap.size w w' := by
  have E := ((Env.nil w).add w.heap.size 25 #[.int .i64 x.a, .int .i64 x.b, .int .i64 x.c, .int .i64 x.d, .int .i64 x.e, .int .i64 x.f] rfl).add (w.heap.size + 1) 25 #[.int .i64 y.a, .int .i64 y.b, .int .i64 y.c, .int .i64 y.d, .int .i64 y.e, .int .i64 y.f] (by simp)
  have h10 := fun W => awake_any W
  have HH := Lib.hid HH
  have HG := Lib.hid HG
  have HM := Lib.hid HM
  have C := E.cells
  simp [BC, CF] at C
  unfold Bx.val at *
  go_enter Try.func7, Try.ntmps7
  go_upto_block 0 with (first
    | (go_at_call 10; (with_reducible refine (h10 _).mono ?_); rintro X w10 ⟨rfl, hb⟩; replace E := E.on hb; replace C := E.cells; simp [BC, CF] at C; clear hb)
    | (go_at_call 26; (with_reducible refine (h26 _).mono ?_); rintro X w26 ⟨rfl, hb⟩; replace E := E.on hb; replace C := E.cells; simp [BC, CF] at C; clear hb)
    | (go_at_call 21; (with_reducible refine (h21 _).mono ?_); rintro X w21 ⟨rfl, hb⟩; replace E := (E.on hb).add w21.heap.size 25 #[.int .i64 g.a, .int .i64 g.b, .int .i64 g.c, .int .i64 g.d, .int .i64 g.e, .int .i64 g.f] rfl; replace C := E.cells; simp [BC, CF] at C; clear hb)
    | (go_at_call 19; (with_reducible refine (h19 _ (hS.on (envb E))).mono ?_); rintro X w19 ⟨rfl, hb⟩; replace E := (E.on hb).add w19.heap.size 25 #[.int .i64 h.a, .int .i64 h.b, .int .i64 h.c, .int .i64 h.d, .int .i64 h.e, .int .i64 h.f] rfl; replace C := E.cells; simp [BC, CF] at C; clear hb)
    | (go_at_call 18; (with_reducible refine (h18 _).mono ?_); rintro X w18 ⟨rfl, hb⟩; replace E := (E.on hb).add w18.heap.size 25 #[.int .i64 m.a, .int .i64 m.b, .int .i64 m.c, .int .i64 m.d, .int .i64 m.e, .int .i64 m.f] rfl; replace C := E.cells; simp [BC, CF] at C; clear hb)
    | (go_at_call 20; (with_reducible refine (h20 _).mono ?_); rintro X w20 ⟨rfl, hb⟩; replace E := (E.on hb).add w20.heap.size 25 #[.int .i64 0, .int .i64 0, .int .i64 0, .int .i64 0, .int .i64 0, .int .i64 0] rfl; replace C := E.cells; simp [BC, CF] at C; clear hb))
  go_cut [] from 20 (fun wx => Env w wx [⟨w20.heap.size, 25, #[.int .i64 0, .int .i64 0, .int .i64 0, .int .i64 0, .int .i64 0, .int .i64 0]⟩, ⟨w18.heap.size, 25, #[.int .i64 m.a, .int .i64 m.b, .int .i64 m.c, .int .i64 m.d, .int .i64 m.e, .int .i64 m.f]⟩, ⟨w19.heap.size, 25, #[.int .i64 h.a, .int .i64 h.b, .int .i64 h.c, .int .i64 h.d, .int .i64 h.e, .int .i64 h.f]⟩, ⟨w21.heap.size, 25, #[.int .i64 g.a, .int .i64 g.b, .int .i64 g.c, .int .i64 g.d, .int .i64 g.e, .int .i64 g.f]⟩, ⟨w.heap.size + 1, 25, #[.int .i64 y.a, .int .i64 y.b, .int .i64 y.c, .int .i64 y.d, .int .i64 y.e, .int .i64 y.f]⟩, ⟨w.heap.size, 25, #[.int .i64 x.a, .int .i64 x.b, .int .i64 x.c, .int .i64 x.d, .int .i64 x.e, .int .i64 x.f]⟩])
  case first =>
    rcases HH.out with ⟨e1, e2, e3⟩ | ⟨e1, e4, e2, e3⟩ | ⟨e1, e4, e3, h28⟩
    · subst e1 e2 e3
      unfold zB at *
      go_wp2_with (first
        | (go_at_call 27; (with_reducible refine (h27 _ (hS.on (envb E))).mono ?_); rintro X w27 ⟨rfl, hb⟩; replace E := E.on hb; replace C := E.cells; simp [BC, CF] at C; clear hb))
      all_goals go_meet
      all_goals (repeat with_reducible refine Env.drw ?_)
      all_goals exact E
    · subst e1 e2 e3
      unfold zB at *
      have z1 : ((l.length : Int) == 0) = true := by rw [e4]; rfl
      have z2 : decide ((l.length : Int) = 0) = true := by rw [e4]; rfl
      have z3 : (l.length : Int) = 0 := by rw [e4]; rfl
      clear e4
      go_wp2_with (first
        | (go_at_call 27; (with_reducible refine (h27 _ (hS.on (envb E))).mono ?_); rintro X w27 ⟨rfl, hb⟩; replace E := E.on hb; replace C := E.cells; simp [BC, CF] at C; clear hb))
      all_goals go_meet
      all_goals (repeat with_reducible refine Env.drw ?_)
      all_goals exact E
    · subst e1 e3
      have z1 : ((l.length : Int) == 0) = false := by simp; intro hh; simp [hh] at e4
      have z2 : ¬ l.length = 0 := by omega
      have z3 : ¬ l = [] := by intro hh; simp [hh] at e4
      go_upto_region 10 with (go_at_call 27; (with_reducible refine (h27 _ (hS.on (envb E))).mono ?_); rintro X w27 ⟨rfl, hb⟩; replace E := E.on hb; replace C := E.cells; simp [BC, CF] at C; clear hb)
      refine wp_region_plan 7 [(0, true), (1, true), (2, false), (3, true), (4, true), (5, true), (6, true)] (fun W' => Env w W' [⟨w20.heap.size, 25, #[.int .i64 0, .int .i64 0, .int .i64 0, .int .i64 0, .int .i64 0, .int .i64 0]⟩, ⟨w18.heap.size, 25, #[.int .i64 m.a, .int .i64 m.b, .int .i64 m.c, .int .i64 m.d, .int .i64 m.e, .int .i64 m.f]⟩, ⟨w19.heap.size, 25, #[.int .i64 h.a, .int .i64 h.b, .int .i64 h.c, .int .i64 h.d, .int .i64 h.e, .int .i64 h.f]⟩, ⟨w21.heap.size, 25, #[.int .i64 g.a, .int .i64 g.b, .int .i64 g.c, .int .i64 g.d, .int .i64 g.e, .int .i64 g.f]⟩, ⟨w.heap.size + 1, 25, #[.int .i64 y.a, .int .i64 y.b, .int .i64 y.c, .int .i64 y.d, .int .i64 y.e, .int .i64 y.f]⟩, ⟨w.heap.size, 25, #[.int .i64 x.a, .int .i64 x.b, .int .i64 x.c, .int .i64 x.d, .int .i64 x.e, .int .i64 x.f]⟩] ∧ W'.cell? ⟨w21.heap.size, 0, none⟩ = some (.int .i64 g.a) ∧ W'.cell? ⟨w21.heap.size, 1, none⟩ = some (.int .i64 g.b) ∧ W'.cell? ⟨w21.heap.size, 2, none⟩ = some (.int .i64 g.c) ∧ W'.cell? ⟨w21.heap.size, 3, none⟩ = some (.int .i64 g.d) ∧ W'.cell? ⟨w21.heap.size, 4, none⟩ = some (.int .i64 g.e) ∧ W'.cell? ⟨w21.heap.size, 5, none⟩ = some (.int .i64 g.f) ∧ W'.cell? ⟨w19.heap.size, 0, none⟩ = some (.int .i64 h.a) ∧ W'.cell? ⟨w19.heap.size, 1, none⟩ = some (.int .i64 h.b) ∧ W'.cell? ⟨w19.heap.size, 2, none⟩ = some (.int .i64 h.c) ∧ W'.cell? ⟨w19.heap.size, 3, none⟩ = some (.int .i64 h.d) ∧ W'.cell? ⟨w19.heap.size, 4, none⟩ = some (.int .i64 h.e) ∧ W'.cell? ⟨w19.heap.size, 5, none⟩ = some (.int .i64 h.f) ∧ W'.cell? ⟨(w.heap.size + 1), 0, none⟩ = some (.int .i64 y.a) ∧ W'.cell? ⟨(w.heap.size + 1), 1, none⟩ = some (.int .i64 y.b) ∧ W'.cell? ⟨(w.heap.size + 1), 2, none⟩ = some (.int .i64 y.c) ∧ W'.cell? ⟨(w.heap.size + 1), 3, none⟩ = some (.int .i64 y.d) ∧ W'.cell? ⟨(w.heap.size + 1), 4, none⟩ = some (.int .i64 y.e) ∧ W'.cell? ⟨(w.heap.size + 1), 5, none⟩ = some (.int .i64 y.f) ∧ W'.cell? ⟨w.heap.size, 0, none⟩ = some (.int .i64 x.a) ∧ W'.cell? ⟨w.heap.size, 1, none⟩ = some (.int .i64 x.b) ∧ W'.cell? ⟨w.heap.size, 2, none⟩ = some (.int .i64 x.c) ∧ W'.cell? ⟨w.heap.size, 3, none⟩ = some (.int .i64 x.d) ∧ W'.cell? ⟨w.heap.size, 4, none⟩ = some (.int .i64 x.e) ∧ W'.cell? ⟨w.heap.size, 5, none⟩ = some (.int .i64 x.f)) (by kernel_rfl) (by kernel_rfl) (fun _ _ d _ _ h => by cases d <;> exact h) (s_fo E.drw) ?_
      simp only [List.filterMap_cons, List.filterMap_nil, List.getElem?_cons_zero, List.getElem?_cons_succ, Option.map_some, List.drop_succ_cons, List.drop_zero]
      replace E := E.drw
      (first | (refine wpPlan_still (v := ?_) (Or.inl ⟨by rfl, ?_⟩) ?_; rotate_left; (focus (intro W hW; (try dsimp only at hW); go_split_ands; go_simp; try with_reducible rfl)); try simp only [Act.put, List.setIfInBounds_toArray, List.set_cons_zero, List.set_cons_succ]) | (refine wpPlan_still (Or.inr ⟨by rfl, rfl⟩) ?_; try simp only [Act.put, List.setIfInBounds_toArray, List.set_cons_zero, List.set_cons_succ]))
      (first | (refine wpPlan_still (v := ?_) (Or.inl ⟨by rfl, ?_⟩) ?_; rotate_left; (focus (intro W hW; (try dsimp only at hW); go_split_ands; go_simp; try with_reducible rfl)); try simp only [Act.put, List.setIfInBounds_toArray, List.set_cons_zero, List.set_cons_succ]) | (refine wpPlan_still (Or.inr ⟨by rfl, rfl⟩) ?_; try simp only [Act.put, List.setIfInBounds_toArray, List.set_cons_zero, List.set_cons_succ]))
      refine wpPlan_only (fun K hK => ?_)
      try go_simp
      (go_at_call 28; (with_reducible refine (h28 _ (hS.on (envb E))).mono ?_); rintro X wp1 ⟨rfl, hb⟩; replace E := E.on hb; clear hb)
      try go_wp2_with fail
      refine hK.out _ _ (s_fo E) ?_
      clear hK K
      try simp only [Act.put, List.setIfInBounds_toArray, List.set_cons_zero, List.set_cons_succ]
      (first | (refine wpPlan_still (v := ?_) (Or.inl ⟨by rfl, ?_⟩) ?_; rotate_left; (focus (intro W hW; (try dsimp only at hW); go_split_ands; go_simp; try with_reducible rfl)); try simp only [Act.put, List.setIfInBounds_toArray, List.set_cons_zero, List.set_cons_succ]) | (refine wpPlan_still (Or.inr ⟨by rfl, rfl⟩) ?_; try simp only [Act.put, List.setIfInBounds_toArray, List.set_cons_zero, List.set_cons_succ]))
      (first | (refine wpPlan_still (v := ?_) (Or.inl ⟨by rfl, ?_⟩) ?_; rotate_left; (focus (intro W hW; (try dsimp only at hW); go_split_ands; go_simp; try with_reducible rfl)); try simp only [Act.put, List.setIfInBounds_toArray, List.set_cons_zero, List.set_cons_succ]) | (refine wpPlan_still (Or.inr ⟨by rfl, rfl⟩) ?_; try simp only [Act.put, List.setIfInBounds_toArray, List.set_cons_zero, List.set_cons_succ]))
      (first | (refine wpPlan_still (v := ?_) (Or.inl ⟨by rfl, ?_⟩) ?_; rotate_left; (focus (intro W hW; (try dsimp only at hW); go_split_ands; go_simp; try with_reducible rfl)); try simp only [Act.put, List.setIfInBounds_toArray, List.set_cons_zero, List.set_cons_succ]) | (refine wpPlan_still (Or.inr ⟨by rfl, rfl⟩) ?_; try simp only [Act.put, List.setIfInBounds_toArray, List.set_cons_zero, List.set_cons_succ]))
      (first | (refine wpPlan_still (v := ?_) (Or.inl ⟨by rfl, ?_⟩) ?_; rotate_left; (focus (intro W hW; (try dsimp only at hW); go_split_ands; go_simp; try with_reducible rfl)); try simp only [Act.put, List.setIfInBounds_toArray, List.set_cons_zero, List.set_cons_succ]) | (refine wpPlan_still (Or.inr ⟨by rfl, rfl⟩) ?_; try simp only [Act.put, List.setIfInBounds_toArray, List.set_cons_zero, List.set_cons_succ]))
      refine wpPlan_end ?_
      have C := E.cells
      simp [BC, CF] at C
      go_wp2_with fail
      all_goals go_meet
      all_goals (repeat with_reducible refine Env.drw ?_)
      all_goals exact E
  case rest =>
    clear E C HH h10 h26 h21 h19 h18 h20 h27
    have E := hcut
    have C := E.cells
    simp [BC, CF] at C
    go_upto_region 18 with fail
    refine wp_region_plan 11 [(0, true), (2, true), (1, false), (3, false), (4, true), (5, true), (6, true), (8, true), (7, false), (9, false), (10, true)] (fun W' => Env w W' [⟨w20.heap.size, 25, #[.int .i64 0, .int .i64 0, .int .i64 0, .int .i64 0, .int .i64 0, .int .i64 0]⟩, ⟨w18.heap.size, 25, #[.int .i64 m.a, .int .i64 m.b, .int .i64 m.c, .int .i64 m.d, .int .i64 m.e, .int .i64 m.f]⟩, ⟨w19.heap.size, 25, #[.int .i64 h.a, .int .i64 h.b, .int .i64 h.c, .int .i64 h.d, .int .i64 h.e, .int .i64 h.f]⟩, ⟨w21.heap.size, 25, #[.int .i64 g.a, .int .i64 g.b, .int .i64 g.c, .int .i64 g.d, .int .i64 g.e, .int .i64 g.f]⟩, ⟨w.heap.size + 1, 25, #[.int .i64 y.a, .int .i64 y.b, .int .i64 y.c, .int .i64 y.d, .int .i64 y.e, .int .i64 y.f]⟩, ⟨w.heap.size, 25, #[.int .i64 x.a, .int .i64 x.b, .int .i64 x.c, .int .i64 x.d, .int .i64 x.e, .int .i64 x.f]⟩] ∧ W'.cell? ⟨w21.heap.size, 0, none⟩ = some (.int .i64 g.a) ∧ W'.cell? ⟨w21.heap.size, 1, none⟩ = some (.int .i64 g.b) ∧ W'.cell? ⟨w21.heap.size, 2, none⟩ = some (.int .i64 g.c) ∧ W'.cell? ⟨w21.heap.size, 3, none⟩ = some (.int .i64 g.d) ∧ W'.cell? ⟨w21.heap.size, 4, none⟩ = some (.int .i64 g.e) ∧ W'.cell? ⟨w21.heap.size, 5, none⟩ = some (.int .i64 g.f) ∧ W'.cell? ⟨w19.heap.size, 0, none⟩ = some (.int .i64 h.a) ∧ W'.cell? ⟨w19.heap.size, 1, none⟩ = some (.int .i64 h.b) ∧ W'.cell? ⟨w19.heap.size, 2, none⟩ = some (.int .i64 h.c) ∧ W'.cell? ⟨w19.heap.size, 3, none⟩ = some (.int .i64 h.d) ∧ W'.cell? ⟨w19.heap.size, 4, none⟩ = some (.int .i64 h.e) ∧ W'.cell? ⟨w19.heap.size, 5, none⟩ = some (.int .i64 h.f) ∧ W'.cell? ⟨(w.heap.size + 1), 0, none⟩ = some (.int .i64 y.a) ∧ W'.cell? ⟨(w.heap.size + 1), 1, none⟩ = some (.int .i64 y.b) ∧ W'.cell? ⟨(w.heap.size + 1), 2, none⟩ = some (.int .i64 y.c) ∧ W'.cell? ⟨(w.heap.size + 1), 3, none⟩ = some (.int .i64 y.d) ∧ W'.cell? ⟨(w.heap.size + 1), 4, none⟩ = some (.int .i64 y.e) ∧ W'.cell? ⟨(w.heap.size + 1), 5, none⟩ = some (.int .i64 y.f) ∧ W'.cell? ⟨w.heap.size, 0, none⟩ = some (.int .i64 x.a) ∧ W'.cell? ⟨w.heap.size, 1, none⟩ = some (.int .i64 x.b) ∧ W'.cell? ⟨w.heap.size, 2, none⟩ = some (.int .i64 x.c) ∧ W'.cell? ⟨w.heap.size, 3, none⟩ = some (.int .i64 x.d) ∧ W'.cell? ⟨w.heap.size, 4, none⟩ = some (.int .i64 x.e) ∧ W'.cell? ⟨w.heap.size, 5, none⟩ = some (.int .i64 x.f)) (by kernel_rfl) (by kernel_rfl) (fun _ _ d _ _ h => by cases d <;> exact h) (s_fo E.drw) ?_
    simp only [List.filterMap_cons, List.filterMap_nil, List.getElem?_cons_zero, List.getElem?_cons_succ, Option.map_some, List.drop_succ_cons, List.drop_zero]
    replace E := E.drw
    (first | (refine wpPlan_still (v := ?_) (Or.inl ⟨by rfl, ?_⟩) ?_; rotate_left; (focus (intro W hW; (try dsimp only at hW); go_split_ands; go_simp; try with_reducible rfl)); try simp only [Act.put, List.setIfInBounds_toArray, List.set_cons_zero, List.set_cons_succ]) | (refine wpPlan_still (Or.inr ⟨by rfl, rfl⟩) ?_; try simp only [Act.put, List.setIfInBounds_toArray, List.set_cons_zero, List.set_cons_succ]))
    (first | (refine wpPlan_still (v := ?_) (Or.inl ⟨by rfl, ?_⟩) ?_; rotate_left; (focus (intro W hW; (try dsimp only at hW); go_split_ands; go_simp; try with_reducible rfl)); try simp only [Act.put, List.setIfInBounds_toArray, List.set_cons_zero, List.set_cons_succ]) | (refine wpPlan_still (Or.inr ⟨by rfl, rfl⟩) ?_; try simp only [Act.put, List.setIfInBounds_toArray, List.set_cons_zero, List.set_cons_succ]))
    refine wpPlan_only (fun K hK => ?_)
    try go_simp
    (go_at_call 22; (with_reducible refine (h22x _).mono ?_); rintro X wp1 ⟨rfl, hb⟩; replace E := E.on hb; clear hb)
    try go_wp2_with fail
    refine hK.out _ _ (s_fo E) ?_
    clear hK K
    try simp only [Act.put, List.setIfInBounds_toArray, List.set_cons_zero, List.set_cons_succ]
    refine wpPlan_only (fun K hK => ?_)
    try go_simp
    (go_at_call 14; (with_reducible refine (h14x _).mono ?_); rintro X wp1 ⟨rfl, hb⟩; replace E := E.on hb; clear hb)
    try go_wp2_with fail
    refine hK.out _ _ (s_fo E) ?_
    clear hK K
    try simp only [Act.put, List.setIfInBounds_toArray, List.set_cons_zero, List.set_cons_succ]
    (first | (refine wpPlan_still (v := ?_) (Or.inl ⟨by rfl, ?_⟩) ?_; rotate_left; (focus (intro W hW; (try dsimp only at hW); go_split_ands; go_simp; try with_reducible rfl)); try simp only [Act.put, List.setIfInBounds_toArray, List.set_cons_zero, List.set_cons_succ]) | (refine wpPlan_still (Or.inr ⟨by rfl, rfl⟩) ?_; try simp only [Act.put, List.setIfInBounds_toArray, List.set_cons_zero, List.set_cons_succ]))
    (first | (refine wpPlan_still (v := ?_) (Or.inl ⟨by rfl, ?_⟩) ?_; rotate_left; (focus (intro W hW; (try dsimp only at hW); go_split_ands; go_simp; try with_reducible rfl)); try simp only [Act.put, List.setIfInBounds_toArray, List.set_cons_zero, List.set_cons_succ]) | (refine wpPlan_still (Or.inr ⟨by rfl, rfl⟩) ?_; try simp only [Act.put, List.setIfInBounds_toArray, List.set_cons_zero, List.set_cons_succ]))
    (first | (refine wpPlan_still (v := ?_) (Or.inl ⟨by rfl, ?_⟩) ?_; rotate_left; (focus (intro W hW; (try dsimp only at hW); go_split_ands; go_simp; try with_reducible rfl)); try simp only [Act.put, List.setIfInBounds_toArray, List.set_cons_zero, List.set_cons_succ]) | (refine wpPlan_still (Or.inr ⟨by rfl, rfl⟩) ?_; try simp only [Act.put, List.setIfInBounds_toArray, List.set_cons_zero, List.set_cons_succ]))
    (first | (refine wpPlan_still (v := ?_) (Or.inl ⟨by rfl, ?_⟩) ?_; rotate_left; (focus (intro W hW; (try dsimp only at hW); go_split_ands; go_simp; try with_reducible rfl)); try simp only [Act.put, List.setIfInBounds_toArray, List.set_cons_zero, List.set_cons_succ]) | (refine wpPlan_still (Or.inr ⟨by rfl, rfl⟩) ?_; try simp only [Act.put, List.setIfInBounds_toArray, List.set_cons_zero, List.set_cons_succ]))
    refine wpPlan_only (fun K hK => ?_)
    try go_simp
    (go_at_call 22; (with_reducible refine (h22y _).mono ?_); rintro X wp1 ⟨rfl, hb⟩; replace E := E.on hb; clear hb)
    try go_wp2_with fail
    refine hK.out _ _ (s_fo E) ?_
    clear hK K
    try simp only [Act.put, List.setIfInBounds_toArray, List.set_cons_zero, List.set_cons_succ]
    refine wpPlan_only (fun K hK => ?_)
    try go_simp
    (go_at_call 14; (with_reducible refine (h14y _).mono ?_); rintro X wp1 ⟨rfl, hb⟩; replace E := E.on hb; clear hb)
    try go_wp2_with fail
    refine hK.out _ _ (s_fo E) ?_
    clear hK K
    try simp only [Act.put, List.setIfInBounds_toArray, List.set_cons_zero, List.set_cons_succ]
    (first | (refine wpPlan_still (v := ?_) (Or.inl ⟨by rfl, ?_⟩) ?_; rotate_left; (focus (intro W hW; (try dsimp only at hW); go_split_ands; go_simp; try with_reducible rfl)); try simp only [Act.put, List.setIfInBounds_toArray, List.set_cons_zero, List.set_cons_succ]) | (refine wpPlan_still (Or.inr ⟨by rfl, rfl⟩) ?_; try simp only [Act.put, List.setIfInBounds_toArray, List.set_cons_zero, List.set_cons_succ]))
    refine wpPlan_end ?_
    have C := E.cells
    simp [BC, CF] at C
    go_upto_block 1 with fail
    go_cut [] from 20 (fun wx => Env w wx [⟨w20.heap.size, 25, #[.int .i64 0, .int .i64 0, .int .i64 0, .int .i64 0, .int .i64 0, .int .i64 0]⟩, ⟨w18.heap.size, 25, #[.int .i64 m.a, .int .i64 m.b, .int .i64 m.c, .int .i64 m.d, .int .i64 m.e, .int .i64 m.f]⟩, ⟨w19.heap.size, 25, #[.int .i64 h.a, .int .i64 h.b, .int .i64 h.c, .int .i64 h.d, .int .i64 h.e, .int .i64 h.f]⟩, ⟨w21.heap.size, 25, #[.int .i64 g.a, .int .i64 g.b, .int .i64 g.c, .int .i64 g.d, .int .i64 g.e, .int .i64 g.f]⟩, ⟨w.heap.size + 1, 25, #[.int .i64 y.a, .int .i64 y.b, .int .i64 y.c, .int .i64 y.d, .int .i64 y.e, .int .i64 y.f]⟩, ⟨w.heap.size, 25, #[.int .i64 x.a, .int .i64 x.b, .int .i64 x.c, .int .i64 x.d, .int .i64 x.e, .int .i64 x.f]⟩])
    case first =>
      rcases HG.out with ⟨e1, e2, e3⟩ | ⟨e1, e4, e2, e3⟩ | ⟨e1, e4, e2, e3⟩ | ⟨e1, e4, e2, e3, gb, h29, h14g⟩ | ⟨e1, e4, e3, h29, h14g⟩
      · subst e1 e2 e3
        unfold zB at *
        go_wp2_with (first
          | (go_at_call 14; (with_reducible refine (h14x _).mono ?_); rintro X w14 ⟨rfl, hb⟩; replace E := E.on hb; replace C := E.cells; simp [BC, CF] at C; clear hb))
        all_goals go_meet
        all_goals (repeat with_reducible refine Env.drw ?_)
        all_goals exact E
      · subst e1 e2 e3
        unfold zB at *
        have d1 : decide (n < 0) = true := decide_eq_true e4
        go_wp2_with (first
          | (go_at_call 14; (with_reducible refine (h14x _).mono ?_); rintro X w14 ⟨rfl, hb⟩; replace E := E.on hb; replace C := E.cells; simp [BC, CF] at C; clear hb))
        all_goals go_meet
        all_goals (repeat with_reducible refine Env.drw ?_)
        all_goals exact E
      · subst e1 e2 e3
        unfold zB at *
        have d1 : decide (n < 0) = false := decide_eq_false (by omega)
        have d2 : decide (1048576 < n) = true := decide_eq_true e4
        go_wp2_with (first
          | (go_at_call 14; (with_reducible refine (h14x _).mono ?_); rintro X w14 ⟨rfl, hb⟩; replace E := E.on hb; replace C := E.cells; simp [BC, CF] at C; clear hb))
        all_goals go_meet
        all_goals (repeat with_reducible refine Env.drw ?_)
        all_goals exact E
      · subst e1 e2 e3
        unfold zB at *
        have d1 : decide (n < 0) = false := decide_eq_false (by omega)
        have d2 : decide (1048576 < n) = false := decide_eq_false (by omega)
        clear e4
        go_wp2_with (first
          | (go_at_call 14; (with_reducible refine (h14x _).mono ?_); rintro X w14 ⟨rfl, hb⟩; replace E := E.on hb; replace C := E.cells; simp [BC, CF] at C; clear hb)
          | (go_at_call 14; (with_reducible refine (h14g _).mono ?_); rintro X w15 ⟨rfl, hb⟩; replace E := E.on hb; replace C := E.cells; simp [BC, CF] at C; clear hb)
          | (go_at_call 29; (with_reducible refine (h29 _).mono ?_); rintro X w29 ⟨rfl, hb⟩; replace E := E.on hb; replace C := E.cells; simp [BC, CF] at C; clear hb))
        all_goals go_meet
        all_goals (repeat with_reducible refine Env.drw ?_)
        all_goals exact E
      · subst e1 e3
        have d1 : decide (n < 0) = false := decide_eq_false (by omega)
        have d2 : decide (1048576 < n) = false := decide_eq_false (by omega)
        clear e4
        go_upto_region 20 with (first
          | (go_at_call 14; (with_reducible refine (h14x _).mono ?_); rintro X w14 ⟨rfl, hb⟩; replace E := E.on hb; replace C := E.cells; simp [BC, CF] at C; clear hb)
          | (go_at_call 14; (with_reducible refine (h14g _).mono ?_); rintro X w15 ⟨rfl, hb⟩; replace E := E.on hb; replace C := E.cells; simp [BC, CF] at C; clear hb)
          | (go_at_call 29; (with_reducible refine (h29 _).mono ?_); rintro X w29 ⟨rfl, hb⟩; replace E := E.on hb; replace C := E.cells; simp [BC, CF] at C; clear hb))
        refine wp_region_plan 8 [(0, true), (1, true), (2, true), (3, false), (4, true), (5, true), (6, true), (7, true)] (fun W' => Env w W' [⟨w20.heap.size, 25, #[.int .i64 0, .int .i64 0, .int .i64 0, .int .i64 0, .int .i64 0, .int .i64 0]⟩, ⟨w18.heap.size, 25, #[.int .i64 m.a, .int .i64 m.b, .int .i64 m.c, .int .i64 m.d, .int .i64 m.e, .int .i64 m.f]⟩, ⟨w19.heap.size, 25, #[.int .i64 h.a, .int .i64 h.b, .int .i64 h.c, .int .i64 h.d, .int .i64 h.e, .int .i64 h.f]⟩, ⟨w21.heap.size, 25, #[.int .i64 g.a, .int .i64 g.b, .int .i64 g.c, .int .i64 g.d, .int .i64 g.e, .int .i64 g.f]⟩, ⟨w.heap.size + 1, 25, #[.int .i64 y.a, .int .i64 y.b, .int .i64 y.c, .int .i64 y.d, .int .i64 y.e, .int .i64 y.f]⟩, ⟨w.heap.size, 25, #[.int .i64 x.a, .int .i64 x.b, .int .i64 x.c, .int .i64 x.d, .int .i64 x.e, .int .i64 x.f]⟩] ∧ W'.cell? ⟨w21.heap.size, 0, none⟩ = some (.int .i64 g.a) ∧ W'.cell? ⟨w21.heap.size, 1, none⟩ = some (.int .i64 g.b) ∧ W'.cell? ⟨w21.heap.size, 2, none⟩ = some (.int .i64 g.c) ∧ W'.cell? ⟨w21.heap.size, 3, none⟩ = some (.int .i64 g.d) ∧ W'.cell? ⟨w21.heap.size, 4, none⟩ = some (.int .i64 g.e) ∧ W'.cell? ⟨w21.heap.size, 5, none⟩ = some (.int .i64 g.f) ∧ W'.cell? ⟨w19.heap.size, 0, none⟩ = some (.int .i64 h.a) ∧ W'.cell? ⟨w19.heap.size, 1, none⟩ = some (.int .i64 h.b) ∧ W'.cell? ⟨w19.heap.size, 2, none⟩ = some (.int .i64 h.c) ∧ W'.cell? ⟨w19.heap.size, 3, none⟩ = some (.int .i64 h.d) ∧ W'.cell? ⟨w19.heap.size, 4, none⟩ = some (.int .i64 h.e) ∧ W'.cell? ⟨w19.heap.size, 5, none⟩ = some (.int .i64 h.f) ∧ W'.cell? ⟨(w.heap.size + 1), 0, none⟩ = some (.int .i64 y.a) ∧ W'.cell? ⟨(w.heap.size + 1), 1, none⟩ = some (.int .i64 y.b) ∧ W'.cell? ⟨(w.heap.size + 1), 2, none⟩ = some (.int .i64 y.c) ∧ W'.cell? ⟨(w.heap.size + 1), 3, none⟩ = some (.int .i64 y.d) ∧ W'.cell? ⟨(w.heap.size + 1), 4, none⟩ = some (.int .i64 y.e) ∧ W'.cell? ⟨(w.heap.size + 1), 5, none⟩ = some (.int .i64 y.f) ∧ W'.cell? ⟨w.heap.size, 0, none⟩ = some (.int .i64 x.a) ∧ W'.cell? ⟨w.heap.size, 1, none⟩ = some (.int .i64 x.b) ∧ W'.cell? ⟨w.heap.size, 2, none⟩ = some (.int .i64 x.c) ∧ W'.cell? ⟨w.heap.size, 3, none⟩ = some (.int .i64 x.d) ∧ W'.cell? ⟨w.heap.size, 4, none⟩ = some (.int .i64 x.e) ∧ W'.cell? ⟨w.heap.size, 5, none⟩ = some (.int .i64 x.f)) (by kernel_rfl) (by kernel_rfl) (fun _ _ d _ _ h => by cases d <;> exact h) (s_fo E.drw) ?_
        simp only [List.filterMap_cons, List.filterMap_nil, List.getElem?_cons_zero, List.getElem?_cons_succ, Option.map_some, List.drop_succ_cons, List.drop_zero]
        replace E := E.drw
        (first | (refine wpPlan_still (v := ?_) (Or.inl ⟨by rfl, ?_⟩) ?_; rotate_left; (focus (intro W hW; (try dsimp only at hW); go_split_ands; go_simp; try with_reducible rfl)); try simp only [Act.put, List.setIfInBounds_toArray, List.set_cons_zero, List.set_cons_succ]) | (refine wpPlan_still (Or.inr ⟨by rfl, rfl⟩) ?_; try simp only [Act.put, List.setIfInBounds_toArray, List.set_cons_zero, List.set_cons_succ]))
        (first | (refine wpPlan_still (v := ?_) (Or.inl ⟨by rfl, ?_⟩) ?_; rotate_left; (focus (intro W hW; (try dsimp only at hW); go_split_ands; go_simp; try with_reducible rfl)); try simp only [Act.put, List.setIfInBounds_toArray, List.set_cons_zero, List.set_cons_succ]) | (refine wpPlan_still (Or.inr ⟨by rfl, rfl⟩) ?_; try simp only [Act.put, List.setIfInBounds_toArray, List.set_cons_zero, List.set_cons_succ]))
        (first | (refine wpPlan_still (v := ?_) (Or.inl ⟨by rfl, ?_⟩) ?_; rotate_left; (focus (intro W hW; (try dsimp only at hW); go_split_ands; go_simp; try with_reducible rfl)); try simp only [Act.put, List.setIfInBounds_toArray, List.set_cons_zero, List.set_cons_succ]) | (refine wpPlan_still (Or.inr ⟨by rfl, rfl⟩) ?_; try simp only [Act.put, List.setIfInBounds_toArray, List.set_cons_zero, List.set_cons_succ]))
        refine wpPlan_only (fun K hK => ?_)
        try go_simp
        (go_at_call 29; (with_reducible refine (h29 _).mono ?_); rintro X wp1 ⟨rfl, hb⟩; replace E := E.on hb; clear hb)
        try go_wp2_with fail
        refine hK.out _ _ (s_fo E) ?_
        clear hK K
        try simp only [Act.put, List.setIfInBounds_toArray, List.set_cons_zero, List.set_cons_succ]
        (first | (refine wpPlan_still (v := ?_) (Or.inl ⟨by rfl, ?_⟩) ?_; rotate_left; (focus (intro W hW; (try dsimp only at hW); go_split_ands; go_simp; try with_reducible rfl)); try simp only [Act.put, List.setIfInBounds_toArray, List.set_cons_zero, List.set_cons_succ]) | (refine wpPlan_still (Or.inr ⟨by rfl, rfl⟩) ?_; try simp only [Act.put, List.setIfInBounds_toArray, List.set_cons_zero, List.set_cons_succ]))
        (first | (refine wpPlan_still (v := ?_) (Or.inl ⟨by rfl, ?_⟩) ?_; rotate_left; (focus (intro W hW; (try dsimp only at hW); go_split_ands; go_simp; try with_reducible rfl)); try simp only [Act.put, List.setIfInBounds_toArray, List.set_cons_zero, List.set_cons_succ]) | (refine wpPlan_still (Or.inr ⟨by rfl, rfl⟩) ?_; try simp only [Act.put, List.setIfInBounds_toArray, List.set_cons_zero, List.set_cons_succ]))
        (first | (refine wpPlan_still (v := ?_) (Or.inl ⟨by rfl, ?_⟩) ?_; rotate_left; (focus (intro W hW; (try dsimp only at hW); go_split_ands; go_simp; try with_reducible rfl)); try simp only [Act.put, List.setIfInBounds_toArray, List.set_cons_zero, List.set_cons_succ]) | (refine wpPlan_still (Or.inr ⟨by rfl, rfl⟩) ?_; try simp only [Act.put, List.setIfInBounds_toArray, List.set_cons_zero, List.set_cons_succ]))
        (first | (refine wpPlan_still (v := ?_) (Or.inl ⟨by rfl, ?_⟩) ?_; rotate_left; (focus (intro W hW; (try dsimp only at hW); go_split_ands; go_simp; try with_reducible rfl)); try simp only [Act.put, List.setIfInBounds_toArray, List.set_cons_zero, List.set_cons_succ]) | (refine wpPlan_still (Or.inr ⟨by rfl, rfl⟩) ?_; try simp only [Act.put, List.setIfInBounds_toArray, List.set_cons_zero, List.set_cons_succ]))
        refine wpPlan_end ?_
        have C := E.cells
        simp [BC, CF] at C
        go_wp2_with fail
        all_goals go_meet
        all_goals (repeat with_reducible refine Env.drw ?_)
        all_goals exact E
    case rest =>
      clear E C HG
      have E := hcut
      have C := E.cells
      simp [BC, CF] at C
      rcases HM.out with ⟨e1, e2, e3, e4, e5⟩ | ⟨e1, e0, e2, e3, e4, e5⟩ | ⟨e1, e0, e5, e3, h30, h31⟩ | ⟨e1, e0, e5, e3, e2, h30, h31⟩
      · subst e1 e2 e3 e4 e5
        unfold zB at *
        go_wp2_with (first
          | (go_at_call 14; (with_reducible refine (h14x _).mono ?_); rintro X w14 ⟨rfl, hb⟩; replace E := E.on hb; replace C := E.cells; simp [BC, CF] at C; clear hb)
          | (go_at_call 14; (with_reducible refine (h14y _).mono ?_); rintro X w15 ⟨rfl, hb⟩; replace E := E.on hb; replace C := E.cells; simp [BC, CF] at C; clear hb))
        go_ret
        exact ⟨rfl, E.1⟩
      · subst e0 e1 e2 e3 e4 e5
        unfold zB at *
        go_wp2_with (first
          | (go_at_call 14; (with_reducible refine (h14x _).mono ?_); rintro X w14 ⟨rfl, hb⟩; replace E := E.on hb; replace C := E.cells; simp [BC, CF] at C; clear hb)
          | (go_at_call 14; (with_reducible refine (h14y _).mono ?_); rintro X w15 ⟨rfl, hb⟩; replace E := E.on hb; replace C := E.cells; simp [BC, CF] at C; clear hb))
        go_ret
        exact ⟨rfl, E.1⟩
      · subst e0 e1 e3 e5
        go_wp2_with (first
          | (go_at_call 14; (with_reducible refine (h14x _).mono ?_); rintro X w14 ⟨rfl, hb⟩; replace E := E.on hb; replace C := E.cells; simp [BC, CF] at C; clear hb)
          | (go_at_call 14; (with_reducible refine (h14y _).mono ?_); rintro X w15 ⟨rfl, hb⟩; replace E := E.on hb; replace C := E.cells; simp [BC, CF] at C; clear hb)
          | (go_at_call 30; (with_reducible refine (h30 _).mono ?_); rintro X w30 ⟨rfl, hb⟩; replace E := (E.on hb).add w30.heap.size 25 #[.int .i64 m.a, .int .i64 m.b, .int .i64 m.c, .int .i64 m.d, .int .i64 m.e, .int .i64 m.f] rfl; replace C := E.cells; simp [BC, CF] at C; clear hb)
          | (go_at_call 31; (with_reducible refine (h31 _).mono ?_); rintro X w31 ⟨rfl, hb⟩; replace E := E.on hb; replace C := E.cells; simp [BC, CF] at C; clear hb))
        go_ret
        exact ⟨by simp, E.1⟩
      · subst e0 e1 e2 e3 e5
        unfold zB at *
        go_wp2_with (first
          | (go_at_call 14; (with_reducible refine (h14x _).mono ?_); rintro X w14 ⟨rfl, hb⟩; replace E := E.on hb; replace C := E.cells; simp [BC, CF] at C; clear hb)
          | (go_at_call 14; (with_reducible refine (h14y _).mono ?_); rintro X w15 ⟨rfl, hb⟩; replace E := E.on hb; replace C := E.cells; simp [BC, CF] at C; clear hb)
          | (go_at_call 30; (with_reducible refine (h30 _).mono ?_); rintro X w30 ⟨rfl, hb⟩; replace E := (E.on hb).add w30.heap.size 25 #[.int .i64 0, .int .i64 0, .int .i64 0, .int .i64 0, .int .i64 0, .int .i64 0] rfl; replace C := E.cells; simp [BC, CF] at C; clear hb)
          | (go_at_call 31; (with_reducible refine (h31 _).mono ?_); rintro X w31 ⟨rfl, hb⟩; replace E := E.on hb; replace C := E.cells; simp [BC, CF] at C; clear hb))
        go_ret
        exact ⟨by simp, E.1⟩
end Go.Proofs.Ytffigpkkdljaiaa
