/- BoxForms: the whole walk. -/
import Derived.Test.YtffigpkkdljaiaaFo
import Derived.Test.YtffigpkkdljaiaaAl
namespace Go.Proofs.Ytffigpkkdljaiaa
open Go.ChangeShapes Go.WideShapes Go.ChangeAt Go.RowKit
set_option linter.unusedVariables false
set_option linter.unusedSimpArgs false

set_option maxHeartbeats 8000000 in
set_option maxRecDepth 100000 in
theorem forms_many (x y : Bx) (n : Int) (p : Option Addr) (l : List Bx) (cap : Nat) (w : World) (hm : manyB l.length = true) :
    Calls Try.prog 7 #[x.val, y.val, .int .i64 n, .slice p l.length cap] w fun e w' => e = .returned (.bool true) ∧ Below w.heap.size w w' := by
  have E := ((Env.nil w).add w.heap.size 25 #[.int .i64 x.a, .int .i64 x.b, .int .i64 x.c, .int .i64 x.d, .int .i64 x.e, .int .i64 x.f] rfl).add (w.heap.size + 1) 25 #[.int .i64 y.a, .int .i64 y.b, .int .i64 y.c, .int .i64 y.d, .int .i64 y.e, .int .i64 y.f] (by simp)
  have h10 := fun W => awake_any W
  have h26 := fun W => many_any p l.length cap W
  rw [hm] at h26
  clear hm
  have C := E.cells
  simp [BC, CF] at C
  unfold Bx.val at *
  go_enter Try.func7, Try.ntmps7
  go_wp2_with (first
    | (go_at_call 10; (with_reducible refine (h10 _).mono ?_); rintro X w10 ⟨rfl, hb⟩; replace E := E.on hb; replace C := E.cells; simp [BC, CF] at C; clear hb)
    | (go_at_call 26; (with_reducible refine (h26 _).mono ?_); rintro X w26 ⟨rfl, hb⟩; replace E := E.on hb; replace C := E.cells; simp [BC, CF] at C; clear hb))
  go_ret
  exact ⟨rfl, E.1⟩
set_option maxHeartbeats 8000000 in
set_option maxRecDepth 100000 in
theorem Meet_argx (x y : Bx) (w : World) (h : x.ok = false) : Calls Try.prog 18 #[x.val, y.val] w fun E w' => E = .returned (.tuple #[zB.val, .int .i64 1]) ∧ Below w.heap.size w w' := by
  have E := (((Env.nil w).add w.heap.size 25 #[.int .i64 x.a, .int .i64 x.b, .int .i64 x.c, .int .i64 x.d, .int .i64 x.e, .int .i64 x.f] rfl).add (w.heap.size + 1) 25 #[.int .i64 y.a, .int .i64 y.b, .int .i64 y.c, .int .i64 y.d, .int .i64 y.e, .int .i64 y.f] (by simp)).add (w.heap.size + 1 + 1) 25 #[.int .i64 0, .int .i64 0, .int .i64 0, .int .i64 0, .int .i64 0, .int .i64 0] (by simp)
  have vA : ∀ W, Calls Try.prog 22 #[x.val] W fun E w' => E = .returned (.bool x.ok) ∧ Below W.heap.size W w' := fun W => valid_any _ _ _ _ _ _ W
  have vB : ∀ W, Calls Try.prog 22 #[y.val] W fun E w' => E = .returned (.bool y.ok) ∧ Below W.heap.size W w' := fun W => valid_any _ _ _ _ _ _ W
  rw [h] at vA
  clear h
  unfold zB Bx.val at *
  dsimp only at *
  have C := E.cells
  simp [BC, CF] at C
  go_enter Try.func18, Try.ntmps18
  go_wp2_with (first
    | (go_at_call 22; (with_reducible refine (vA _).mono ?_); rintro X w2 ⟨rfl, hb⟩; replace E := E.on hb; replace C := E.cells; simp [BC, CF] at C; clear hb))
  refine bodyPost_ret (v := .tuple #[.agg #[.int .i64 0, .int .i64 0, .int .i64 0, .int .i64 0, .int .i64 0, .int .i64 0], .int .i64 1]) (by simp [results, Try.results18, go_sem, C]) rfl ⟨rfl, ?_⟩
  exact (E.six 0 rfl).1
set_option maxHeartbeats 8000000 in
set_option maxRecDepth 100000 in
theorem Meet_argy (x y : Bx) (w : World) (h : x.ok = true) (k : y.ok = false) : Calls Try.prog 18 #[x.val, y.val] w fun E w' => E = .returned (.tuple #[zB.val, .int .i64 1]) ∧ Below w.heap.size w w' := by
  have E := (((Env.nil w).add w.heap.size 25 #[.int .i64 x.a, .int .i64 x.b, .int .i64 x.c, .int .i64 x.d, .int .i64 x.e, .int .i64 x.f] rfl).add (w.heap.size + 1) 25 #[.int .i64 y.a, .int .i64 y.b, .int .i64 y.c, .int .i64 y.d, .int .i64 y.e, .int .i64 y.f] (by simp)).add (w.heap.size + 1 + 1) 25 #[.int .i64 0, .int .i64 0, .int .i64 0, .int .i64 0, .int .i64 0, .int .i64 0] (by simp)
  have vA : ∀ W, Calls Try.prog 22 #[x.val] W fun E w' => E = .returned (.bool x.ok) ∧ Below W.heap.size W w' := fun W => valid_any _ _ _ _ _ _ W
  have vB : ∀ W, Calls Try.prog 22 #[y.val] W fun E w' => E = .returned (.bool y.ok) ∧ Below W.heap.size W w' := fun W => valid_any _ _ _ _ _ _ W
  rw [h] at vA
  rw [k] at vB
  clear h k
  unfold zB Bx.val at *
  dsimp only at *
  have C := E.cells
  simp [BC, CF] at C
  go_enter Try.func18, Try.ntmps18
  go_wp2_with (first
    | (go_at_call 22; (with_reducible refine (vA _).mono ?_); rintro X w2 ⟨rfl, hb⟩; replace E := E.on hb; replace C := E.cells; simp [BC, CF] at C; clear hb)
    | (go_at_call 22; (with_reducible refine (vB _).mono ?_); rintro X w3 ⟨rfl, hb⟩; replace E := E.on hb; replace C := E.cells; simp [BC, CF] at C; clear hb))
  refine bodyPost_ret (v := .tuple #[.agg #[.int .i64 0, .int .i64 0, .int .i64 0, .int .i64 0, .int .i64 0, .int .i64 0], .int .i64 1]) (by simp [results, Try.results18, go_sem, C]) rfl ⟨rfl, ?_⟩
  exact (E.six 0 rfl).1
theorem Meet_arg (x y : Bx) (w : World) (h : x.ok = false ∨ y.ok = false) : Calls Try.prog 18 #[x.val, y.val] w fun E w' => E = .returned (.tuple #[zB.val, .int .i64 1]) ∧ Below w.heap.size w w' := by
  cases hx : x.ok
  · exact Meet_argx x y w hx
  · exact Meet_argy x y w hx (by rcases h with h | h; rw [hx] at h; cases h; exact h)
theorem forms_walk (x y : Bx) (n : Int) (p : Option Addr) (l : List Bx) (cap : Nat) (w : World) (hn : I64 n) (hS : Sl w p l) (hcap : l.length ≤ cap) :
    Calls Try.prog 7 #[x.val, y.val, .int .i64 n, .slice p l.length cap] w fun e w' => e = .returned (.bool true) ∧ Below w.heap.size w w' := by
  cases hm : manyB l.length
  case true => exact forms_many x y n p l cap w hm
  case false =>
  have h26 := fun W => many_any p l.length cap W
  rw [hm] at h26
  have hA := fun W => rvalid_any x W
  have hB := fun W => rvalid_any y W
  have vA : ∀ W, Calls Try.prog 22 #[x.val] W fun E w' => E = .returned (.bool x.ok) ∧ Below W.heap.size W w' := fun W => valid_any _ _ _ _ _ _ W
  have vB : ∀ W, Calls Try.prog 22 #[y.val] W fun E w' => E = .returned (.bool y.ok) ∧ Below W.heap.size W w' := fun W => valid_any _ _ _ _ _ _ W
  have h27 := fun W h => rall_any p l cap W h
  -- the hull
  obtain ⟨h, he, h19, HH⟩ : ∃ (h : Bx) (he : Int), (∀ W, Sl W p l → Calls Try.prog 19 #[.slice p l.length cap] W fun E w' => E = .returned (.tuple #[h.val, .int .i64 he]) ∧ Below W.heap.size W w') ∧
      ((l.all Bx.ok = false ∧ h = zB ∧ he = 1) ∨ (l.all Bx.ok = true ∧ l.length = 0 ∧ h = zB ∧ he = 14) ∨ (l.all Bx.ok = true ∧ 0 < l.length ∧ he = 0 ∧ ∀ W, Sl W p l → Calls Try.prog 28 #[.slice p l.length cap] W fun E w' => E = .returned h.val ∧ Below W.heap.size W w')) := by
    cases ha : l.all Bx.ok
    · exact ⟨zB, 1, fun W hW => Hull_arg p l cap W hW ha, .inl ⟨rfl, rfl, rfl⟩⟩
    · rcases l with _ | ⟨z, l⟩
      · exact ⟨zB, 14, fun W hW => Hull_none p cap W hW, .inr (.inl ⟨rfl, rfl, rfl, rfl⟩)⟩
      · rcases p with _ | a
        · have := hS.1 rfl; cases this
        · exact ⟨l.foldl hullB z, 0, fun W hW => Hull_ok a z l cap W hW ha (by simpa using hcap), .inr (.inr ⟨rfl, by simp, rfl, fun W hW => rhull_in a z l cap W hW⟩)⟩
  -- the grown box
  obtain ⟨g, ge, h21, HG⟩ : ∃ (g : Bx) (ge : Int), (∀ W, Calls Try.prog 21 #[x.val, .int .i64 n] W fun E w' => E = .returned (.tuple #[g.val, .int .i64 ge]) ∧ Below W.heap.size W w') ∧
      ((x.ok = false ∧ g = zB ∧ ge = 1) ∨ (x.ok = true ∧ n < 0 ∧ g = zB ∧ ge = 2) ∨ (x.ok = true ∧ 1048576 < n ∧ g = zB ∧ ge = 2) ∨ (x.ok = true ∧ (0 ≤ n ∧ n ≤ 1048576) ∧ g = zB ∧ ge = 2 ∧ ∃ gb : Bx, (∀ W, Calls Try.prog 29 #[x.val, .int .i64 n] W fun E w' => E = .returned gb.val ∧ Below W.heap.size W w') ∧ (∀ W, Calls Try.prog 14 #[gb.val] W fun E w' => E = .returned (.bool false) ∧ Below W.heap.size W w')) ∨
      (x.ok = true ∧ (0 ≤ n ∧ n ≤ 1048576) ∧ ge = 0 ∧ (∀ W, Calls Try.prog 29 #[x.val, .int .i64 n] W fun E w' => E = .returned g.val ∧ Below W.heap.size W w') ∧ (∀ W, Calls Try.prog 14 #[g.val] W fun E w' => E = .returned (.bool true) ∧ Below W.heap.size W w'))) := by
    cases hx : x.ok
    · exact ⟨zB, 1, fun W => Grown_arg x n W hx, .inl ⟨rfl, rfl, rfl⟩⟩
    · by_cases h0 : n < 0
      · exact ⟨zB, 2, fun W => Grown_rng x n W hx (.inl (.inl h0)), .inr (.inl ⟨rfl, h0, rfl, rfl⟩)⟩
      · by_cases h1 : 1048576 < n
        · exact ⟨zB, 2, fun W => Grown_rng x n W hx (.inl (.inr h1)), .inr (.inr (.inl ⟨rfl, h1, rfl, rfl⟩))⟩
        · have h29 := fun W => rgrown_any x n W hx (by omega) (by omega)
          have h14 := fun W => rvalid_any (growB x n) W
          cases hg : (growB x n).ok
          · rw [hg] at h14
            exact ⟨zB, 2, fun W => Grown_rng x n W hx (.inr hg), .inr (.inr (.inr (.inl ⟨rfl, by omega, rfl, rfl, growB x n, h29, h14⟩)))⟩
          · rw [hg] at h14
            exact ⟨growB x n, 0, fun W => Grown_ok x n W hx (by omega) (by omega) hg, .inr (.inr (.inr (.inr ⟨rfl, by omega, rfl, h29, h14⟩)))⟩
  -- what both have in common
  obtain ⟨m, me, is, je, h18, h20, HM⟩ : ∃ (m : Bx) (me : Int) (is : Bool) (je : Int), (∀ W, Calls Try.prog 18 #[x.val, y.val] W fun E w' => E = .returned (.tuple #[m.val, .int .i64 me]) ∧ Below W.heap.size W w') ∧ (∀ W, Calls Try.prog 20 #[x.val, y.val] W fun E w' => E = .returned (.tuple #[.bool is, .int .i64 je]) ∧ Below W.heap.size W w') ∧
      ((x.ok = false ∧ m = zB ∧ me = 1 ∧ is = false ∧ je = 1) ∨ (x.ok = true ∧ y.ok = false ∧ m = zB ∧ me = 1 ∧ is = false ∧ je = 1) ∨ (x.ok = true ∧ y.ok = true ∧ je = 0 ∧ me = 0 ∧ (∀ W, Calls Try.prog 30 #[x.val, y.val] W fun E w' => E = .returned (.tuple #[m.val, .bool true]) ∧ Below W.heap.size W w') ∧ (∀ W, Calls Try.prog 31 #[x.val, y.val] W fun E w' => E = .returned (.bool is) ∧ Below W.heap.size W w')) ∨
      (x.ok = true ∧ y.ok = true ∧ je = 0 ∧ me = 12 ∧ m = zB ∧ (∀ W, Calls Try.prog 30 #[x.val, y.val] W fun E w' => E = .returned (.tuple #[zB.val, .bool false]) ∧ Below W.heap.size W w') ∧ (∀ W, Calls Try.prog 31 #[x.val, y.val] W fun E w' => E = .returned (.bool is) ∧ Below W.heap.size W w'))) := by
    cases hx : x.ok
    · exact ⟨zB, 1, false, 1, fun W => Meet_arg x y W (.inl hx), fun W => Con_arg x y W (.inl hx), .inl ⟨rfl, rfl, rfl, rfl, rfl⟩⟩
    · cases hy : y.ok
      · exact ⟨zB, 1, false, 1, fun W => Meet_arg x y W (.inr hy), fun W => Con_arg x y W (.inr hy), .inr (.inl ⟨rfl, rfl, rfl, rfl, rfl, rfl⟩)⟩
      · have h30 := fun W => rmeet_any x y W hx hy
        have h31 := fun W => rcon_any x y W hx hy
        have h20 := fun W => Con_ok x y W hx hy
        by_cases hm : (meetB x y).ok = true
        · simp only [if_pos hm] at h30
          exact ⟨meetB x y, 0, conB x y, 0, fun W => Meet_ok x y W hx hy hm, h20, .inr (.inr (.inl ⟨rfl, rfl, rfl, rfl, h30, h31⟩))⟩
        · simp only [if_neg hm] at h30
          exact ⟨zB, 12, conB x y, 0, fun W => Meet_none x y W hx hy (by simpa using hm), h20, .inr (.inr (.inr ⟨rfl, rfl, rfl, rfl, rfl, h30, h31⟩))⟩
  exact forms_main x y n p l cap w g h m ge he me je is (l.all Bx.ok) x.ok y.ok hS h26 h21 h19 h18 h20 h27 vA vB hA hB HH HG HM
end Go.Proofs.Ytffigpkkdljaiaa
