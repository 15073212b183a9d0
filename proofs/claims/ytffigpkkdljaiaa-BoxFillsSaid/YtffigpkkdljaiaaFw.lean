/- BoxFills: the whole walk. -/
import Derived.Test.YtffigpkkdljaiaaFtt
import Derived.Test.YtffigpkkdljaiaaFtf
import Derived.Test.YtffigpkkdljaiaaFft
import Derived.Test.YtffigpkkdljaiaaFff
import Derived.Test.YtffigpkkdljaiaaLn0
namespace Go.Proofs.Ytffigpkkdljaiaa
open Go.ChangeShapes Go.WideShapes Go.ChangeAt Go.RowKit
set_option linter.unusedVariables false
set_option linter.unusedSimpArgs false

set_option maxHeartbeats 8000000 in
set_option maxRecDepth 100000 in
theorem fills_long (p : Option Addr) (l : List Bx) (cap : Nat) (b : Bx) (x y z : Int) (w : World) (hl : 8 < l.length) : Calls Try.prog 9 #[.slice p l.length cap, b.val, .int .u16 x, .int .u16 y, .int .u16 z] w fun e w' => e = .returned (.bool true) ∧ Below w.heap.size w w' := by
  have E := (Env.nil w).add w.heap.size 25 #[.int .i64 b.a, .int .i64 b.b, .int .i64 b.c, .int .i64 b.d, .int .i64 b.e, .int .i64 b.f] rfl
  have h10 := fun W => awake_any W
  have g0 : decide ((8 : Int) < (l.length : Int)) = true := by simp; omega
  clear hl
  unfold Bx.val at *
  have C := E.cells
  simp [BC, CF] at C
  go_enter Try.func9, Try.ntmps9
  go_wp2_with (first
    | (go_at_call 10; (with_reducible refine (h10 _).mono ?_); rintro X w10 ⟨rfl, hb⟩; replace E := E.on hb; replace C := E.cells; simp [BC, CF] at C; clear hb))
  go_ret
  exact ⟨rfl, E.1⟩
set_option maxHeartbeats 8000000 in
set_option maxRecDepth 100000 in
theorem fills_bad (p : Option Addr) (l : List Bx) (cap : Nat) (b : Bx) (x y z : Int) (w : World) (hS : Sl w p l) (hl : l.length ≤ 8) (ha : l.all Bx.ok = false) : Calls Try.prog 9 #[.slice p l.length cap, b.val, .int .u16 x, .int .u16 y, .int .u16 z] w fun e w' => e = .returned (.bool true) ∧ Below w.heap.size w w' := by
  have E := (Env.nil w).add w.heap.size 25 #[.int .i64 b.a, .int .i64 b.b, .int .i64 b.c, .int .i64 b.d, .int .i64 b.e, .int .i64 b.f] rfl
  have h10 := fun W => awake_any W
  have g0 : decide ((8 : Int) < (l.length : Int)) = false := by simp; omega
  have h27 := fun W h => rall_any p l cap W h
  rw [ha] at h27
  clear hl ha
  unfold Bx.val at *
  have C := E.cells
  simp [BC, CF] at C
  go_enter Try.func9, Try.ntmps9
  go_wp2_with (first
    | (go_at_call 10; (with_reducible refine (h10 _).mono ?_); rintro X w10 ⟨rfl, hb⟩; replace E := E.on hb; replace C := E.cells; simp [BC, CF] at C; clear hb)
    | (go_at_call 27; (with_reducible refine (h27 _ (hS.on (envb E))).mono ?_); rintro X w27 ⟨rfl, hb⟩; replace E := E.on hb; replace C := E.cells; simp [BC, CF] at C; clear hb))
  go_ret
  exact ⟨rfl, E.1⟩
set_option maxHeartbeats 8000000 in
set_option maxRecDepth 100000 in
theorem fills_badb (p : Option Addr) (l : List Bx) (cap : Nat) (b : Bx) (x y z : Int) (w : World) (hS : Sl w p l) (hl : l.length ≤ 8) (ha : l.all Bx.ok = true) (hb : b.ok = false) : Calls Try.prog 9 #[.slice p l.length cap, b.val, .int .u16 x, .int .u16 y, .int .u16 z] w fun e w' => e = .returned (.bool true) ∧ Below w.heap.size w w' := by
  have E := (Env.nil w).add w.heap.size 25 #[.int .i64 b.a, .int .i64 b.b, .int .i64 b.c, .int .i64 b.d, .int .i64 b.e, .int .i64 b.f] rfl
  have h10 := fun W => awake_any W
  have g0 : decide ((8 : Int) < (l.length : Int)) = false := by simp; omega
  have h27 := fun W h => rall_any p l cap W h
  rw [ha] at h27
  have h14 := fun W => rvalid_any b W
  rw [hb] at h14
  clear hl ha hb
  unfold Bx.val at *
  have C := E.cells
  simp [BC, CF] at C
  go_enter Try.func9, Try.ntmps9
  go_wp2_with (first
    | (go_at_call 10; (with_reducible refine (h10 _).mono ?_); rintro X w10 ⟨rfl, hb⟩; replace E := E.on hb; replace C := E.cells; simp [BC, CF] at C; clear hb)
    | (go_at_call 27; (with_reducible refine (h27 _ (hS.on (envb E))).mono ?_); rintro X w27 ⟨rfl, hb⟩; replace E := E.on hb; replace C := E.cells; simp [BC, CF] at C; clear hb)
    | (go_at_call 14; (with_reducible refine (h14 _).mono ?_); rintro X w14 ⟨rfl, hb⟩; replace E := E.on hb; replace C := E.cells; simp [BC, CF] at C; clear hb))
  go_ret
  exact ⟨rfl, E.1⟩
theorem lit1_sl {w : World} {g : Nat} {x : Bx} (h : Has w g 25 #[.int .i64 x.a, .int .i64 x.b, .int .i64 x.c, .int .i64 x.d, .int .i64 x.e, .int .i64 x.f]) : Sl w (some ⟨g, 0, none⟩) [x] := by
  refine ⟨by simp, fun a e => ?_, by unfold maxLen; simp⟩
  cases e
  intro i hi
  have r := fun j => h.read j
  obtain rfl : i = 0 := by simpa using hi
  exact ⟨r 0, r 1, r 2, r 3, r 4, r 5⟩
theorem fills_walk (p : Option Addr) (l : List Bx) (cap : Nat) (b : Bx) (x y z : Int) (w : World) (hS : Sl w p l) (hx : 0 ≤ x ∧ x ≤ 65535) (hy : 0 ≤ y ∧ y ≤ 65535) (hz : 0 ≤ z ∧ z ≤ 65535) : Calls Try.prog 9 #[.slice p l.length cap, b.val, .int .u16 x, .int .u16 y, .int .u16 z] w fun e w' => e = .returned (.bool true) ∧ Below w.heap.size w w' := by
  by_cases hl : l.length ≤ 8
  · cases ha : l.all Bx.ok
    · exact fills_bad p l cap b x y z w hS hl ha
    · cases hb : b.ok
      · exact fills_badb p l cap b x y z w hS hl ha hb
      · obtain ⟨P0, e0⟩ : ∃ P, P = atI b.a b.d x := ⟨_, rfl⟩
        obtain ⟨P1, e1⟩ : ∃ P, P = atI b.b b.e y := ⟨_, rfl⟩
        obtain ⟨P2, e2⟩ : ∃ P, P = atI b.c b.f z := ⟨_, rfl⟩
        have hk := Bx.ok_i.1 hb
        have hin : b.a ≤ P0 ∧ P0 ≤ b.d := by rw [e0]; exact at_in hk.1.2.1 hx.1 hx.2
        have hpt : (ptB P0 P1 P2).ok = true := by rw [e0, e1, e2]; exact (pin_ok hb (within_pin hb hx hy hz)).1
        obtain ⟨hL, hR⟩ := halves_ok hb hin
        have h25 := fun W => within_any b x y z W hb hx hy hz
        rw [← e0, ← e1, ← e2] at h25
        have h27 := fun W h => rall_any p l cap W h
        rw [ha] at h27
        have h14 := fun W => rvalid_any b W
        rw [hb] at h14
        have hcov := cov_halves l hb hin
        have h32 := fun W h => Covers_ok p l cap b W h hb ha (by omega)
        have h32l := fun W h => Covers_ok p l cap (leftB b P0) W h hL ha (by omega)
        have h32r := fun W h => Covers_ok p l cap (rightB b P0) W h hR ha (by omega)
        have h32p := fun W h => Covers_ok p l cap (ptB P0 P1 P2) W h hpt ha (by omega)
        have h34 := fun g W h hg => has35 p l cap P0 P1 P2 g W h ha hpt hg
        have hcp : covB l (ptB P0 P1 P2) = l.any (hasP P0 P1 P2) := cov_point l hpt
        have h23 : ∀ W, Calls Try.prog 23 #[ptv P0 P1 P2] W fun E w' => E = .returned (ptB P0 P1 P2).val ∧ Below W.heap.size W w' := fun W => point_any P0 P1 P2 W
        have h36 := fun W h => clone_any p l cap W h (by omega)
        have haL : (l ++ [leftB b P0]).all Bx.ok = true := by rw [List.all_append, ha]; simp [hL]
        have h32m : ∀ q c W, Sl W q (l ++ [leftB b P0]) → Calls Try.prog 32 #[.slice q (l.length + 1) c, b.val] W fun E w' => E = .returned (.tuple #[.bool (covB (l ++ [leftB b P0]) b), .int .i64 0]) ∧ Below W.heap.size W w' := fun q c W h => by
          have k := Covers_ok q (l ++ [leftB b P0]) c b W h hb haL (by rw [List.length_append]; simp; omega)
          rw [List.length_append] at k
          exact k
        have h32o : ∀ g W, Has W g 25 #[.int .i64 b.a, .int .i64 b.b, .int .i64 b.c, .int .i64 b.d, .int .i64 b.e, .int .i64 b.f] → Calls Try.prog 32 #[.slice (some ⟨g, 0, none⟩) 1 1, (leftB b P0).val] W fun E w' => E = .returned (.tuple #[.bool true, .int .i64 0]) ∧ Below W.heap.size W w' := fun g W h => by
          have k := Covers_ok (some ⟨g, 0, none⟩) [b] 1 (leftB b P0) W (lit1_sl h) hL (by simp [hb]) (by simp)
          rw [cov_own hb hin] at k
          exact k
        have k1 : covB l b = true → l.any (hasP P0 P1 P2) = true := fun h => by
          rw [← hcp]
          refine cov_sub l hb hpt ?_ h
          rw [e0, e1, e2]
          exact pin_con (within_pin hb hx hy hz)
        have k2 : covB l b = true → covB (l ++ [leftB b P0]) b = true := fun h => cov_more l _ hb (fun x hx => List.mem_append_left _ hx) h
        have k3 : covB l (rightB b P0) = true → covB (l ++ [leftB b P0]) b = true := fun h => cov_left l hb hin h
        rw [hcp] at h32p
        rw [hcov] at h32 k1 k2
        clear hcov hcp e0 e1 e2 hk hin hL hR haL
        generalize covB l (leftB b P0) = M at *
        generalize covB l (rightB b P0) = Q at *
        generalize l.any (hasP P0 P1 P2) = IN at *
        generalize covB (l ++ [leftB b P0]) b = MORE at *
        cases M <;> cases Q
        · exact fills_ff p l cap b x y z w hS hl P0 P1 P2 IN MORE h27 h14 h32 h25 h32l h32r h34 h23 h32p h36 h32m h32o
        · obtain rfl := k3 rfl
          exact fills_ft p l cap b x y z w hS hl P0 P1 P2 IN h27 h14 h32 h25 h32l h32r h34 h23 h32p h36 h32m h32o
        · exact fills_tf p l cap b x y z w hS hl P0 P1 P2 IN MORE h27 h14 h32 h25 h32l h32r h34 h23 h32p h36 h32m h32o
        · obtain rfl := k1 rfl
          obtain rfl := k2 rfl
          exact fills_tt p l cap b x y z w hS hl P0 P1 P2 h27 h14 h32 h25 h32l h32r h34 h23 h32p h36 h32m h32o
  · exact fills_long p l cap b x y z w (by omega)
end Go.Proofs.Ytffigpkkdljaiaa
