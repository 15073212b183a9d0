/- BoxNearest: all inputs. -/
import Derived.Test.YtffigpkkdljaiaaLn
namespace Go.Proofs.Ytffigpkkdljaiaa
open Go.ChangeShapes Go.WideShapes Go.ChangeAt Go.RowKit
set_option linter.unusedVariables false
set_option linter.unusedSimpArgs false

theorem nearest_ok (x y : Bx) (a b c : Int) (w : World) (ha : 0 ≤ a ∧ a ≤ 65535) (hb : 0 ≤ b ∧ b ≤ 65535) (hc : 0 ≤ c ∧ c ≤ 65535) (hx : x.ok = true) (hy : y.ok = true) :
    Calls Try.prog 6 #[x.val, y.val, .int .u16 a, .int .u16 b, .int .u16 c] w fun e w' => e = .returned (.bool true) ∧ Below w.heap.size w w' := by
  obtain ⟨px, py⟩ := near_pin hx hy
  have ks := near_sq hx hy
  have pA := within_pin hx ha hb hc
  have pB := within_pin hy hc ha hb
  have pD := within_pin hy ha hb hc
  obtain ⟨okp, ip0, ip1, ip2⟩ := pin_ok hx px
  obtain ⟨okq, iq0, iq1, iq2⟩ := pin_ok hy py
  obtain ⟨-, iA0, iA1, iA2⟩ := pin_ok hx pA
  obtain ⟨-, iB0, iB1, iB2⟩ := pin_ok hy pB
  obtain ⟨-, iD0, iD1, iD2⟩ := pin_ok hy pD
  have cp := pin_con px
  have cq := pin_con py
  have f1 := far_pts pA pB
  have f2 := far_pts pA py
  have f3 := far_pts px pD
  refine nearest_walk_ok x y a b c w (sqB x y) _ _ _ _ _ _ _ _ _ _ _ _ _ _ _ _ _ _ (fun W => Near_ok x y W hx hy) (fun W => ?_) (fun W => Square_ok x y W hx hy) (fun W => ?_) (fun W => point_any _ _ _ W) (fun W => point_any _ _ _ W) (fun W => ?_) (fun W => ?_) (fun W => ?_)
    (fun W => psquare_any _ _ _ _ _ _ W iA0 iA1 iA2 iB0 iB1 iB2) (fun W => psquare_any _ _ _ _ _ _ W iA0 iA1 iA2 iq0 iq1 iq2) (fun W => psquare_any _ _ _ _ _ _ W ip0 ip1 ip2 iD0 iD1 iD2)
    (fun W => within_any x a b c W hx ha hb hc) (fun W => within_any y c a b W hy hc ha hb) (fun W => within_any y a b c W hy ha hb hc) (by simp; exact f1) (by simp; exact f2) (by simp; exact f3)
  · have h := Near_ok y x W hy hx
    rw [near_rev hx hy 0, near_rev hx hy 1, near_rev hx hy 2] at h
    exact h
  · have h := Square_ok y x W hy hx
    rw [sq_rev] at h
    exact h
  · have h := Con_ok x ⟨(nr x y 0).1, (nr x y 1).1, (nr x y 2).1, (nr x y 0).1, (nr x y 1).1, (nr x y 2).1⟩ W hx okp
    rw [cp] at h
    exact h
  · have h := Con_ok y ⟨(nr x y 0).2, (nr x y 1).2, (nr x y 2).2, (nr x y 0).2, (nr x y 1).2, (nr x y 2).2⟩ W hy okq
    rw [cq] at h
    exact h
  · have h := psquare_any _ _ _ _ _ _ W ip0 ip1 ip2 iq0 iq1 iq2
    rw [ks] at h
    exact h
set_option maxHeartbeats 8000000 in
set_option maxRecDepth 100000 in
theorem nearest_bad (x y : Bx) (a b c : Int) (w : World) (h : x.ok = false ∨ y.ok = false) :
    Calls Try.prog 6 #[x.val, y.val, .int .u16 a, .int .u16 b, .int .u16 c] w fun e w' => e = .returned (.bool true) ∧ Below w.heap.size w w' := by
  have E := ((Env.nil w).add w.heap.size 25 #[.int .i64 x.a, .int .i64 x.b, .int .i64 x.c, .int .i64 x.d, .int .i64 x.e, .int .i64 x.f] rfl).add (w.heap.size + 1) 25 #[.int .i64 y.a, .int .i64 y.b, .int .i64 y.c, .int .i64 y.d, .int .i64 y.e, .int .i64 y.f] (by simp)
  have h10 := fun W => awake_any W
  have h12 := fun W => Square_arg x y W h
  have h13 := fun W => Near_arg x y W h
  have h22x := fun W => valid_any x.a x.b x.c x.d x.e x.f W
  have h22y := fun W => valid_any y.a y.b y.c y.d y.e y.f W
  unfold ptv at h13
  have C := E.cells
  simp [BC, CF] at C
  cases hx : x.ok
  · unfold Bx.ok at hx
    rw [hx] at h22x
    clear h22y hx h
    unfold Bx.val at *
    go_enter Try.func6, Try.ntmps6
    go_wp2_with (first
      | (go_at_call 10; (with_reducible refine (h10 _).mono ?_); rintro X w10 ⟨rfl, hb⟩; replace E := E.on hb; replace C := E.cells; simp [BC, CF] at C; clear hb)
      | (go_at_call 12; (with_reducible refine (h12 _).mono ?_); rintro X w12 ⟨rfl, hb⟩; replace E := E.on hb; replace C := E.cells; simp [BC, CF] at C; clear hb)
      | (go_at_call 13; (with_reducible refine (h13 _).mono ?_); rintro X w13 ⟨rfl, hb⟩; replace E := (((E.on hb).add w13.heap.size 23 #[.int .i64 0, .int .i64 0, .int .i64 0] rfl).add (w13.heap.size + 1) 23 #[.int .i64 0, .int .i64 0, .int .i64 0] (by simp)); replace C := E.cells; simp [BC, CF] at C; clear hb)
      | (go_at_call 22; (with_reducible refine (h22x _).mono ?_); rintro X w14 ⟨rfl, hb⟩; replace E := E.on hb; replace C := E.cells; simp [BC, CF] at C; clear hb)
      | (go_at_call 22; (with_reducible refine (valid_any _ _ _ _ _ _ _).mono ?_); rintro X w15 ⟨rfl, hb⟩; replace E := E.on hb; replace C := E.cells; simp [BC, CF] at C; clear hb))
    go_ret
    exact ⟨rfl, E.1⟩
  · have hy : y.ok = false := by rcases h with h | h; rw [hx] at h; cases h; exact h
    unfold Bx.ok at hx hy
    rw [hx] at h22x
    rw [hy] at h22y
    clear hx hy h
    unfold Bx.val at *
    go_enter Try.func6, Try.ntmps6
    go_wp2_with (first
      | (go_at_call 10; (with_reducible refine (h10 _).mono ?_); rintro X w10 ⟨rfl, hb⟩; replace E := E.on hb; replace C := E.cells; simp [BC, CF] at C; clear hb)
      | (go_at_call 12; (with_reducible refine (h12 _).mono ?_); rintro X w12 ⟨rfl, hb⟩; replace E := E.on hb; replace C := E.cells; simp [BC, CF] at C; clear hb)
      | (go_at_call 13; (with_reducible refine (h13 _).mono ?_); rintro X w13 ⟨rfl, hb⟩; replace E := (((E.on hb).add w13.heap.size 23 #[.int .i64 0, .int .i64 0, .int .i64 0] rfl).add (w13.heap.size + 1) 23 #[.int .i64 0, .int .i64 0, .int .i64 0] (by simp)); replace C := E.cells; simp [BC, CF] at C; clear hb)
      | (go_at_call 22; (with_reducible refine (h22x _).mono ?_); rintro X w14 ⟨rfl, hb⟩; replace E := E.on hb; replace C := E.cells; simp [BC, CF] at C; clear hb)
      | (go_at_call 22; (with_reducible refine (h22y _).mono ?_); rintro X w15 ⟨rfl, hb⟩; replace E := E.on hb; replace C := E.cells; simp [BC, CF] at C; clear hb))
    go_ret
    exact ⟨rfl, E.1⟩
theorem nearest_walk (x y : Bx) (a b c : Int) (w : World) (ha : 0 ≤ a ∧ a ≤ 65535) (hb : 0 ≤ b ∧ b ≤ 65535) (hc : 0 ≤ c ∧ c ≤ 65535) :
    Calls Try.prog 6 #[x.val, y.val, .int .u16 a, .int .u16 b, .int .u16 c] w fun e w' => e = .returned (.bool true) ∧ Below w.heap.size w w' := by
  cases hx : x.ok
  · exact nearest_bad x y a b c w (.inl hx)
  · cases hy : y.ok
    · exact nearest_bad x y a b c w (.inr hy)
    · exact nearest_ok x y a b c w ha hb hc hx hy
end Go.Proofs.Ytffigpkkdljaiaa
