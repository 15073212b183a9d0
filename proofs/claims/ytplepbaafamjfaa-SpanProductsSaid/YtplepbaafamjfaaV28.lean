/- SpanScales returns true: the walk. -/
import Derived.Test.YtplepbaafamjfaaV27
import Derived.Test.YtplepbaafamjfaaRv
namespace Go.Proofs.Ytplepbaafamjfaa
open Go.ChangeShapes Go.WideShapes Go.ChangeAt Go.RowKit
set_option linter.unusedVariables false
set_option linter.unusedSimpArgs false

theorem hTup {K : Nat} {args : Array Value} {r : Int × Int × Int} {x y z : Int} (h : ∀ W, Calls Try.prog K args W (Tup W r)) (e : r = (x, y, z)) (W : World) : Calls Try.prog K args W fun e w' => e = .returned (.tuple #[.agg #[.int .i64 x, .int .i64 y], .int .i64 z]) ∧ Below W.heap.size W w' := by
  subst e; exact h W
theorem hWr' (x y e : Int) (b : Bool) (h : wrongB x y e = b) (w : World) : Calls Try.prog 18 #[.agg #[.int .i64 x, .int .i64 y], .int .i64 e] w fun r w' => r = .returned (.bool b) ∧ Below w.heap.size w w' := by
  subst h; exact wrong_any x y e w

set_option maxRecDepth 100000 in
set_option maxHeartbeats 8000000 in
theorem scales_11 (al ah num den n d u t1 t2 t3 r1 r2 r3 o1 o2 o3 : Int) (w : World) (hA : sB al ah = true) (hN : vB n d = true) (n1 : -9223372036854775808 ≤ n) (n2 : n ≤ 9223372036854775807) (d1 : -9223372036854775808 ≤ d) (d2 : d ≤ 9223372036854775807) (ht : timesR al ah num den = (t1, t2, t3)) (hr : rootR al ah = (r1, r2, r3)) (ho : ofR n d u = (o1, o2, o3)) :
    Calls Try.prog 5 #[.agg #[.int .i64 al, .int .i64 ah], .int .i64 num, .int .i64 den, .agg #[.int .i64 n, .int .i64 d], .int .i64 u] w (Yes w) := by
  have f1 := fun W => hTup (fun W => stimes_p al ah num den W) ht W
  have f2 := fun W => hTup (fun W => sroot_p al ah W) hr W
  have f3 := fun W => hTup (fun W => sof_p n d u W n1 n2 d1 d2) ho W
  have g1 := fun W => hTup (fun W => rtimes_p al ah num den W (sB_t.1 hA)) ht W
  have g2 := fun W => hTup (fun W => rroot_p al ah W (sB_t.1 hA)) hr W
  have g3 := fun W => hTup (fun W => rof_p n d u W (vB_t.1 hN)) ho W
  clear ht hr ho
  go_enter Try.func5, Try.ntmps5
  go_wp2_with (first | (go_at_call 11; refine (awake_any _).mono ?_; rintro e w0 ⟨rfl, hb⟩; have E := (env_two w al ah n d 23 35).on hb; have C := E.cells; simp only [BC] at C; clear hb) | (go_at_call 17; refine (rsvalid_any _ _ _).mono ?_; rw [hA]; rintro e w1 ⟨rfl, hb⟩; replace E := E.on hb; replace C := E.cells; simp only [BC] at C; clear hb) | (go_at_call 32; refine (rvalid_any _ _ _ n1 n2 d1 d2).mono ?_; rw [hN]; rintro e w1 ⟨rfl, hb⟩; replace E := E.on hb; replace C := E.cells; simp only [BC] at C; clear hb) | (go_at_call 27; ((with_reducible refine (f1 _).mono ?_); rintro e wa ⟨rfl, hb⟩; replace E := (E.on hb).add t1 t2 23; replace C := E.cells; simp only [BC] at C; clear hb)) | (go_at_call 28; ((with_reducible refine (f2 _).mono ?_); rintro e wb ⟨rfl, hb⟩; replace E := (E.on hb).add r1 r2 23; replace C := E.cells; simp only [BC] at C; clear hb)) | (go_at_call 29; ((with_reducible refine (f3 _).mono ?_); rintro e wc ⟨rfl, hb⟩; replace E := (E.on hb).add o1 o2 23; replace C := E.cells; simp only [BC] at C; clear hb)) | (go_at_call 30; ((with_reducible refine (g1 _).mono ?_); rintro e wd ⟨rfl, hb⟩; replace E := (E.on hb).add t1 t2 23; replace C := E.cells; simp only [BC] at C; clear hb)) | (go_at_call 31; ((with_reducible refine (g2 _).mono ?_); rintro e we ⟨rfl, hb⟩; replace E := (E.on hb).add r1 r2 23; replace C := E.cells; simp only [BC] at C; clear hb)) | (go_at_call 33; ((with_reducible refine (g3 _).mono ?_); rintro e wf ⟨rfl, hb⟩; replace E := (E.on hb).add o1 o2 23; replace C := E.cells; simp only [BC] at C; clear hb)))
  all_goals go_ret
  all_goals exact ⟨by first | rfl | simp_all, E.1⟩

set_option maxRecDepth 100000 in
set_option maxHeartbeats 8000000 in
theorem scales_10 (al ah num den n d u t1 t2 t3 r1 r2 r3 : Int) (w : World) (hA : sB al ah = true) (hN : vB n d = false) (n1 : -9223372036854775808 ≤ n) (n2 : n ≤ 9223372036854775807) (d1 : -9223372036854775808 ≤ d) (d2 : d ≤ 9223372036854775807) (ht : timesR al ah num den = (t1, t2, t3)) (hr : rootR al ah = (r1, r2, r3)) (ho : ofR n d u = (0, 0, 1)) :
    Calls Try.prog 5 #[.agg #[.int .i64 al, .int .i64 ah], .int .i64 num, .int .i64 den, .agg #[.int .i64 n, .int .i64 d], .int .i64 u] w (Yes w) := by
  have f1 := fun W => hTup (fun W => stimes_p al ah num den W) ht W
  have f2 := fun W => hTup (fun W => sroot_p al ah W) hr W
  have f3 := fun W => hTup (fun W => sof_p n d u W n1 n2 d1 d2) ho W
  have g1 := fun W => hTup (fun W => rtimes_p al ah num den W (sB_t.1 hA)) ht W
  have g2 := fun W => hTup (fun W => rroot_p al ah W (sB_t.1 hA)) hr W
  have f5 := fun W => hWr' 0 0 1 true rfl W
  clear ht hr ho
  go_enter Try.func5, Try.ntmps5
  go_wp2_with (first | (go_at_call 11; refine (awake_any _).mono ?_; rintro e w0 ⟨rfl, hb⟩; have E := (env_two w al ah n d 23 35).on hb; have C := E.cells; simp only [BC] at C; clear hb) | (go_at_call 17; refine (rsvalid_any _ _ _).mono ?_; rw [hA]; rintro e w1 ⟨rfl, hb⟩; replace E := E.on hb; replace C := E.cells; simp only [BC] at C; clear hb) | (go_at_call 32; refine (rvalid_any _ _ _ n1 n2 d1 d2).mono ?_; rw [hN]; rintro e w1 ⟨rfl, hb⟩; replace E := E.on hb; replace C := E.cells; simp only [BC] at C; clear hb) | (go_at_call 27; ((with_reducible refine (f1 _).mono ?_); rintro e wa ⟨rfl, hb⟩; replace E := (E.on hb).add t1 t2 23; replace C := E.cells; simp only [BC] at C; clear hb)) | (go_at_call 28; ((with_reducible refine (f2 _).mono ?_); rintro e wb ⟨rfl, hb⟩; replace E := (E.on hb).add r1 r2 23; replace C := E.cells; simp only [BC] at C; clear hb)) | (go_at_call 29; ((with_reducible refine (f3 _).mono ?_); rintro e wc ⟨rfl, hb⟩; replace E := (E.on hb).add 0 0 23; replace C := E.cells; simp only [BC] at C; clear hb)) | (go_at_call 30; ((with_reducible refine (g1 _).mono ?_); rintro e wd ⟨rfl, hb⟩; replace E := (E.on hb).add t1 t2 23; replace C := E.cells; simp only [BC] at C; clear hb)) | (go_at_call 31; ((with_reducible refine (g2 _).mono ?_); rintro e we ⟨rfl, hb⟩; replace E := (E.on hb).add r1 r2 23; replace C := E.cells; simp only [BC] at C; clear hb)) | (go_at_call 18; ((with_reducible refine (f5 _).mono ?_); rintro e w9 ⟨rfl, hb⟩; replace E := E.on hb; replace C := E.cells; simp only [BC] at C; clear hb)))
  all_goals go_ret
  all_goals exact ⟨by first | rfl | simp_all, E.1⟩

set_option maxRecDepth 100000 in
set_option maxHeartbeats 8000000 in
theorem scales_01 (al ah num den n d u o1 o2 o3 : Int) (w : World) (hA : sB al ah = false) (hN : vB n d = true) (n1 : -9223372036854775808 ≤ n) (n2 : n ≤ 9223372036854775807) (d1 : -9223372036854775808 ≤ d) (d2 : d ≤ 9223372036854775807) (ht : timesR al ah num den = (0, 0, 1)) (hr : rootR al ah = (0, 0, 1)) (ho : ofR n d u = (o1, o2, o3)) :
    Calls Try.prog 5 #[.agg #[.int .i64 al, .int .i64 ah], .int .i64 num, .int .i64 den, .agg #[.int .i64 n, .int .i64 d], .int .i64 u] w (Yes w) := by
  have f1 := fun W => hTup (fun W => stimes_p al ah num den W) ht W
  have f2 := fun W => hTup (fun W => sroot_p al ah W) hr W
  have f3 := fun W => hTup (fun W => sof_p n d u W n1 n2 d1 d2) ho W
  have g3 := fun W => hTup (fun W => rof_p n d u W (vB_t.1 hN)) ho W
  have f5 := fun W => hWr' 0 0 1 true rfl W
  clear ht hr ho
  go_enter Try.func5, Try.ntmps5
  go_wp2_with (first | (go_at_call 11; refine (awake_any _).mono ?_; rintro e w0 ⟨rfl, hb⟩; have E := (env_two w al ah n d 23 35).on hb; have C := E.cells; simp only [BC] at C; clear hb) | (go_at_call 17; refine (rsvalid_any _ _ _).mono ?_; rw [hA]; rintro e w1 ⟨rfl, hb⟩; replace E := E.on hb; replace C := E.cells; simp only [BC] at C; clear hb) | (go_at_call 32; refine (rvalid_any _ _ _ n1 n2 d1 d2).mono ?_; rw [hN]; rintro e w1 ⟨rfl, hb⟩; replace E := E.on hb; replace C := E.cells; simp only [BC] at C; clear hb) | (go_at_call 27; ((with_reducible refine (f1 _).mono ?_); rintro e wa ⟨rfl, hb⟩; replace E := (E.on hb).add 0 0 23; replace C := E.cells; simp only [BC] at C; clear hb)) | (go_at_call 28; ((with_reducible refine (f2 _).mono ?_); rintro e wb ⟨rfl, hb⟩; replace E := (E.on hb).add 0 0 23; replace C := E.cells; simp only [BC] at C; clear hb)) | (go_at_call 29; ((with_reducible refine (f3 _).mono ?_); rintro e wc ⟨rfl, hb⟩; replace E := (E.on hb).add o1 o2 23; replace C := E.cells; simp only [BC] at C; clear hb)) | (go_at_call 33; ((with_reducible refine (g3 _).mono ?_); rintro e wf ⟨rfl, hb⟩; replace E := (E.on hb).add o1 o2 23; replace C := E.cells; simp only [BC] at C; clear hb)) | (go_at_call 18; ((with_reducible refine (f5 _).mono ?_); rintro e w9 ⟨rfl, hb⟩; replace E := E.on hb; replace C := E.cells; simp only [BC] at C; clear hb)))
  all_goals go_ret
  all_goals exact ⟨by first | rfl | simp_all, E.1⟩

set_option maxRecDepth 100000 in
set_option maxHeartbeats 8000000 in
theorem scales_00 (al ah num den n d u : Int) (w : World) (hA : sB al ah = false) (hN : vB n d = false) (n1 : -9223372036854775808 ≤ n) (n2 : n ≤ 9223372036854775807) (d1 : -9223372036854775808 ≤ d) (d2 : d ≤ 9223372036854775807) (ht : timesR al ah num den = (0, 0, 1)) (hr : rootR al ah = (0, 0, 1)) (ho : ofR n d u = (0, 0, 1)) :
    Calls Try.prog 5 #[.agg #[.int .i64 al, .int .i64 ah], .int .i64 num, .int .i64 den, .agg #[.int .i64 n, .int .i64 d], .int .i64 u] w (Yes w) := by
  have f1 := fun W => hTup (fun W => stimes_p al ah num den W) ht W
  have f2 := fun W => hTup (fun W => sroot_p al ah W) hr W
  have f3 := fun W => hTup (fun W => sof_p n d u W n1 n2 d1 d2) ho W
  have f5 := fun W => hWr' 0 0 1 true rfl W
  clear ht hr ho
  go_enter Try.func5, Try.ntmps5
  go_wp2_with (first | (go_at_call 11; refine (awake_any _).mono ?_; rintro e w0 ⟨rfl, hb⟩; have E := (env_two w al ah n d 23 35).on hb; have C := E.cells; simp only [BC] at C; clear hb) | (go_at_call 17; refine (rsvalid_any _ _ _).mono ?_; rw [hA]; rintro e w1 ⟨rfl, hb⟩; replace E := E.on hb; replace C := E.cells; simp only [BC] at C; clear hb) | (go_at_call 32; refine (rvalid_any _ _ _ n1 n2 d1 d2).mono ?_; rw [hN]; rintro e w1 ⟨rfl, hb⟩; replace E := E.on hb; replace C := E.cells; simp only [BC] at C; clear hb) | (go_at_call 27; ((with_reducible refine (f1 _).mono ?_); rintro e wa ⟨rfl, hb⟩; replace E := (E.on hb).add 0 0 23; replace C := E.cells; simp only [BC] at C; clear hb)) | (go_at_call 28; ((with_reducible refine (f2 _).mono ?_); rintro e wb ⟨rfl, hb⟩; replace E := (E.on hb).add 0 0 23; replace C := E.cells; simp only [BC] at C; clear hb)) | (go_at_call 29; ((with_reducible refine (f3 _).mono ?_); rintro e wc ⟨rfl, hb⟩; replace E := (E.on hb).add 0 0 23; replace C := E.cells; simp only [BC] at C; clear hb)) | (go_at_call 18; ((with_reducible refine (f5 _).mono ?_); rintro e w9 ⟨rfl, hb⟩; replace E := E.on hb; replace C := E.cells; simp only [BC] at C; clear hb)))
  all_goals go_ret
  all_goals exact ⟨by first | rfl | simp_all, E.1⟩

theorem scales_walk (al ah num den n d u : Int) (w : World) (hn : I64 n) (hd : I64 d) :
    Calls Try.prog 5 #[.agg #[.int .i64 al, .int .i64 ah], .int .i64 num, .int .i64 den, .agg #[.int .i64 n, .int .i64 d], .int .i64 u] w (Yes w) := by
  cases hA : sB al ah
  · have ht : timesR al ah num den = (0, 0, 1) := by unfold timesR; rw [hA]; rfl
    have hr : rootR al ah = (0, 0, 1) := by unfold rootR; rw [hA]; rfl
    cases hN : vB n d
    · exact scales_00 al ah num den n d u w hA hN hn.1 hn.2 hd.1 hd.2 ht hr (by unfold ofR; rw [hN]; rfl)
    · exact scales_01 al ah num den n d u _ _ _ w hA hN hn.1 hn.2 hd.1 hd.2 ht hr (pr3 _)
  · cases hN : vB n d
    · exact scales_10 al ah num den n d u _ _ _ _ _ _ w hA hN hn.1 hn.2 hd.1 hd.2 (pr3 _) (pr3 _) (by unfold ofR; rw [hN]; rfl)
    · exact scales_11 al ah num den n d u _ _ _ _ _ _ _ _ _ w hA hN hn.1 hn.2 hd.1 hd.2 (pr3 _) (pr3 _) (pr3 _)

end Go.Proofs.Ytplepbaafamjfaa
