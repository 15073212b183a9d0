/- The reference: Valid. -/
import Derived.Test.YtffigpkkdljaiaaRc
namespace Go.Proofs.Ytffigpkkdljaiaa
open Go.ChangeShapes Go.WideShapes Go.ChangeAt Go.RowKit
set_option linter.unusedVariables false
set_option linter.unusedSimpArgs false

theorem cells_x {x : Bx} {w W' : World} (h : Env w W' [⟨w.heap.size, 25, #[.int .i64 x.a, .int .i64 x.b, .int .i64 x.c, .int .i64 x.d, .int .i64 x.e, .int .i64 x.f]⟩]) : W'.cell? ⟨w.heap.size, 0, none⟩ = some (.int .i64 x.a) ∧ W'.cell? ⟨w.heap.size, 1, none⟩ = some (.int .i64 x.b) ∧ W'.cell? ⟨w.heap.size, 2, none⟩ = some (.int .i64 x.c) ∧ W'.cell? ⟨w.heap.size, 3, none⟩ = some (.int .i64 x.d) ∧ W'.cell? ⟨w.heap.size, 4, none⟩ = some (.int .i64 x.e) ∧ W'.cell? ⟨w.heap.size, 5, none⟩ = some (.int .i64 x.f) ∧ Env w W' [⟨w.heap.size, 25, #[.int .i64 x.a, .int .i64 x.b, .int .i64 x.c, .int .i64 x.d, .int .i64 x.e, .int .i64 x.f]⟩] := by
  have C := h.cells
  simp [BC, CF] at C
  simp [C, h]
set_option maxHeartbeats 16000000 in
set_option maxRecDepth 100000 in
theorem rvalid_any (x : Bx) (w : World) : Calls Try.prog 14 #[x.val] w fun E w' => E = .returned (.bool x.ok) ∧ Below w.heap.size w w' := by
  have E := (Env.nil w).add w.heap.size 25 #[.int .i64 x.a, .int .i64 x.b, .int .i64 x.c, .int .i64 x.d, .int .i64 x.e, .int .i64 x.f] rfl
  unfold Bx.val
  obtain ⟨RES, hRES⟩ : ∃ R, R = x.ok := ⟨_, rfl⟩
  rw [← hRES]
  unfold Bx.ok vB at hRES
  have HR := Lib.hid hRES
  clear hRES
  go_enter Try.func14, Try.ntmps14
  go_wp2
  go_loopw [3] (fun v wr => ∃ i : Nat, v = .int .i64 (i : Int) ∧ i ≤ 3 ∧ (0 < i → sdV x.a x.d = true) ∧ (1 < i → sdV x.b x.e = true) ∧ (2 < i → sdV x.c x.f = true) ∧ Env w wr [⟨w.heap.size, 25, #[.int .i64 x.a, .int .i64 x.b, .int .i64 x.c, .int .i64 x.d, .int .i64 x.e, .int .i64 x.f]⟩]) (fun v _ => 3 - (intOf v).toNat)
  case atStart => exact ⟨0, rfl, by omega, by omega, by omega, by omega, E⟩
  case round =>
    clear E
    obtain ⟨i, rfl, hi, h0, h1, h2, E⟩ := hrel
    rcases (by omega : i = 0 ∨ i = 1 ∨ i = 2 ∨ i = 3) with rfl | rfl | rfl | rfl
    · have C := E.cells
      simp [BC, CF] at C
      have c0 := fun W => rcoord0 x.a x.b x.c W
      have c1 := fun W => rcoord0 x.d x.e x.f W
      have k0 := fun W => rlen_b x.a W
      have k1 := fun W => rlen_b x.d W
      cases L1 : lenB x.a
      · rw [L1] at k0
        go_wp2
        first | go_region_law (first | (go_simp; go_at_call 44; (first | with_reducible refine (c0 _).mono ?_ | with_reducible refine (c1 _).mono ?_); rintro X w1 ⟨rfl, hb⟩; (first | have E := E.drw.on hb | have E := E.on hb); have C := E.cells; simp only [BC, CF] at C; clear hb) | (go_simp; go_at_call 43; (with_reducible refine (k0 _).mono ?_); rintro X w2 ⟨rfl, hb⟩; (first | have E := E.drw.on hb | have E := E.on hb); have C := E.cells; simp only [BC, CF] at C; clear hb; dsimp only; refine ‹∀ a w, wpAny _ _ _ _ _ _ a w → _› _ _ ?_; refine wpAny_take (i := 5) (v := .bool true) rfl (by kernel_rfl) (by kernel_rfl) (by kernel_rfl) (fun _ _ _ h => h) (Or.inl ⟨by kernel_rfl, fun w => by go_simp⟩) ?_; refine wpAny_take (i := 6) (v := .bool true) rfl (by kernel_rfl) (by kernel_rfl) (by kernel_rfl) (fun _ _ _ h => h) (Or.inl ⟨by kernel_rfl, fun w => by go_simp⟩) ?_; refine wpAny_take (i := 7) (v := undef) rfl (by kernel_rfl) (by kernel_rfl) (by kernel_rfl) (fun _ _ _ h => h) (Or.inr ⟨by kernel_rfl, rfl⟩) ?_; refine wpAny_take (i := 8) (v := undef) rfl (by kernel_rfl) (by kernel_rfl) (by kernel_rfl) (fun _ _ _ h => h) (Or.inr ⟨by kernel_rfl, rfl⟩) ?_; refine wpAny_take (i := 9) (v := undef) rfl (by kernel_rfl) (by kernel_rfl) (by kernel_rfl) (fun _ _ _ h => h) (Or.inr ⟨by kernel_rfl, rfl⟩) ?_; refine wpAny_take (i := 10) (v := undef) rfl (by kernel_rfl) (by kernel_rfl) (by kernel_rfl) (fun _ _ _ h => h) (Or.inr ⟨by kernel_rfl, rfl⟩) ?_; refine wpAny_take (i := 11) (v := undef) rfl (by kernel_rfl) (by kernel_rfl) (by kernel_rfl) (fun _ _ _ h => h) (Or.inr ⟨by kernel_rfl, rfl⟩) ?_; refine wpAny_take (i := 12) (v := undef) rfl (by kernel_rfl) (by kernel_rfl) (by kernel_rfl) (fun _ _ _ h => h) (Or.inr ⟨by kernel_rfl, rfl⟩) ?_; refine wpAny_take (i := 13) (v := .bool true) rfl (by kernel_rfl) (by kernel_rfl) (by kernel_rfl) (fun _ _ _ h => h) (Or.inl ⟨by kernel_rfl, fun w => by go_simp⟩) ?_; refine wpAny_take (i := 14) (v := .bool true) rfl (by kernel_rfl) (by kernel_rfl) (by kernel_rfl) (fun _ _ _ h => h) (Or.inl ⟨by kernel_rfl, fun w => by go_simp⟩) ?_; refine wpAny_take (i := 15) (v := undef) rfl (by kernel_rfl) (by kernel_rfl) (by kernel_rfl) (fun _ _ _ h => h) (Or.inr ⟨by kernel_rfl, rfl⟩) ?_; refine wpAny_take (i := 16) (v := undef) rfl (by kernel_rfl) (by kernel_rfl) (by kernel_rfl) (fun _ _ _ h => h) (Or.inr ⟨by kernel_rfl, rfl⟩) ?_; refine wpAny_take (i := 17) (v := undef) rfl (by kernel_rfl) (by kernel_rfl) (by kernel_rfl) (fun _ _ _ h => h) (Or.inr ⟨by kernel_rfl, rfl⟩) ?_; refine wpAny_take (i := 18) (v := undef) rfl (by kernel_rfl) (by kernel_rfl) (by kernel_rfl) (fun _ _ _ h => h) (Or.inr ⟨by kernel_rfl, rfl⟩) ?_; refine wpAny_take (i := 19) (v := undef) rfl (by kernel_rfl) (by kernel_rfl) (by kernel_rfl) (fun _ _ _ h => h) (Or.inr ⟨by kernel_rfl, rfl⟩) ?_; refine wpAny_take (i := 20) (v := undef) rfl (by kernel_rfl) (by kernel_rfl) (by kernel_rfl) (fun _ _ _ h => h) (Or.inr ⟨by kernel_rfl, rfl⟩) ?_; refine wpAny_take (i := 21) (v := undef) rfl (by kernel_rfl) (by kernel_rfl) (by kernel_rfl) (fun _ _ _ h => h) (Or.inr ⟨by kernel_rfl, rfl⟩) ?_; refine wpAny_take (i := 22) (v := undef) rfl (by kernel_rfl) (by kernel_rfl) (by kernel_rfl) (fun _ _ _ h => h) (Or.inr ⟨by kernel_rfl, rfl⟩) ?_; refine wpAny_take (i := 23) (v := undef) rfl (by kernel_rfl) (by kernel_rfl) (by kernel_rfl) (fun _ _ _ h => h) (Or.inr ⟨by kernel_rfl, rfl⟩) ?_)) | fail
        all_goals go_wp2
        all_goals go_ret
        all_goals exact ⟨by rw [HR.out]; simp [sdV_len, L1], E.1⟩
      · rw [L1] at k0
        cases L2 : lenB x.d
        · rw [L2] at k1
          go_wp2
          first | go_region_law (first | (go_simp; go_at_call 44; (first | with_reducible refine (c0 _).mono ?_ | with_reducible refine (c1 _).mono ?_); rintro X w1 ⟨rfl, hb⟩; (first | have E := E.drw.on hb | have E := E.on hb); have C := E.cells; simp only [BC, CF] at C; clear hb) | (go_simp; go_at_call 43; (with_reducible refine (k1 _).mono ?_); rintro X w2 ⟨rfl, hb⟩; (first | have E := E.drw.on hb | have E := E.on hb); have C := E.cells; simp only [BC, CF] at C; clear hb; dsimp only; refine ‹∀ a w, wpAny _ _ _ _ _ _ a w → _› _ _ ?_; refine wpAny_take (i := 12) (v := .bool true) rfl (by kernel_rfl) (by kernel_rfl) (by kernel_rfl) (fun _ _ _ h => h) (Or.inl ⟨by kernel_rfl, fun w => by go_simp⟩) ?_; refine wpAny_take (i := 13) (v := .bool true) rfl (by kernel_rfl) (by kernel_rfl) (by kernel_rfl) (fun _ _ _ h => h) (Or.inl ⟨by kernel_rfl, fun w => by go_simp⟩) ?_; refine wpAny_take (i := 14) (v := .bool true) rfl (by kernel_rfl) (by kernel_rfl) (by kernel_rfl) (fun _ _ _ h => h) (Or.inl ⟨by kernel_rfl, fun w => by go_simp⟩) ?_; refine wpAny_take (i := 15) (v := undef) rfl (by kernel_rfl) (by kernel_rfl) (by kernel_rfl) (fun _ _ _ h => h) (Or.inr ⟨by kernel_rfl, rfl⟩) ?_; refine wpAny_take (i := 16) (v := undef) rfl (by kernel_rfl) (by kernel_rfl) (by kernel_rfl) (fun _ _ _ h => h) (Or.inr ⟨by kernel_rfl, rfl⟩) ?_; refine wpAny_take (i := 17) (v := undef) rfl (by kernel_rfl) (by kernel_rfl) (by kernel_rfl) (fun _ _ _ h => h) (Or.inr ⟨by kernel_rfl, rfl⟩) ?_; refine wpAny_take (i := 18) (v := undef) rfl (by kernel_rfl) (by kernel_rfl) (by kernel_rfl) (fun _ _ _ h => h) (Or.inr ⟨by kernel_rfl, rfl⟩) ?_; refine wpAny_take (i := 19) (v := undef) rfl (by kernel_rfl) (by kernel_rfl) (by kernel_rfl) (fun _ _ _ h => h) (Or.inr ⟨by kernel_rfl, rfl⟩) ?_; refine wpAny_take (i := 20) (v := undef) rfl (by kernel_rfl) (by kernel_rfl) (by kernel_rfl) (fun _ _ _ h => h) (Or.inr ⟨by kernel_rfl, rfl⟩) ?_; refine wpAny_take (i := 21) (v := undef) rfl (by kernel_rfl) (by kernel_rfl) (by kernel_rfl) (fun _ _ _ h => h) (Or.inr ⟨by kernel_rfl, rfl⟩) ?_; refine wpAny_take (i := 22) (v := undef) rfl (by kernel_rfl) (by kernel_rfl) (by kernel_rfl) (fun _ _ _ h => h) (Or.inr ⟨by kernel_rfl, rfl⟩) ?_; refine wpAny_take (i := 23) (v := undef) rfl (by kernel_rfl) (by kernel_rfl) (by kernel_rfl) (fun _ _ _ h => h) (Or.inr ⟨by kernel_rfl, rfl⟩) ?_) | (go_simp; go_at_call 43; (first | with_reducible refine (k0 _).mono ?_ | with_reducible refine (k1 _).mono ?_); rintro X w2 ⟨rfl, hb⟩; (first | have E := E.drw.on hb | have E := E.on hb); have C := E.cells; simp only [BC, CF] at C; clear hb)) | fail
          all_goals go_wp2
          all_goals go_ret
          all_goals exact ⟨by rw [HR.out]; simp [sdV_len, L1, L2], E.1⟩
        · rw [L2] at k1
          by_cases hlt : x.d < x.a
          · have g : decide (x.d < x.a) = true := by simp [hlt]
            go_wp2
            first | go_region_law (first | (go_simp; go_at_call 44; (first | with_reducible refine (c0 _).mono ?_ | with_reducible refine (c1 _).mono ?_); rintro X w1 ⟨rfl, hb⟩; (first | have E := E.drw.on hb | have E := E.on hb); have C := E.cells; simp only [BC, CF] at C; clear hb) | (go_simp; go_at_call 43; (first | with_reducible refine (k0 _).mono ?_ | with_reducible refine (k1 _).mono ?_); rintro X w2 ⟨rfl, hb⟩; (first | have E := E.drw.on hb | have E := E.on hb); have C := E.cells; simp only [BC, CF] at C; clear hb)) | fail
            all_goals go_wp2
            all_goals go_ret
            all_goals exact ⟨by rw [HR.out]; simp [sdV_len, L1, L2, g], E.1⟩
          · have g : decide (x.d < x.a) = false := by simp; omega
            have hs : sdV x.a x.d = true := by rw [sdV_len, L1, L2, g]; rfl
            have HS := Lib.hid hs
            clear hs
            go_wp2
            first | go_region_law (first | (go_simp; go_at_call 44; (first | with_reducible refine (c0 _).mono ?_ | with_reducible refine (c1 _).mono ?_); rintro X w1 ⟨rfl, hb⟩; (first | have E := E.drw.on hb | have E := E.on hb); have C := E.cells; simp only [BC, CF] at C; clear hb) | (go_simp; go_at_call 43; (first | with_reducible refine (k0 _).mono ?_ | with_reducible refine (k1 _).mono ?_); rintro X w2 ⟨rfl, hb⟩; (first | have E := E.drw.on hb | have E := E.on hb); have C := E.cells; simp only [BC, CF] at C; clear hb)) | fail
            all_goals go_wp2
            all_goals exact ⟨⟨1, rfl, by omega, fun _ => HS.out, fun h => by omega, fun h => by omega, E⟩, by simp [intOf]⟩
    · have C := E.cells
      simp [BC, CF] at C
      have c0 := fun W => rcoord1 x.a x.b x.c W
      have c1 := fun W => rcoord1 x.d x.e x.f W
      have k0 := fun W => rlen_b x.b W
      have k1 := fun W => rlen_b x.e W
      cases L1 : lenB x.b
      · rw [L1] at k0
        go_wp2
        first | go_region_law (first | (go_simp; go_at_call 44; (first | with_reducible refine (c0 _).mono ?_ | with_reducible refine (c1 _).mono ?_); rintro X w1 ⟨rfl, hb⟩; (first | have E := E.drw.on hb | have E := E.on hb); have C := E.cells; simp only [BC, CF] at C; clear hb) | (go_simp; go_at_call 43; (with_reducible refine (k0 _).mono ?_); rintro X w2 ⟨rfl, hb⟩; (first | have E := E.drw.on hb | have E := E.on hb); have C := E.cells; simp only [BC, CF] at C; clear hb; dsimp only; refine ‹∀ a w, wpAny _ _ _ _ _ _ a w → _› _ _ ?_; refine wpAny_take (i := 5) (v := .bool true) rfl (by kernel_rfl) (by kernel_rfl) (by kernel_rfl) (fun _ _ _ h => h) (Or.inl ⟨by kernel_rfl, fun w => by go_simp⟩) ?_; refine wpAny_take (i := 6) (v := .bool true) rfl (by kernel_rfl) (by kernel_rfl) (by kernel_rfl) (fun _ _ _ h => h) (Or.inl ⟨by kernel_rfl, fun w => by go_simp⟩) ?_; refine wpAny_take (i := 7) (v := undef) rfl (by kernel_rfl) (by kernel_rfl) (by kernel_rfl) (fun _ _ _ h => h) (Or.inr ⟨by kernel_rfl, rfl⟩) ?_; refine wpAny_take (i := 8) (v := undef) rfl (by kernel_rfl) (by kernel_rfl) (by kernel_rfl) (fun _ _ _ h => h) (Or.inr ⟨by kernel_rfl, rfl⟩) ?_; refine wpAny_take (i := 9) (v := undef) rfl (by kernel_rfl) (by kernel_rfl) (by kernel_rfl) (fun _ _ _ h => h) (Or.inr ⟨by kernel_rfl, rfl⟩) ?_; refine wpAny_take (i := 10) (v := undef) rfl (by kernel_rfl) (by kernel_rfl) (by kernel_rfl) (fun _ _ _ h => h) (Or.inr ⟨by kernel_rfl, rfl⟩) ?_; refine wpAny_take (i := 11) (v := undef) rfl (by kernel_rfl) (by kernel_rfl) (by kernel_rfl) (fun _ _ _ h => h) (Or.inr ⟨by kernel_rfl, rfl⟩) ?_; refine wpAny_take (i := 12) (v := undef) rfl (by kernel_rfl) (by kernel_rfl) (by kernel_rfl) (fun _ _ _ h => h) (Or.inr ⟨by kernel_rfl, rfl⟩) ?_; refine wpAny_take (i := 13) (v := .bool true) rfl (by kernel_rfl) (by kernel_rfl) (by kernel_rfl) (fun _ _ _ h => h) (Or.inl ⟨by kernel_rfl, fun w => by go_simp⟩) ?_; refine wpAny_take (i := 14) (v := .bool true) rfl (by kernel_rfl) (by kernel_rfl) (by kernel_rfl) (fun _ _ _ h => h) (Or.inl ⟨by kernel_rfl, fun w => by go_simp⟩) ?_; refine wpAny_take (i := 15) (v := undef) rfl (by kernel_rfl) (by kernel_rfl) (by kernel_rfl) (fun _ _ _ h => h) (Or.inr ⟨by kernel_rfl, rfl⟩) ?_; refine wpAny_take (i := 16) (v := undef) rfl (by kernel_rfl) (by kernel_rfl) (by kernel_rfl) (fun _ _ _ h => h) (Or.inr ⟨by kernel_rfl, rfl⟩) ?_; refine wpAny_take (i := 17) (v := undef) rfl (by kernel_rfl) (by kernel_rfl) (by kernel_rfl) (fun _ _ _ h => h) (Or.inr ⟨by kernel_rfl, rfl⟩) ?_; refine wpAny_take (i := 18) (v := undef) rfl (by kernel_rfl) (by kernel_rfl) (by kernel_rfl) (fun _ _ _ h => h) (Or.inr ⟨by kernel_rfl, rfl⟩) ?_; refine wpAny_take (i := 19) (v := undef) rfl (by kernel_rfl) (by kernel_rfl) (by kernel_rfl) (fun _ _ _ h => h) (Or.inr ⟨by kernel_rfl, rfl⟩) ?_; refine wpAny_take (i := 20) (v := undef) rfl (by kernel_rfl) (by kernel_rfl) (by kernel_rfl) (fun _ _ _ h => h) (Or.inr ⟨by kernel_rfl, rfl⟩) ?_; refine wpAny_take (i := 21) (v := undef) rfl (by kernel_rfl) (by kernel_rfl) (by kernel_rfl) (fun _ _ _ h => h) (Or.inr ⟨by kernel_rfl, rfl⟩) ?_; refine wpAny_take (i := 22) (v := undef) rfl (by kernel_rfl) (by kernel_rfl) (by kernel_rfl) (fun _ _ _ h => h) (Or.inr ⟨by kernel_rfl, rfl⟩) ?_; refine wpAny_take (i := 23) (v := undef) rfl (by kernel_rfl) (by kernel_rfl) (by kernel_rfl) (fun _ _ _ h => h) (Or.inr ⟨by kernel_rfl, rfl⟩) ?_)) | fail
        all_goals go_wp2
        all_goals go_ret
        all_goals exact ⟨by rw [HR.out]; simp [sdV_len, L1], E.1⟩
      · rw [L1] at k0
        cases L2 : lenB x.e
        · rw [L2] at k1
          go_wp2
          first | go_region_law (first | (go_simp; go_at_call 44; (first | with_reducible refine (c0 _).mono ?_ | with_reducible refine (c1 _).mono ?_); rintro X w1 ⟨rfl, hb⟩; (first | have E := E.drw.on hb | have E := E.on hb); have C := E.cells; simp only [BC, CF] at C; clear hb) | (go_simp; go_at_call 43; (with_reducible refine (k1 _).mono ?_); rintro X w2 ⟨rfl, hb⟩; (first | have E := E.drw.on hb | have E := E.on hb); have C := E.cells; simp only [BC, CF] at C; clear hb; dsimp only; refine ‹∀ a w, wpAny _ _ _ _ _ _ a w → _› _ _ ?_; refine wpAny_take (i := 12) (v := .bool true) rfl (by kernel_rfl) (by kernel_rfl) (by kernel_rfl) (fun _ _ _ h => h) (Or.inl ⟨by kernel_rfl, fun w => by go_simp⟩) ?_; refine wpAny_take (i := 13) (v := .bool true) rfl (by kernel_rfl) (by kernel_rfl) (by kernel_rfl) (fun _ _ _ h => h) (Or.inl ⟨by kernel_rfl, fun w => by go_simp⟩) ?_; refine wpAny_take (i := 14) (v := .bool true) rfl (by kernel_rfl) (by kernel_rfl) (by kernel_rfl) (fun _ _ _ h => h) (Or.inl ⟨by kernel_rfl, fun w => by go_simp⟩) ?_; refine wpAny_take (i := 15) (v := undef) rfl (by kernel_rfl) (by kernel_rfl) (by kernel_rfl) (fun _ _ _ h => h) (Or.inr ⟨by kernel_rfl, rfl⟩) ?_; refine wpAny_take (i := 16) (v := undef) rfl (by kernel_rfl) (by kernel_rfl) (by kernel_rfl) (fun _ _ _ h => h) (Or.inr ⟨by kernel_rfl, rfl⟩) ?_; refine wpAny_take (i := 17) (v := undef) rfl (by kernel_rfl) (by kernel_rfl) (by kernel_rfl) (fun _ _ _ h => h) (Or.inr ⟨by kernel_rfl, rfl⟩) ?_; refine wpAny_take (i := 18) (v := undef) rfl (by kernel_rfl) (by kernel_rfl) (by kernel_rfl) (fun _ _ _ h => h) (Or.inr ⟨by kernel_rfl, rfl⟩) ?_; refine wpAny_take (i := 19) (v := undef) rfl (by kernel_rfl) (by kernel_rfl) (by kernel_rfl) (fun _ _ _ h => h) (Or.inr ⟨by kernel_rfl, rfl⟩) ?_; refine wpAny_take (i := 20) (v := undef) rfl (by kernel_rfl) (by kernel_rfl) (by kernel_rfl) (fun _ _ _ h => h) (Or.inr ⟨by kernel_rfl, rfl⟩) ?_; refine wpAny_take (i := 21) (v := undef) rfl (by kernel_rfl) (by kernel_rfl) (by kernel_rfl) (fun _ _ _ h => h) (Or.inr ⟨by kernel_rfl, rfl⟩) ?_; refine wpAny_take (i := 22) (v := undef) rfl (by kernel_rfl) (by kernel_rfl) (by kernel_rfl) (fun _ _ _ h => h) (Or.inr ⟨by kernel_rfl, rfl⟩) ?_; refine wpAny_take (i := 23) (v := undef) rfl (by kernel_rfl) (by kernel_rfl) (by kernel_rfl) (fun _ _ _ h => h) (Or.inr ⟨by kernel_rfl, rfl⟩) ?_) | (go_simp; go_at_call 43; (first | with_reducible refine (k0 _).mono ?_ | with_reducible refine (k1 _).mono ?_); rintro X w2 ⟨rfl, hb⟩; (first | have E := E.drw.on hb | have E := E.on hb); have C := E.cells; simp only [BC, CF] at C; clear hb)) | fail
          all_goals go_wp2
          all_goals go_ret
          all_goals exact ⟨by rw [HR.out]; simp [sdV_len, L1, L2], E.1⟩
        · rw [L2] at k1
          by_cases hlt : x.e < x.b
          · have g : decide (x.e < x.b) = true := by simp [hlt]
            go_wp2
            first | go_region_law (first | (go_simp; go_at_call 44; (first | with_reducible refine (c0 _).mono ?_ | with_reducible refine (c1 _).mono ?_); rintro X w1 ⟨rfl, hb⟩; (first | have E := E.drw.on hb | have E := E.on hb); have C := E.cells; simp only [BC, CF] at C; clear hb) | (go_simp; go_at_call 43; (first | with_reducible refine (k0 _).mono ?_ | with_reducible refine (k1 _).mono ?_); rintro X w2 ⟨rfl, hb⟩; (first | have E := E.drw.on hb | have E := E.on hb); have C := E.cells; simp only [BC, CF] at C; clear hb)) | fail
            all_goals go_wp2
            all_goals go_ret
            all_goals exact ⟨by rw [HR.out]; simp [sdV_len, L1, L2, g], E.1⟩
          · have g : decide (x.e < x.b) = false := by simp; omega
            have hs : sdV x.b x.e = true := by rw [sdV_len, L1, L2, g]; rfl
            have HS := Lib.hid hs
            clear hs
            go_wp2
            first | go_region_law (first | (go_simp; go_at_call 44; (first | with_reducible refine (c0 _).mono ?_ | with_reducible refine (c1 _).mono ?_); rintro X w1 ⟨rfl, hb⟩; (first | have E := E.drw.on hb | have E := E.on hb); have C := E.cells; simp only [BC, CF] at C; clear hb) | (go_simp; go_at_call 43; (first | with_reducible refine (k0 _).mono ?_ | with_reducible refine (k1 _).mono ?_); rintro X w2 ⟨rfl, hb⟩; (first | have E := E.drw.on hb | have E := E.on hb); have C := E.cells; simp only [BC, CF] at C; clear hb)) | fail
            all_goals go_wp2
            all_goals exact ⟨⟨2, rfl, by omega, fun _ => h0 (by omega), fun _ => HS.out, fun h => by omega, E⟩, by simp [intOf]⟩
    · have C := E.cells
      simp [BC, CF] at C
      have c0 := fun W => rcoord2 x.a x.b x.c W
      have c1 := fun W => rcoord2 x.d x.e x.f W
      have k0 := fun W => rlen_b x.c W
      have k1 := fun W => rlen_b x.f W
      cases L1 : lenB x.c
      · rw [L1] at k0
        go_wp2
        first | go_region_law (first | (go_simp; go_at_call 44; (first | with_reducible refine (c0 _).mono ?_ | with_reducible refine (c1 _).mono ?_); rintro X w1 ⟨rfl, hb⟩; (first | have E := E.drw.on hb | have E := E.on hb); have C := E.cells; simp only [BC, CF] at C; clear hb) | (go_simp; go_at_call 43; (with_reducible refine (k0 _).mono ?_); rintro X w2 ⟨rfl, hb⟩; (first | have E := E.drw.on hb | have E := E.on hb); have C := E.cells; simp only [BC, CF] at C; clear hb; dsimp only; refine ‹∀ a w, wpAny _ _ _ _ _ _ a w → _› _ _ ?_; refine wpAny_take (i := 5) (v := .bool true) rfl (by kernel_rfl) (by kernel_rfl) (by kernel_rfl) (fun _ _ _ h => h) (Or.inl ⟨by kernel_rfl, fun w => by go_simp⟩) ?_; refine wpAny_take (i := 6) (v := .bool true) rfl (by kernel_rfl) (by kernel_rfl) (by kernel_rfl) (fun _ _ _ h => h) (Or.inl ⟨by kernel_rfl, fun w => by go_simp⟩) ?_; refine wpAny_take (i := 7) (v := undef) rfl (by kernel_rfl) (by kernel_rfl) (by kernel_rfl) (fun _ _ _ h => h) (Or.inr ⟨by kernel_rfl, rfl⟩) ?_; refine wpAny_take (i := 8) (v := undef) rfl (by kernel_rfl) (by kernel_rfl) (by kernel_rfl) (fun _ _ _ h => h) (Or.inr ⟨by kernel_rfl, rfl⟩) ?_; refine wpAny_take (i := 9) (v := undef) rfl (by kernel_rfl) (by kernel_rfl) (by kernel_rfl) (fun _ _ _ h => h) (Or.inr ⟨by kernel_rfl, rfl⟩) ?_; refine wpAny_take (i := 10) (v := undef) rfl (by kernel_rfl) (by kernel_rfl) (by kernel_rfl) (fun _ _ _ h => h) (Or.inr ⟨by kernel_rfl, rfl⟩) ?_; refine wpAny_take (i := 11) (v := undef) rfl (by kernel_rfl) (by kernel_rfl) (by kernel_rfl) (fun _ _ _ h => h) (Or.inr ⟨by kernel_rfl, rfl⟩) ?_; refine wpAny_take (i := 12) (v := undef) rfl (by kernel_rfl) (by kernel_rfl) (by kernel_rfl) (fun _ _ _ h => h) (Or.inr ⟨by kernel_rfl, rfl⟩) ?_; refine wpAny_take (i := 13) (v := .bool true) rfl (by kernel_rfl) (by kernel_rfl) (by kernel_rfl) (fun _ _ _ h => h) (Or.inl ⟨by kernel_rfl, fun w => by go_simp⟩) ?_; refine wpAny_take (i := 14) (v := .bool true) rfl (by kernel_rfl) (by kernel_rfl) (by kernel_rfl) (fun _ _ _ h => h) (Or.inl ⟨by kernel_rfl, fun w => by go_simp⟩) ?_; refine wpAny_take (i := 15) (v := undef) rfl (by kernel_rfl) (by kernel_rfl) (by kernel_rfl) (fun _ _ _ h => h) (Or.inr ⟨by kernel_rfl, rfl⟩) ?_; refine wpAny_take (i := 16) (v := undef) rfl (by kernel_rfl) (by kernel_rfl) (by kernel_rfl) (fun _ _ _ h => h) (Or.inr ⟨by kernel_rfl, rfl⟩) ?_; refine wpAny_take (i := 17) (v := undef) rfl (by kernel_rfl) (by kernel_rfl) (by kernel_rfl) (fun _ _ _ h => h) (Or.inr ⟨by kernel_rfl, rfl⟩) ?_; refine wpAny_take (i := 18) (v := undef) rfl (by kernel_rfl) (by kernel_rfl) (by kernel_rfl) (fun _ _ _ h => h) (Or.inr ⟨by kernel_rfl, rfl⟩) ?_; refine wpAny_take (i := 19) (v := undef) rfl (by kernel_rfl) (by kernel_rfl) (by kernel_rfl) (fun _ _ _ h => h) (Or.inr ⟨by kernel_rfl, rfl⟩) ?_; refine wpAny_take (i := 20) (v := undef) rfl (by kernel_rfl) (by kernel_rfl) (by kernel_rfl) (fun _ _ _ h => h) (Or.inr ⟨by kernel_rfl, rfl⟩) ?_; refine wpAny_take (i := 21) (v := undef) rfl (by kernel_rfl) (by kernel_rfl) (by kernel_rfl) (fun _ _ _ h => h) (Or.inr ⟨by kernel_rfl, rfl⟩) ?_; refine wpAny_take (i := 22) (v := undef) rfl (by kernel_rfl) (by kernel_rfl) (by kernel_rfl) (fun _ _ _ h => h) (Or.inr ⟨by kernel_rfl, rfl⟩) ?_; refine wpAny_take (i := 23) (v := undef) rfl (by kernel_rfl) (by kernel_rfl) (by kernel_rfl) (fun _ _ _ h => h) (Or.inr ⟨by kernel_rfl, rfl⟩) ?_)) | fail
        all_goals go_wp2
        all_goals go_ret
        all_goals exact ⟨by rw [HR.out]; simp [sdV_len, L1], E.1⟩
      · rw [L1] at k0
        cases L2 : lenB x.f
        · rw [L2] at k1
          go_wp2
          first | go_region_law (first | (go_simp; go_at_call 44; (first | with_reducible refine (c0 _).mono ?_ | with_reducible refine (c1 _).mono ?_); rintro X w1 ⟨rfl, hb⟩; (first | have E := E.drw.on hb | have E := E.on hb); have C := E.cells; simp only [BC, CF] at C; clear hb) | (go_simp; go_at_call 43; (with_reducible refine (k1 _).mono ?_); rintro X w2 ⟨rfl, hb⟩; (first | have E := E.drw.on hb | have E := E.on hb); have C := E.cells; simp only [BC, CF] at C; clear hb; dsimp only; refine ‹∀ a w, wpAny _ _ _ _ _ _ a w → _› _ _ ?_; refine wpAny_take (i := 12) (v := .bool true) rfl (by kernel_rfl) (by kernel_rfl) (by kernel_rfl) (fun _ _ _ h => h) (Or.inl ⟨by kernel_rfl, fun w => by go_simp⟩) ?_; refine wpAny_take (i := 13) (v := .bool true) rfl (by kernel_rfl) (by kernel_rfl) (by kernel_rfl) (fun _ _ _ h => h) (Or.inl ⟨by kernel_rfl, fun w => by go_simp⟩) ?_; refine wpAny_take (i := 14) (v := .bool true) rfl (by kernel_rfl) (by kernel_rfl) (by kernel_rfl) (fun _ _ _ h => h) (Or.inl ⟨by kernel_rfl, fun w => by go_simp⟩) ?_; refine wpAny_take (i := 15) (v := undef) rfl (by kernel_rfl) (by kernel_rfl) (by kernel_rfl) (fun _ _ _ h => h) (Or.inr ⟨by kernel_rfl, rfl⟩) ?_; refine wpAny_take (i := 16) (v := undef) rfl (by kernel_rfl) (by kernel_rfl) (by kernel_rfl) (fun _ _ _ h => h) (Or.inr ⟨by kernel_rfl, rfl⟩) ?_; refine wpAny_take (i := 17) (v := undef) rfl (by kernel_rfl) (by kernel_rfl) (by kernel_rfl) (fun _ _ _ h => h) (Or.inr ⟨by kernel_rfl, rfl⟩) ?_; refine wpAny_take (i := 18) (v := undef) rfl (by kernel_rfl) (by kernel_rfl) (by kernel_rfl) (fun _ _ _ h => h) (Or.inr ⟨by kernel_rfl, rfl⟩) ?_; refine wpAny_take (i := 19) (v := undef) rfl (by kernel_rfl) (by kernel_rfl) (by kernel_rfl) (fun _ _ _ h => h) (Or.inr ⟨by kernel_rfl, rfl⟩) ?_; refine wpAny_take (i := 20) (v := undef) rfl (by kernel_rfl) (by kernel_rfl) (by kernel_rfl) (fun _ _ _ h => h) (Or.inr ⟨by kernel_rfl, rfl⟩) ?_; refine wpAny_take (i := 21) (v := undef) rfl (by kernel_rfl) (by kernel_rfl) (by kernel_rfl) (fun _ _ _ h => h) (Or.inr ⟨by kernel_rfl, rfl⟩) ?_; refine wpAny_take (i := 22) (v := undef) rfl (by kernel_rfl) (by kernel_rfl) (by kernel_rfl) (fun _ _ _ h => h) (Or.inr ⟨by kernel_rfl, rfl⟩) ?_; refine wpAny_take (i := 23) (v := undef) rfl (by kernel_rfl) (by kernel_rfl) (by kernel_rfl) (fun _ _ _ h => h) (Or.inr ⟨by kernel_rfl, rfl⟩) ?_) | (go_simp; go_at_call 43; (first | with_reducible refine (k0 _).mono ?_ | with_reducible refine (k1 _).mono ?_); rintro X w2 ⟨rfl, hb⟩; (first | have E := E.drw.on hb | have E := E.on hb); have C := E.cells; simp only [BC, CF] at C; clear hb)) | fail
          all_goals go_wp2
          all_goals go_ret
          all_goals exact ⟨by rw [HR.out]; simp [sdV_len, L1, L2], E.1⟩
        · rw [L2] at k1
          by_cases hlt : x.f < x.c
          · have g : decide (x.f < x.c) = true := by simp [hlt]
            go_wp2
            first | go_region_law (first | (go_simp; go_at_call 44; (first | with_reducible refine (c0 _).mono ?_ | with_reducible refine (c1 _).mono ?_); rintro X w1 ⟨rfl, hb⟩; (first | have E := E.drw.on hb | have E := E.on hb); have C := E.cells; simp only [BC, CF] at C; clear hb) | (go_simp; go_at_call 43; (first | with_reducible refine (k0 _).mono ?_ | with_reducible refine (k1 _).mono ?_); rintro X w2 ⟨rfl, hb⟩; (first | have E := E.drw.on hb | have E := E.on hb); have C := E.cells; simp only [BC, CF] at C; clear hb)) | fail
            all_goals go_wp2
            all_goals go_ret
            all_goals exact ⟨by rw [HR.out]; simp [sdV_len, L1, L2, g], E.1⟩
          · have g : decide (x.f < x.c) = false := by simp; omega
            have hs : sdV x.c x.f = true := by rw [sdV_len, L1, L2, g]; rfl
            have HS := Lib.hid hs
            clear hs
            go_wp2
            first | go_region_law (first | (go_simp; go_at_call 44; (first | with_reducible refine (c0 _).mono ?_ | with_reducible refine (c1 _).mono ?_); rintro X w1 ⟨rfl, hb⟩; (first | have E := E.drw.on hb | have E := E.on hb); have C := E.cells; simp only [BC, CF] at C; clear hb) | (go_simp; go_at_call 43; (first | with_reducible refine (k0 _).mono ?_ | with_reducible refine (k1 _).mono ?_); rintro X w2 ⟨rfl, hb⟩; (first | have E := E.drw.on hb | have E := E.on hb); have C := E.cells; simp only [BC, CF] at C; clear hb)) | fail
            all_goals go_wp2
            all_goals exact ⟨⟨3, rfl, by omega, fun _ => h0 (by omega), fun _ => h1 (by omega), fun _ => HS.out, E⟩, by simp [intOf]⟩
    · go_wp2
      go_ret
      exact ⟨by rw [HR.out, h0 (by omega), h1 (by omega), h2 (by omega)]; rfl, E.1⟩
end Go.Proofs.Ytffigpkkdljaiaa
