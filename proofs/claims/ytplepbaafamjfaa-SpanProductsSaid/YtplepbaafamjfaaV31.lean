/- The reference's Mul: its walk. -/
import Derived.Test.YtplepbaafamjfaaV30
namespace Go.Proofs.Ytplepbaafamjfaa
open Go.ChangeShapes Go.WideShapes Go.ChangeAt Go.RowKit
set_option linter.unusedVariables false
set_option linter.unusedSimpArgs false

def tk (a b c d : Int) (i : Nat) : List Value := ([.int .i64 a, .int .i64 b, .int .i64 c, .int .i64 d] : List Value).take i
/-- The first i are within. -/
def Gd (b0 b1 b2 b3 : Bool) (i : Nat) : Prop := i ≤ 4 ∧ (1 ≤ i → b0 = true) ∧ (2 ≤ i → b1 = true) ∧ (3 ≤ i → b2 = true) ∧ (4 ≤ i → b3 = true)
set_option maxRecDepth 100000 in
set_option maxHeartbeats 8000000 in
theorem rmul_walk (al ah bl bh q0 q1 q2 q3 : Int) (b0 b1 b2 b3 : Bool) (w : World)
    (r0 : ∀ W, Calls Try.prog 36 #[.int .i64 al, .int .i64 bl, .int .i64 1, .bool false] W fun e w' => e = .returned (.tuple #[.int .i64 q0, .bool b0]) ∧ Below W.heap.size W w') (r1 : ∀ W, Calls Try.prog 36 #[.int .i64 ah, .int .i64 bl, .int .i64 1, .bool false] W fun e w' => e = .returned (.tuple #[.int .i64 q1, .bool b1]) ∧ Below W.heap.size W w') (r2 : ∀ W, Calls Try.prog 36 #[.int .i64 al, .int .i64 bh, .int .i64 1, .bool false] W fun e w' => e = .returned (.tuple #[.int .i64 q2, .bool b2]) ∧ Below W.heap.size W w') (r3 : ∀ W, Calls Try.prog 36 #[.int .i64 ah, .int .i64 bh, .int .i64 1, .bool false] W fun e w' => e = .returned (.tuple #[.int .i64 q3, .bool b3]) ∧ Below W.heap.size W w')
    {x y e0 : Int} (hr : (if b0 && b1 && b2 && b3 then fitS (mn4 q0 q1 q2 q3) (mx4 q0 q1 q2 q3) else (0, 0, 5)) = (x, y, e0)) :
    Calls Try.prog 25 #[.agg #[.int .i64 al, .int .i64 ah], .agg #[.int .i64 bl, .int .i64 bh]] w fun e w' => e = .returned (.tuple #[.agg #[.int .i64 x, .int .i64 y], .int .i64 e0]) ∧ Below w.heap.size w w' := by
  obtain ⟨i0, hi0, hz0, hz1, hz2⟩ := info_parts info3i
  have E0 := env_three w al ah bl bh 0 0 23 23 23
  have HR := Lib.hid hr; clear hr
  go_enter Try.func25, Try.ntmps25
  go_wp2
  go_loopw [6, 7] (fun v6 v7 wr => ∃ i : Nat, v7 = .int .i64 i ∧ Hid (Gd b0 b1 b2 b3 i) ∧ wr.ownsRow (w.heap.size + 1 + 1 + 1) 3 1 v6 i (tk q0 q1 q2 q3 i) ∧ Env w wr [⟨w.heap.size + 1 + 1, 23, 0, 0⟩, ⟨w.heap.size + 1, 23, bl, bh⟩, ⟨w.heap.size, 23, al, ah⟩]) (fun _ v7 _ => 4 - (intOf v7).toNat)
  case atStart => exact ⟨0, rfl, Lib.hid (by unfold Gd; omega), World.ownsRow_nil _ _ _ _, E0⟩
  case round =>
    clear E0
    obtain ⟨i, rfl, hG, hO, hE⟩ := hrel
    have C := hE.cells
    simp only [BC] at C
    have hi : i = 0 ∨ i = 1 ∨ i = 2 ∨ i = 3 ∨ i = 4 := by have := hG.out.1; omega
    rcases hi with rfl | rfl | rfl | rfl | rfl
    · simp only [show ((0 : Nat) : Int) = 0 from rfl]
      cases b0
      · obtain rfl : x = 0 := by have h := HR.out; simp at h; omega
        obtain rfl : y = 0 := by have h := HR.out; simp at h; omega
        obtain rfl : e0 = 5 := by have h := HR.out; simp at h; omega
        clear HR hG
        go_wp2
        go_quiet (fail)
        go_wp2_with (go_at_call 36; (with_reducible refine (r0 _).mono ?_); rintro e w2 ⟨rfl, hb⟩; have E2 : Env w w2 [⟨w.heap.size + 1 + 1, 23, 0, 0⟩, ⟨w.heap.size + 1, 23, bl, bh⟩, ⟨w.heap.size, 23, al, ah⟩] := (by first | exact hE.on hb | exact Env.on (by exact hE.on (Dr.below' ⟨_, rfl⟩)) hb | exact Env.on (by exact hE.on (Dr.below' ⟨1, rfl⟩)) hb); have C2 := E2.cells; simp only [BC] at C2; have O2 := own_on (by exact hO) hb; have ge := own_ge O2; clear hb C)
        refine bodyPost_ret (v := .tuple #[.agg #[.int .i64 0, .int .i64 0], .int .i64 5]) (by simp [results, Try.results25, go_sem, C2]) rfl ⟨rfl, ?_⟩
        exact (E2.1.setCell (by simp; omega) _).setCell (by simp; omega) _
      · go_wp2
        go_quiet (fail)
        go_wp2_with (first | (go_at_call 36; (with_reducible refine (r0 _).mono ?_); rintro e w2 ⟨rfl, hb⟩; have E2 : Env w w2 [⟨w.heap.size + 1 + 1, 23, 0, 0⟩, ⟨w.heap.size + 1, 23, bl, bh⟩, ⟨w.heap.size, 23, al, ah⟩] := (by first | exact hE.on hb | exact Env.on (by exact hE.on (Dr.below' ⟨_, rfl⟩)) hb | exact Env.on (by exact hE.on (Dr.below' ⟨1, rfl⟩)) hb); have C2 := E2.cells; simp only [BC] at C2; have O2 := own_on (by exact hO) hb; have ge := own_ge O2; clear hb C) | (at_builtin; refine wpList_append_own _ rfl (.tmp 39) (.tmp 41) 62 rfl (w.heap.size + 1 + 1 + 1) 3 i0 _ 1 8 Try.underlying62 hi0 hz0 hz1 hz2 rfl (by decide) u6 0 (tk q0 q1 q2 q3 0) rfl (O2.alloc _) ⟨w2.heap.size, 0, none⟩ 1 1 [.int .i64 q0] rfl rfl ?c1 ?c2 ?c3 ?c4 ?c5 ?_))
        case c1 => exact World.news_of_block (cs := #[.int .i64 q0]) (t := 3) (fr := (0, 0)) (heap_alloc_new w2 _)
        case c2 => simp [Value.oneCell']
        case c3 => unfold maxLen; omega
        case c4 => omega
        case c5 => simp; omega
        intro v' w3 hO3 hg3 _
        have E3 := env_grow (E2.more _) hg3 ge
        go_wp2
        exact ⟨⟨1, rfl, Lib.hid (by have := hG.out; unfold Gd at *; simp_all), hO3, E3⟩, by simp [intOf]⟩
    · simp only [show ((1 : Nat) : Int) = 1 from rfl]
      cases b1
      · obtain rfl : x = 0 := by have h := HR.out; simp at h; omega
        obtain rfl : y = 0 := by have h := HR.out; simp at h; omega
        obtain rfl : e0 = 5 := by have h := HR.out; simp at h; omega
        clear HR hG
        go_wp2
        go_quiet (fail)
        go_wp2_with (go_at_call 36; (with_reducible refine (r1 _).mono ?_); rintro e w2 ⟨rfl, hb⟩; have E2 : Env w w2 [⟨w.heap.size + 1 + 1, 23, 0, 0⟩, ⟨w.heap.size + 1, 23, bl, bh⟩, ⟨w.heap.size, 23, al, ah⟩] := (by first | exact hE.on hb | exact Env.on (by exact hE.on (Dr.below' ⟨_, rfl⟩)) hb | exact Env.on (by exact hE.on (Dr.below' ⟨1, rfl⟩)) hb); have C2 := E2.cells; simp only [BC] at C2; have O2 := own_on (by exact hO) hb; have ge := own_ge O2; clear hb C)
        refine bodyPost_ret (v := .tuple #[.agg #[.int .i64 0, .int .i64 0], .int .i64 5]) (by simp [results, Try.results25, go_sem, C2]) rfl ⟨rfl, ?_⟩
        exact (E2.1.setCell (by simp; omega) _).setCell (by simp; omega) _
      · go_wp2
        go_quiet (fail)
        go_wp2_with (first | (go_at_call 36; (with_reducible refine (r1 _).mono ?_); rintro e w2 ⟨rfl, hb⟩; have E2 : Env w w2 [⟨w.heap.size + 1 + 1, 23, 0, 0⟩, ⟨w.heap.size + 1, 23, bl, bh⟩, ⟨w.heap.size, 23, al, ah⟩] := (by first | exact hE.on hb | exact Env.on (by exact hE.on (Dr.below' ⟨_, rfl⟩)) hb | exact Env.on (by exact hE.on (Dr.below' ⟨1, rfl⟩)) hb); have C2 := E2.cells; simp only [BC] at C2; have O2 := own_on (by exact hO) hb; have ge := own_ge O2; clear hb C) | (at_builtin; refine wpList_append_own _ rfl (.tmp 39) (.tmp 41) 62 rfl (w.heap.size + 1 + 1 + 1) 3 i0 _ 1 8 Try.underlying62 hi0 hz0 hz1 hz2 rfl (by decide) u6 1 (tk q0 q1 q2 q3 1) rfl (O2.alloc _) ⟨w2.heap.size, 0, none⟩ 1 1 [.int .i64 q1] rfl rfl ?c1 ?c2 ?c3 ?c4 ?c5 ?_))
        case c1 => exact World.news_of_block (cs := #[.int .i64 q1]) (t := 3) (fr := (0, 0)) (heap_alloc_new w2 _)
        case c2 => simp [Value.oneCell']
        case c3 => unfold maxLen; omega
        case c4 => omega
        case c5 => simp; omega
        intro v' w3 hO3 hg3 _
        have E3 := env_grow (E2.more _) hg3 ge
        go_wp2
        exact ⟨⟨2, rfl, Lib.hid (by have := hG.out; unfold Gd at *; simp_all), hO3, E3⟩, by simp [intOf]⟩
    · simp only [show ((2 : Nat) : Int) = 2 from rfl]
      cases b2
      · obtain rfl : x = 0 := by have h := HR.out; simp at h; omega
        obtain rfl : y = 0 := by have h := HR.out; simp at h; omega
        obtain rfl : e0 = 5 := by have h := HR.out; simp at h; omega
        clear HR hG
        go_wp2
        go_quiet (fail)
        go_wp2_with (go_at_call 36; (with_reducible refine (r2 _).mono ?_); rintro e w2 ⟨rfl, hb⟩; have E2 : Env w w2 [⟨w.heap.size + 1 + 1, 23, 0, 0⟩, ⟨w.heap.size + 1, 23, bl, bh⟩, ⟨w.heap.size, 23, al, ah⟩] := (by first | exact hE.on hb | exact Env.on (by exact hE.on (Dr.below' ⟨_, rfl⟩)) hb | exact Env.on (by exact hE.on (Dr.below' ⟨1, rfl⟩)) hb); have C2 := E2.cells; simp only [BC] at C2; have O2 := own_on (by exact hO) hb; have ge := own_ge O2; clear hb C)
        refine bodyPost_ret (v := .tuple #[.agg #[.int .i64 0, .int .i64 0], .int .i64 5]) (by simp [results, Try.results25, go_sem, C2]) rfl ⟨rfl, ?_⟩
        exact (E2.1.setCell (by simp; omega) _).setCell (by simp; omega) _
      · go_wp2
        go_quiet (fail)
        go_wp2_with (first | (go_at_call 36; (with_reducible refine (r2 _).mono ?_); rintro e w2 ⟨rfl, hb⟩; have E2 : Env w w2 [⟨w.heap.size + 1 + 1, 23, 0, 0⟩, ⟨w.heap.size + 1, 23, bl, bh⟩, ⟨w.heap.size, 23, al, ah⟩] := (by first | exact hE.on hb | exact Env.on (by exact hE.on (Dr.below' ⟨_, rfl⟩)) hb | exact Env.on (by exact hE.on (Dr.below' ⟨1, rfl⟩)) hb); have C2 := E2.cells; simp only [BC] at C2; have O2 := own_on (by exact hO) hb; have ge := own_ge O2; clear hb C) | (at_builtin; refine wpList_append_own _ rfl (.tmp 39) (.tmp 41) 62 rfl (w.heap.size + 1 + 1 + 1) 3 i0 _ 1 8 Try.underlying62 hi0 hz0 hz1 hz2 rfl (by decide) u6 2 (tk q0 q1 q2 q3 2) rfl (O2.alloc _) ⟨w2.heap.size, 0, none⟩ 1 1 [.int .i64 q2] rfl rfl ?c1 ?c2 ?c3 ?c4 ?c5 ?_))
        case c1 => exact World.news_of_block (cs := #[.int .i64 q2]) (t := 3) (fr := (0, 0)) (heap_alloc_new w2 _)
        case c2 => simp [Value.oneCell']
        case c3 => unfold maxLen; omega
        case c4 => omega
        case c5 => simp; omega
        intro v' w3 hO3 hg3 _
        have E3 := env_grow (E2.more _) hg3 ge
        go_wp2
        exact ⟨⟨3, rfl, Lib.hid (by have := hG.out; unfold Gd at *; simp_all), hO3, E3⟩, by simp [intOf]⟩
    · simp only [show ((3 : Nat) : Int) = 3 from rfl]
      cases b3
      · obtain rfl : x = 0 := by have h := HR.out; simp at h; omega
        obtain rfl : y = 0 := by have h := HR.out; simp at h; omega
        obtain rfl : e0 = 5 := by have h := HR.out; simp at h; omega
        clear HR hG
        go_wp2
        go_quiet (fail)
        go_wp2_with (go_at_call 36; (with_reducible refine (r3 _).mono ?_); rintro e w2 ⟨rfl, hb⟩; have E2 : Env w w2 [⟨w.heap.size + 1 + 1, 23, 0, 0⟩, ⟨w.heap.size + 1, 23, bl, bh⟩, ⟨w.heap.size, 23, al, ah⟩] := (by first | exact hE.on hb | exact Env.on (by exact hE.on (Dr.below' ⟨_, rfl⟩)) hb | exact Env.on (by exact hE.on (Dr.below' ⟨1, rfl⟩)) hb); have C2 := E2.cells; simp only [BC] at C2; have O2 := own_on (by exact hO) hb; have ge := own_ge O2; clear hb C)
        refine bodyPost_ret (v := .tuple #[.agg #[.int .i64 0, .int .i64 0], .int .i64 5]) (by simp [results, Try.results25, go_sem, C2]) rfl ⟨rfl, ?_⟩
        exact (E2.1.setCell (by simp; omega) _).setCell (by simp; omega) _
      · go_wp2
        go_quiet (fail)
        go_wp2_with (first | (go_at_call 36; (with_reducible refine (r3 _).mono ?_); rintro e w2 ⟨rfl, hb⟩; have E2 : Env w w2 [⟨w.heap.size + 1 + 1, 23, 0, 0⟩, ⟨w.heap.size + 1, 23, bl, bh⟩, ⟨w.heap.size, 23, al, ah⟩] := (by first | exact hE.on hb | exact Env.on (by exact hE.on (Dr.below' ⟨_, rfl⟩)) hb | exact Env.on (by exact hE.on (Dr.below' ⟨1, rfl⟩)) hb); have C2 := E2.cells; simp only [BC] at C2; have O2 := own_on (by exact hO) hb; have ge := own_ge O2; clear hb C) | (at_builtin; refine wpList_append_own _ rfl (.tmp 39) (.tmp 41) 62 rfl (w.heap.size + 1 + 1 + 1) 3 i0 _ 1 8 Try.underlying62 hi0 hz0 hz1 hz2 rfl (by decide) u6 3 (tk q0 q1 q2 q3 3) rfl (O2.alloc _) ⟨w2.heap.size, 0, none⟩ 1 1 [.int .i64 q3] rfl rfl ?c1 ?c2 ?c3 ?c4 ?c5 ?_))
        case c1 => exact World.news_of_block (cs := #[.int .i64 q3]) (t := 3) (fr := (0, 0)) (heap_alloc_new w2 _)
        case c2 => simp [Value.oneCell']
        case c3 => unfold maxLen; omega
        case c4 => omega
        case c5 => simp; omega
        intro v' w3 hO3 hg3 _
        have E3 := env_grow (E2.more _) hg3 ge
        go_wp2
        exact ⟨⟨4, rfl, Lib.hid (by have := hG.out; unfold Gd at *; simp_all), hO3, E3⟩, by simp [intOf]⟩
    · simp only [show ((4 : Nat) : Int) = 4 from rfl]
      obtain ⟨-, g0, g1, g2, g3⟩ := hG.out
      obtain rfl := g0 (by omega)
      obtain rfl := g1 (by omega)
      obtain rfl := g2 (by omega)
      obtain rfl := g3 (by omega)
      have hr : fitS (mn4 q0 q1 q2 q3) (mx4 q0 q1 q2 q3) = (x, y, e0) := by simpa using HR.out
      clear HR hG g0 g1 g2 g3
      have hl := fun W h => least_own q0 q1 q2 q3 u6 (w.heap.size + 1 + 1 + 1) W h
      have hg := fun W h => greatest_own q0 q1 q2 q3 u6 (w.heap.size + 1 + 1 + 1) W h
      generalize mn4 q0 q1 q2 q3 = m at *
      generalize mx4 q0 q1 q2 q3 = M at *
      have hF := fun W => rfits_any m M W hr
      clear hr
      go_wp2_with (first | (go_at_call 49; (with_reducible refine (hl _ hO).mono ?_); rintro e w3 ⟨rfl, rfl⟩) | (go_at_call 48; (with_reducible refine (hg _ hO).mono ?_); rintro e w3 ⟨rfl, rfl⟩) | (go_at_call 47; (with_reducible refine (hF _).mono ?_); rintro e w5 ⟨rfl, hb⟩; have E5 := hE.on hb; have C5 := E5.cells; simp only [BC] at C5; clear C hb))
      have h0 := ((E5.2.1.put_ 0 (.int .i64 x)).put_ 1 (.int .i64 y)).read 0
      have h1 := ((E5.2.1.put_ 0 (.int .i64 x)).put_ 1 (.int .i64 y)).read 1
      refine bodyPost_ret (v := .tuple #[.agg #[.int .i64 x, .int .i64 y], .int .i64 e0]) (by simp [results, Try.results25, go_sem] at h0 h1 ⊢; simp [h0, h1]) rfl ⟨rfl, ?_⟩
      exact (E5.1.setCell (by simp; omega) _).setCell (by simp; omega) _

end Go.Proofs.Ytplepbaafamjfaa
