/- BoxFills. -/
import Derived.Test.YtffigpkkdljaiaaFd
namespace Go.Proofs.Ytffigpkkdljaiaa
open Go.ChangeShapes Go.WideShapes Go.ChangeAt Go.RowKit
set_option linter.unusedVariables false
set_option linter.unusedSimpArgs false

set_option maxHeartbeats 32000000 in
set_option maxRecDepth 100000 in
theorem fills_tf (p : Option Addr) (l : List Bx) (cap : Nat) (b : Bx) (x y z : Int) (w : World) (hS : Sl w p l) (hl : l.length ≤ 8) (P0 P1 P2 : Int) (IN MORE : Bool)
    (h27 : ∀ W, Sl W p l → Calls Try.prog 27 #[.slice p l.length cap] W fun E w' => E = .returned (.bool true) ∧ Below W.heap.size W w') (h14 : ∀ W, Calls Try.prog 14 #[b.val] W fun E w' => E = .returned (.bool true) ∧ Below W.heap.size W w')
    (h32 : ∀ W, Sl W p l → Calls Try.prog 32 #[.slice p l.length cap, b.val] W fun E w' => E = .returned (.tuple #[.bool false, .int .i64 0]) ∧ Below W.heap.size W w')
    (h25 : ∀ W, Calls Try.prog 25 #[b.val, .int .u16 x, .int .u16 y, .int .u16 z] W fun E w' => E = .returned (ptv P0 P1 P2) ∧ Below W.heap.size W w')
    (h32l : ∀ W, Sl W p l → Calls Try.prog 32 #[.slice p l.length cap, (leftB b P0).val] W fun E w' => E = .returned (.tuple #[.bool true, .int .i64 0]) ∧ Below W.heap.size W w')
    (h32r : ∀ W, Sl W p l → Calls Try.prog 32 #[.slice p l.length cap, (rightB b P0).val] W fun E w' => E = .returned (.tuple #[.bool false, .int .i64 0]) ∧ Below W.heap.size W w')
    (h34 : ∀ g W, Sl W p l → Has W g 23 #[.int .i64 P0, .int .i64 P1, .int .i64 P2] → Calls Try.prog 34 #[.slice p l.length cap, .func (.func 35) #[] #[.pointer (some ⟨g, 0, none⟩)]] W fun E w' => E = .returned (.bool IN) ∧ Below W.heap.size W w')
    (h23 : ∀ W, Calls Try.prog 23 #[(ptv P0 P1 P2)] W fun E w' => E = .returned (ptB P0 P1 P2).val ∧ Below W.heap.size W w')
    (h32p : ∀ W, Sl W p l → Calls Try.prog 32 #[.slice p l.length cap, (ptB P0 P1 P2).val] W fun E w' => E = .returned (.tuple #[.bool IN, .int .i64 0]) ∧ Below W.heap.size W w')
    (h36 : ∀ W, Sl W p l → Calls Try.prog 36 #[.slice p l.length cap] W fun e w' => ∃ v, e = .returned v ∧ Own cb 25 6 W.heap.size w' v l ∧ Below W.heap.size W w')
    (h32m : ∀ q c W, Sl W q (l ++ [leftB b P0]) → Calls Try.prog 32 #[.slice q (l.length + 1) c, b.val] W fun E w' => E = .returned (.tuple #[.bool MORE, .int .i64 0]) ∧ Below W.heap.size W w')
    (h32o : ∀ g W, Has W g 25 #[.int .i64 b.a, .int .i64 b.b, .int .i64 b.c, .int .i64 b.d, .int .i64 b.e, .int .i64 b.f] → Calls Try.prog 32 #[.slice (some ⟨g, 0, none⟩) 1 1, (leftB b P0).val] W fun E w' => E = .returned (.tuple #[.bool true, .int .i64 0]) ∧ Below W.heap.size W w') :
    Calls Try.prog 9 #[.slice p l.length cap, b.val, .int .u16 x, .int .u16 y, .int .u16 z] w fun e w' => e = .returned (.bool true) ∧ Below w.heap.size w w' := by
  obtain ⟨i0, hi, hz0, hz1, hz2⟩ := info_parts info25
  have E := (Env.nil w).add w.heap.size 25 #[.int .i64 b.a, .int .i64 b.b, .int .i64 b.c, .int .i64 b.d, .int .i64 b.e, .int .i64 b.f] rfl
  have h10 := fun W => awake_any W
  have g0 : decide ((8 : Int) < (l.length : Int)) = false := by simp; omega
  unfold ptB leftB rightB ptv Bx.val at *
  have C := E.cells
  simp [BC, CF] at C
  go_enter Try.func9, Try.ntmps9
  go_upto_region 9 with (first
    | (go_at_call 10; (with_reducible refine (h10 _).mono ?_); rintro X w10 ⟨rfl, hb⟩; replace E := E.on hb; replace C := E.cells; simp [BC, CF] at C; clear hb)
    | (go_at_call 27; (with_reducible refine (h27 _ (hS.on (envb E))).mono ?_); rintro X w27 ⟨rfl, hb⟩; replace E := E.on hb; replace C := E.cells; simp [BC, CF] at C; clear hb)
    | (go_at_call 14; (with_reducible refine (h14 _).mono ?_); rintro X w14 ⟨rfl, hb⟩; replace E := E.on hb; replace C := E.cells; simp [BC, CF] at C; clear hb)
    | (go_at_call 32; (with_reducible refine (h32 _ (hS.on (envb E))).mono ?_); rintro X w32 ⟨rfl, hb⟩; replace E := E.on hb; replace C := E.cells; simp [BC, CF] at C; clear hb)
    | (go_at_call 25; (with_reducible refine (h25 _).mono ?_); rintro X w25 ⟨rfl, hb⟩; replace E := (E.on hb).add w25.heap.size 23 #[.int .i64 P0, .int .i64 P1, .int .i64 P2] rfl; replace C := E.cells; simp [BC, CF] at C; clear hb))
  generalize hV : w25.alloc (.cells #[.int .i64 P0, .int .i64 P1, .int .i64 P2] 23) = V at *
  clear hV C
  have C := E.cells
  simp [BC, CF] at C
  go_cut [14, 15] (fun s t wx => ∃ g k : Nat, s = .pointer (some ⟨g, 0, none⟩) ∧ t = .pointer (some ⟨k, 0, none⟩) ∧ Env w wx [⟨k, 25, #[.int .i64 b.a, .int .i64 b.b, .int .i64 b.c, .int .i64 b.d, .int .i64 b.e, .int .i64 b.f]⟩, ⟨g, 25, #[.int .i64 b.a, .int .i64 b.b, .int .i64 b.c, .int .i64 b.d, .int .i64 b.e, .int .i64 b.f]⟩, ⟨w25.heap.size, 23, #[.int .i64 P0, .int .i64 P1, .int .i64 P2]⟩, ⟨w.heap.size, 25, #[.int .i64 b.a, .int .i64 b.b, .int .i64 b.c, .int .i64 b.d, .int .i64 b.e, .int .i64 b.f]⟩])
  case first =>
    go_region_law (fail)
    all_goals (go_wp2_with fail)
    all_goals go_meet
    all_goals refine ⟨_, _, rfl, rfl, ?_⟩
    all_goals (repeat with_reducible refine Env.drw ?_)
    all_goals (try with_reducible exact tw1 E)
    all_goals (try with_reducible exact tw2 E)
    all_goals (try with_reducible exact ((E.add _ 25 #[.int .i64 0, .int .i64 0, .int .i64 0, .int .i64 0, .int .i64 0, .int .i64 0] rfl).add _ 25 #[.int .i64 b.a, .int .i64 b.b, .int .i64 b.c, .int .i64 b.d, .int .i64 b.e, .int .i64 b.f] (sz1 rfl)).six 1 rfl)
    all_goals (try with_reducible exact ((((E.add _ 25 #[.int .i64 0, .int .i64 0, .int .i64 0, .int .i64 0, .int .i64 0, .int .i64 0] rfl).add _ 25 #[.int .i64 b.a, .int .i64 b.b, .int .i64 b.c, .int .i64 b.d, .int .i64 b.e, .int .i64 b.f] (sz1 rfl)).six 1 rfl).swap))
    all_goals exact (0 : Nat)
  case rest =>
    clear E C
    obtain ⟨g, k, rfl, rfl, E⟩ := hcut
    have C := E.cells
    simp [BC, CF] at C
    have D := E.dist
    simp [DI, DJ] at D
    go_wp2_with fail
    go_cut [] (fun wx => Env w wx [⟨k, 25, #[.int .i64 P0, .int .i64 b.b, .int .i64 b.c, .int .i64 b.d, .int .i64 b.e, .int .i64 b.f]⟩, ⟨g, 25, #[.int .i64 b.a, .int .i64 b.b, .int .i64 b.c, .int .i64 P0, .int .i64 b.e, .int .i64 b.f]⟩, ⟨w25.heap.size, 23, #[.int .i64 P0, .int .i64 P1, .int .i64 P2]⟩, ⟨w.heap.size, 25, #[.int .i64 b.a, .int .i64 b.b, .int .i64 b.c, .int .i64 b.d, .int .i64 b.e, .int .i64 b.f]⟩])
    case first =>
      go_region_law (fail)
      all_goals (go_wp2_with fail)
      all_goals go_meet
      all_goals (repeat with_reducible refine Env.drw ?_)
      all_goals first | with_reducible exact fl_a E | with_reducible exact fl_b E
    case rest =>
      clear E C D
      have E := hcut
      have C := E.cells
      simp [BC, CF] at C
      go_upto_region 19 with (first
        | (go_at_call 32; (with_reducible refine (h32l _ (hS.on (envb E))).mono ?_); rintro X w33 ⟨rfl, hb⟩; replace E := E.on hb; replace C := E.cells; simp [BC, CF] at C; clear hb)
        | (go_at_call 32; (with_reducible refine (h32r _ (hS.on (envb E))).mono ?_); rintro X w34 ⟨rfl, hb⟩; replace E := E.on hb; replace C := E.cells; simp [BC, CF] at C; clear hb)
        | (go_at_call 34; (have hP := env_third E; have hQ := hS.on (envb E); (with_reducible refine (h34 _ _ hQ hP).mono ?_)); rintro X w35 ⟨rfl, hb⟩; replace E := E.on hb; replace C := E.cells; simp [BC, CF] at C; clear hb)
        | (go_at_call 23; (with_reducible refine (h23 _).mono ?_); rintro X w36 ⟨rfl, hb⟩; replace E := E.on hb; replace C := E.cells; simp [BC, CF] at C; clear hb)
        | (go_at_call 32; (with_reducible refine (h32p _ (hS.on (envb E))).mono ?_); rintro X w37 ⟨rfl, hb⟩; replace E := E.on hb; replace C := E.cells; simp [BC, CF] at C; clear hb))
      have E37 := E
      clear h32l h32r h34 h32p h23 h27 h14 h25 h10
      go_region_held_law (fun W' => W'.cell? ⟨g, 0, none⟩ = some (.int .i64 b.a) ∧ W'.cell? ⟨g, 1, none⟩ = some (.int .i64 b.b) ∧ W'.cell? ⟨g, 2, none⟩ = some (.int .i64 b.c) ∧ W'.cell? ⟨g, 3, none⟩ = some (.int .i64 P0) ∧ W'.cell? ⟨g, 4, none⟩ = some (.int .i64 b.e) ∧ W'.cell? ⟨g, 5, none⟩ = some (.int .i64 b.f) ∧ W'.cell? ⟨w.heap.size, 0, none⟩ = some (.int .i64 b.a) ∧ W'.cell? ⟨w.heap.size, 1, none⟩ = some (.int .i64 b.b) ∧ W'.cell? ⟨w.heap.size, 2, none⟩ = some (.int .i64 b.c) ∧ W'.cell? ⟨w.heap.size, 3, none⟩ = some (.int .i64 b.d) ∧ W'.cell? ⟨w.heap.size, 4, none⟩ = some (.int .i64 b.e) ∧ W'.cell? ⟨w.heap.size, 5, none⟩ = some (.int .i64 b.f)) (first | exact cells_f2 E | exact cells_f2 E.drw | exact cells_f2 (E.drw.more _) | exact cells_f2 (E.more _) | go_keep) ((first
        | (go_at_call 36; (with_reducible refine (h36 _ (hS.on (envb E37.drw))).mono ?_); rintro X w38 ⟨v, rfl, ho0, hb⟩; have ho := Own.mono ho0 (show w37.heap.size ≤ w37.drew.heap.size from Nat.le_refl _); have hsz := hb.size; have E := E37.drw.on hb; have F1 := hb)
        | (go_at_call 36; (with_reducible refine (h36 _ (hS.on (envb (E37.more _).drw))).mono ?_); rintro X w38 ⟨v, rfl, ho0, hb⟩; have ho := Own.mono ho0 (show w37.heap.size ≤ (w37.alloc (.cells #[.int .i64 b.a, .int .i64 b.b, .int .i64 b.c, .int .i64 P0, .int .i64 b.e, .int .i64 b.f] 25)).heap.size by simp); have hsz := hb.size; have E := ((E37.more (.cells #[.int .i64 b.a, .int .i64 b.b, .int .i64 b.c, .int .i64 P0, .int .i64 b.e, .int .i64 b.f] 25)).drw).on hb; have F2 := hb)
        | (refine step_append_lies _ (by rfl) _ _ _ (by rfl) w37.heap.size 25 i0 _ 6 48 Try.underlying40 hi hz0 hz1 hz2 rfl (by omega) v l.length (l.flatMap cb) (by simp [Act.eval, Act.put]) (own_on ho (al1 w38 (.cells #[.int .i64 b.a, .int .i64 b.b, .int .i64 b.c, .int .i64 P0, .int .i64 b.e, .int .i64 b.f] 25))) ⟨w38.heap.size, 0, none⟩ 1 1 [.int .i64 b.a, .int .i64 b.b, .int .i64 b.c, .int .i64 P0, .int .i64 b.e, .int .i64 b.f] (by simp [Act.eval, Act.put]) rfl (World.news_of_block (cs := #[.int .i64 b.a, .int .i64 b.b, .int .i64 b.c, .int .i64 P0, .int .i64 b.e, .int .i64 b.f]) (t := 25) (fr := (0, 0)) (heap_alloc_new w38 (.cells #[.int .i64 b.a, .int .i64 b.b, .int .i64 b.c, .int .i64 P0, .int .i64 b.e, .int .i64 b.f] 25))) (by simp [Value.oneCell']) (by omega) (by unfold maxLen; omega) (by omega) (by simp at hsz ⊢; omega) (w38.heap.size + 1) (by simp) ?_; intro gg cap2 w5 hown1 hgrow hat hlt2; have E := env_app E37 (bn_a F1 (.cells #[.int .i64 b.a, .int .i64 b.b, .int .i64 b.c, .int .i64 P0, .int .i64 b.e, .int .i64 b.f] 25)) ho hgrow; have hSL := app_sl hown1 hl)
        | (refine step_append_lies _ (by rfl) _ _ _ (by rfl) w37.heap.size 25 i0 _ 6 48 Try.underlying40 hi hz0 hz1 hz2 rfl (by omega) v l.length (l.flatMap cb) (by simp [Act.eval, Act.put]) ho ⟨w37.heap.size, 0, none⟩ 1 1 [.int .i64 b.a, .int .i64 b.b, .int .i64 b.c, .int .i64 P0, .int .i64 b.e, .int .i64 b.f] (by simp [Act.eval, Act.put]) rfl (World.news_of_block (cs := #[.int .i64 b.a, .int .i64 b.b, .int .i64 b.c, .int .i64 P0, .int .i64 b.e, .int .i64 b.f]) (t := 25) (fr := (0, 0)) (has_b F2)) (by simp [Value.oneCell']) (by omega) (by unfold maxLen; omega) (by omega) (by simp at hsz ⊢; omega) w38.heap.size (by simp) ?_; intro gg cap2 w5 hown1 hgrow hat hlt2; have E := env_app E37 (bn_b F2) ho hgrow; have hSL := app_sl hown1 hl)
        | (go_at_call 32; (with_reducible refine (h32m _ _ _ hSL).mono ?_); rintro X w39 ⟨rfl, hb⟩; replace E := E.on hb)))
      all_goals (clear hS)
      all_goals (
        have C := E.cells
        simp [BC, CF] at C
        go_upto_region 21 with (go_at_call 32; (with_reducible refine (h32o _ _ (Has.new_ _ _ _)).mono ?_); rintro X w40 ⟨rfl, hb⟩; replace E := (E.more _).on hb; replace C := E.cells; simp [BC, CF] at C; clear hb))
      all_goals cases MORE
      all_goals (go_wp2)
      all_goals go_ret
      all_goals exact ⟨by simp, E.1⟩
end Go.Proofs.Ytffigpkkdljaiaa
