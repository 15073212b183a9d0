/- The contract of the reference's Gcd: a first magnitude of one word. -/
import Derived.Test.YtbbbmlnggehcdaaDoorRgh
namespace Go.Proofs.YtbbbmlnggehcdaaDoor
open Go.ChangeShapes Go.WideShapes Go.ChangeAt Go.RowKit
set_option linter.unusedVariables false
set_option linter.unusedSimpArgs false

set_option maxRecDepth 100000 in
set_option maxHeartbeats 40000000 in
theorem gcd_lo (x0 y0 G : Int) (w : World) (hx : UU x0) (hy : UU y0) (px0 : 0 < x0) (py0 : 0 < y0) (hG0 : (Int.gcd x0 y0 : Int) = G) (c1 : uH x0 = 0) (c2 : ¬ uL x0 = 0) :
    Calls Tryd.prog 45 #[.agg #[.int .u64 0, .int .u64 (uL x0)], .agg #[.int .u64 (uH y0), .int .u64 (uL y0)]] w fun e w' => e = .returned (.agg #[.int .u64 (uH G), .int .u64 (uL G)]) ∧ Below w.heap.size w w' := by
  have hGu : UU G := by rw [← hG0]; exact UU_gcd hy py0
  have D1 := duo_start w x0 y0
  rw [c1] at D1
  have D0 := Lib.hid D1; clear D1 c1
  have HG0 := Lib.hid hG0; clear hG0
  go_enter Tryd.func45, Tryd.ntmps45
  go_wp2
  go_loopw [5] (fun v5 wr => ∃ (x y : Int) (t : Nat), v5 = .int .i64 t ∧ Duo w wr x y ∧ Hid (G1 x0 y0 x y t)) (fun _ wr => magAt w.heap.size wr)
  case atStart => exact ⟨x0, y0, 0, rfl, D0.out, Lib.hid ⟨by simp, by simp, px0, py0⟩⟩
  case round =>
    clear D0 c2
    obtain ⟨x, y, t, rfl, hD, hG⟩ := hrel
    obtain ⟨ux, uy, ht⟩ := hG.out.bounds hx hy
    obtain ⟨⟨c0, c1', f0, f1⟩, ⟨d0, d1, g0, g1⟩, ⟨r0, r1, k0, k1⟩⟩ := hD.cells
    have mA := hD.magA
    have a1 := and_od (x := x)
    have a2 := and_od (x := y)
    by_cases ev : od x = 0 ∧ od y = 0
    · obtain ⟨ev1, ev2⟩ := ev
      have b1 : (od x == 0) = true := by simp [ev1]
      have b2 : (od y == 0) = true := by simp [ev2]
      have W1 : IntKind.i64.wrap ((t : Int) + 1) = (t : Int) + 1 := by rw [IntKind.wrap_i64]; omega
      have ST := Lib.hid (hG.out.step ev1 ev2)
      have PX := Lib.hid hG.out.2.2.1
      clear ev1 ev2
      go_wp2
      go_region_with (first | (go_at_call 64; first | (refine (half_h x _ _ _ ux (by first | rfl | assumption) (by first | rfl | assumption)).mono ?_; rintro e w1 ⟨rfl, hb⟩; (first | (replace hD := (hD.drew).next hb) | (replace hD := hD.next hb)); clear c0 c1' f0 f1 d0 d1 g0 g1 r0 r1 k0 k1; obtain ⟨⟨c0, c1', f0, f1⟩, ⟨d0, d1, g0, g1⟩, ⟨r0, r1, k0, k1⟩⟩ := hD.cells) | (refine (half_h y _ _ _ uy (by first | rfl | assumption) (by first | rfl | assumption)).mono ?_; rintro e w1 ⟨rfl, hb⟩; (first | (replace hD := (hD.drew).next hb) | (replace hD := hD.next hb)); clear c0 c1' f0 f1 d0 d1 g0 g1 r0 r1 k0 k1; obtain ⟨⟨c0, c1', f0, f1⟩, ⟨d0, d1, g0, g1⟩, ⟨r0, r1, k0, k1⟩⟩ := hD.cells)))
      all_goals (try go_simp)
      all_goals go_roundw
      all_goals (first | ((repeat (apply Exists.intro)); exact ⟨⟨hf x, hf y, t + 1, rfl, (hD.setA _).setB _, ST⟩, rfl⟩) | (rw [((hD.setA (hf x)).setB (hf y)).magA, mA]; have := PX.out; unfold hf; omega))
    · have HG2 := Lib.hid (hG.out.toG2 hx hy ev)
      rw [HG0.out] at HG2
      have b12 : (od x == 0 && od y == 0) = false := by
        have k1 := od_two x; have k2 := od_two y
        rcases k1 with k | k <;> simp [k] <;> omega
      rcases od_two x with o1 | o1
      · have o2 : od y = 1 := by have := od_two y; omega
        have q1 : (od x == 0) = true := by simp [o1]
        have q2 : (od y == 0) = false := by simp [o2]
        clear o1 o2 ev
        go_wp2
        go_loopw [26] (fun _ wr => ∃ (x y : Int), Duo w wr x y ∧ Hid (G2 G x y t)) (fun _ wr => magAt w.heap.size wr + magAt (w.heap.size + 1) wr)
        case atStart => exact ⟨x, y, hD, HG2⟩
        case round =>
          clear q1 q2 c0 c1' f0 f1 d0 d1 g0 g1 r0 r1 k0 k1 hD HG2 hG mA a1 a2 b12 ux uy ht
          obtain ⟨x, y, hD, hG⟩ := hrel
          obtain ⟨⟨c0, c1', f0, f1⟩, ⟨d0, d1, g0, g1⟩, ⟨r0, r1, k0, k1⟩⟩ := hD.cells
          have mA := hD.magA
          have mB := hD.magB
          have a1 := and_od (x := x)
          have a2 := and_od (x := y)
          by_cases hx0 : x = 0
          · have zH : uH x = 0 := by rw [hx0]; rfl
            have zL : uL x = 0 := by rw [hx0]; rfl
            have zH' : (uH x == 0) = true := by simp [zH]
            have zL' : (uL x == 0) = true := by simp [zL]
            have X0 := Lib.hid hx0
            have hy3 : y * 2 ^ t = G := by have := hG.out; rw [X0.out] at this; exact this.done
            have py3 : 0 < y := hG.out.2.1
            have uy3 : UU y := hG.out.2.2.2.2.2.1
            have ht3 : t < 128 := hG.out.2.2.2.2.2.2
            have H3 := Lib.hid (And.intro hy3 (And.intro py3 (And.intro uy3 ht3)))
            clear hx0 hy3 py3 uy3 ht3 hG mA mB a1 a2
            go_wp2
            go_loopw [5] (fun v5 wr => ∃ (y' : Int) (t' : Nat), v5 = .int .i64 t' ∧ Duo w wr x y' ∧ Hid (y' * 2 ^ t' = G ∧ 0 < y' ∧ UU y' ∧ t' < 128)) (fun v5 _ => (intOf v5).toNat)
            case atStart => exact ⟨y, t, rfl, hD, H3⟩
            case round =>
              clear c0 c1' f0 f1 d0 d1 g0 g1 r0 r1 k0 k1 hD H3 zH zL zH' zL' X0
              obtain ⟨y', t', rfl, hD, hG⟩ := hrel
              obtain ⟨⟨c0, c1', f0, f1⟩, ⟨d0, d1, g0, g1⟩, ⟨r0, r1, k0, k1⟩⟩ := hD.cells
              obtain ⟨-, -, uy', ht'⟩ := hG.out
              rcases Nat.eq_zero_or_pos t' with h0 | h0
              · have hend : y' = G := by have := hG.out.1; rw [h0] at this; simpa using this
                have HE := Lib.hid hend
                subst h0
                simp only [Int.natCast_zero]
                clear hend
                go_wp2
                have hr := (hD.2.2.1.put_ 0 (.int .u64 (uH y'))).put_ 1 (.int .u64 (uL y'))
                have s0 := hr.read 0
                have s1 := hr.read 1
                refine bodyPost_ret (v := .agg #[.int .u64 (uH y'), .int .u64 (uL y')]) (by simp [results, Tryd.results45, go_sem] at s0 s1 ⊢; simp [s0, s1]) rfl ⟨by rw [HE.out], ?_⟩
                exact (hD.2.2.2.setCell (by simp; omega) _).setCell (by simp; omega) _
              · obtain ⟨s, hs⟩ : ∃ s, t' = s + 1 := ⟨t' - 1, by omega⟩
                have hst := hG.out
                rw [hs] at hst
                obtain ⟨e1, e2, e3⟩ := G3_step hst.1 hst.2.1 hGu
                have ST := Lib.hid (And.intro e1 (And.intro e2 (And.intro e3 (show s < 128 by omega))))
                have W1 : IntKind.i64.wrap ((t' : Int) - 1) = (s : Int) := by rw [IntKind.wrap_i64]; omega
                have hpos : (0 : Int) < (t' : Int) := by omega
                have hs2 : (t' : Int) - 1 = (s : Int) := by omega
                clear hst e1 e2 h0
                have HS := Lib.hid hs; clear hs
                go_wp2_with (go_at_call 54; refine (plus_h y' _ _ _ uy' e3 (by first | rfl | assumption) (by first | rfl | assumption)).mono ?_; rintro e w1 ⟨rfl, hb⟩; (first | (replace hD := (hD.drew).next hb) | (replace hD := hD.next hb)); clear c0 c1' f0 f1 d0 d1 g0 g1 r0 r1 k0 k1; obtain ⟨⟨c0, c1', f0, f1⟩, ⟨d0, d1, g0, g1⟩, ⟨r0, r1, k0, k1⟩⟩ := hD.cells)
                go_roundw
                case rel => first | exact ⟨sU y' y', s, by first | rfl | (rw [hs2]), hD.setB _, ST⟩ | ((repeat (apply Exists.intro)); exact ⟨⟨sU y' y', s, by first | rfl | (rw [hs2]), hD.setB _, ST⟩, rfl⟩)
                case measure => have := HS.out; simp [intOf]; omega
          · have px : 0 < x := by have := hG.out.2.2.1; omega
            have hnz := uHL x
            by_cases zz : uH x = 0
            · have zz2 : ¬ uL x = 0 := by omega
              clear hnz hx0
              go_wp2
              go_loopw [29] (fun _ wr => ∃ (x' : Int), Duo w wr x' y ∧ Hid (G2 G x' y t ∧ 0 < x' ∧ x' ≤ x)) (fun _ wr => magAt w.heap.size wr)
              case atStart => exact ⟨x, hD, Lib.hid ⟨hG.out, px, Int.le_refl _⟩⟩
              case round =>
                clear c0 c1' f0 f1 d0 d1 g0 g1 r0 r1 k0 k1 hD zz zz2
                obtain ⟨x', hD, hI⟩ := hrel
                obtain ⟨⟨c0, c1', f0, f1⟩, ⟨d0, d1, g0, g1⟩, ⟨r0, r1, k0, k1⟩⟩ := hD.cells
                have mA' := hD.magA
                have a1 := and_od (x := x')
                obtain ⟨-, -, -, -, ux', -, -⟩ := id hI.out.1
                by_cases ev1 : od x' = 0
                · have b1 : (od x' == 0) = true := by simp [ev1]
                  have hh := Lib.hid (hI.out.1.halfA ev1)
                  have PX := Lib.hid hI.out.2
                  have EV := Lib.hid ev1; clear ev1
                  go_wp2_with (go_at_call 64; (refine (half_h x' _ _ _ ux' (by first | rfl | assumption) (by first | rfl | assumption)).mono ?_; rintro e w1 ⟨rfl, hb⟩; (first | (replace hD := (hD.drew).next hb) | (replace hD := hD.next hb)); clear c0 c1' f0 f1 d0 d1 g0 g1 r0 r1 k0 k1; obtain ⟨⟨c0, c1', f0, f1⟩, ⟨d0, d1, g0, g1⟩, ⟨r0, r1, k0, k1⟩⟩ := hD.cells))
                  go_roundw
                  case rel => first | exact ⟨hf x', hD.setA _, Lib.hid ⟨hh.out.1, (hh.out.2.2 PX.out.1).1, by have := hh.out.2.1; have := PX.out.2; omega⟩⟩ | ((repeat (apply Exists.intro)); exact ⟨⟨hf x', hD.setA _, Lib.hid ⟨hh.out.1, (hh.out.2.2 PX.out.1).1, by have := hh.out.2.1; have := PX.out.2; omega⟩⟩, rfl⟩)
                  case measure => rw [(hD.setA (hf x')).magA, mA']; have := hh.out.2.2 PX.out.1; omega
                · have b1 : (od x' == 0) = false := by simp [ev1]
                  have odd1 : od x' = 1 := by have := od_two x'; omega
                  clear ev1
                  go_wp2
                  go_loopw [35] (fun _ wr => ∃ (y' : Int), Duo w wr x' y' ∧ Hid (G2 G x' y' t ∧ y' ≤ y)) (fun _ wr => magAt (w.heap.size + 1) wr)
                  case atStart => exact ⟨y, hD, Lib.hid ⟨hI.out.1, Int.le_refl _⟩⟩
                  case round =>
                    have HI := hI
                    clear c0 c1' f0 f1 d0 d1 g0 g1 r0 r1 k0 k1 hD mA' a1
                    obtain ⟨y', hD, hJ⟩ := hrel
                    obtain ⟨⟨c0, c1', f0, f1⟩, ⟨d0, d1, g0, g1⟩, ⟨r0, r1, k0, k1⟩⟩ := hD.cells
                    have mB' := hD.magB
                    have a2 := and_od (x := y')
                    obtain ⟨-, py', -, -, ux', uy', -⟩ := id hJ.out.1
                    by_cases ev2 : od y' = 0
                    · have b2 : (od y' == 0) = true := by simp [ev2]
                      have hh := Lib.hid (hJ.out.1.halfB odd1 ev2)
                      have EV := Lib.hid ev2; clear ev2
                      go_wp2_with (go_at_call 64; (refine (half_h y' _ _ _ uy' (by first | rfl | assumption) (by first | rfl | assumption)).mono ?_; rintro e w1 ⟨rfl, hb⟩; (first | (replace hD := (hD.drew).next hb) | (replace hD := hD.next hb)); clear c0 c1' f0 f1 d0 d1 g0 g1 r0 r1 k0 k1; obtain ⟨⟨c0, c1', f0, f1⟩, ⟨d0, d1, g0, g1⟩, ⟨r0, r1, k0, k1⟩⟩ := hD.cells))
                      go_roundw
                      case rel => first | exact ⟨hf y', hD.setB _, Lib.hid ⟨hh.out.1, by have := hh.out.2; have := hJ.out.2; omega⟩⟩ | ((repeat (apply Exists.intro)); exact ⟨⟨hf y', hD.setB _, Lib.hid ⟨hh.out.1, by have := hh.out.2; have := hJ.out.2; omega⟩⟩, rfl⟩)
                      case measure => rw [(hD.setB (hf y')).magB, mB']; have := hh.out.2; have := hh.out.1.2.1; omega
                    · have b2 : (od y' == 0) = false := by simp [ev2]
                      have odd2 : od y' = 1 := by have := od_two y'; omega
                      have OD2 := Lib.hid odd2; have OD1 := Lib.hid odd1; clear odd2 odd1 ev2
                      by_cases lt : x' < y'
                      · have hd : decide (x' < y') = true := by simp [lt]
                        have hm := (hJ.out.1.swap HI.out.2.1).minus OD1.out (Int.le_of_lt lt)
                        have HP : Hid (y' ≤ y) := Lib.hid hJ.out.2
                        go_wp2_with (first | (go_at_call 55; refine (less_h x' y' _ _ _ _ _ ux' uy' (by first | rfl | assumption) (by first | rfl | assumption) (by first | rfl | assumption) (by first | rfl | assumption)).mono ?_; rw [hd]; rintro e w1 ⟨rfl, hb⟩; (first | (replace hD := (hD.drew).next hb) | (replace hD := hD.next hb)); clear c0 c1' f0 f1 d0 d1 g0 g1 r0 r1 k0 k1; obtain ⟨⟨c0, c1', f0, f1⟩, ⟨d0, d1, g0, g1⟩, ⟨r0, r1, k0, k1⟩⟩ := hD.cells) | (go_at_call 56; refine (minus_h y' x' _ _ _ _ _ uy' ux' (Int.le_of_lt lt) (by first | rfl | assumption) (by first | rfl | assumption) (by first | rfl | assumption) (by first | rfl | assumption)).mono ?_; rintro e w2 ⟨rfl, hb⟩; replace hD := ((hD.setA y').setB x').next hb; clear hb c0 c1' f0 f1 d0 d1 g0 g1 r0 r1 k0 k1; obtain ⟨⟨c0, c1', f0, f1⟩, ⟨d0, d1, g0, g1⟩, ⟨r0, r1, k0, k1⟩⟩ := hD.cells))
                        go_roundw
                        case rel => first | exact ⟨dU y' x', x', hD.setA (dU y' x'), Lib.hid hm.1⟩ | ((repeat (apply Exists.intro)); exact ⟨⟨dU y' x', x', hD.setA (dU y' x'), Lib.hid hm.1⟩, rfl⟩)
                        case measure =>
                          have q := (hD.setA (dU y' x')).magA
                          have q2 := (hD.setA (dU y' x')).magB
                          rw [q, q2, mA, mB]
                          have := hm.2; have := hm.1.2.1; have := hm.1.2.2.1; have := HI.out.2.1; have := HI.out.2.2; have := HP.out
                          omega
                      · have hd : decide (x' < y') = false := by simp; omega
                        have hle : y' ≤ x' := by omega
                        have hm := hJ.out.1.minus OD2.out hle
                        have HP : Hid (y' ≤ y) := Lib.hid hJ.out.2
                        go_wp2_with (first | (go_at_call 55; refine (less_h x' y' _ _ _ _ _ ux' uy' (by first | rfl | assumption) (by first | rfl | assumption) (by first | rfl | assumption) (by first | rfl | assumption)).mono ?_; rw [hd]; rintro e w1 ⟨rfl, hb⟩; (first | (replace hD := (hD.drew).next hb) | (replace hD := hD.next hb)); clear c0 c1' f0 f1 d0 d1 g0 g1 r0 r1 k0 k1; obtain ⟨⟨c0, c1', f0, f1⟩, ⟨d0, d1, g0, g1⟩, ⟨r0, r1, k0, k1⟩⟩ := hD.cells) | (go_at_call 56; refine (minus_h x' y' _ _ _ _ _ ux' uy' hle (by first | rfl | assumption) (by first | rfl | assumption) (by first | rfl | assumption) (by first | rfl | assumption)).mono ?_; rintro e w2 ⟨rfl, hb⟩; (first | (replace hD := (hD.drew).next hb) | (replace hD := hD.next hb)); clear c0 c1' f0 f1 d0 d1 g0 g1 r0 r1 k0 k1; obtain ⟨⟨c0, c1', f0, f1⟩, ⟨d0, d1, g0, g1⟩, ⟨r0, r1, k0, k1⟩⟩ := hD.cells))
                        go_roundw
                        case rel => first | exact ⟨dU x' y', y', hD.setA (dU x' y'), Lib.hid hm.1⟩ | ((repeat (apply Exists.intro)); exact ⟨⟨dU x' y', y', hD.setA (dU x' y'), Lib.hid hm.1⟩, rfl⟩)
                        case measure =>
                          have q := (hD.setA (dU x' y')).magA
                          have q2 := (hD.setA (dU x' y')).magB
                          rw [q, q2, mA, mB]
                          have := hm.2; have := hm.1.2.1; have := hm.1.2.2.1; have := HI.out.2.1; have := HI.out.2.2; have := HP.out
                          omega
            · clear hnz hx0
              go_wp2
              go_loopw [29] (fun _ wr => ∃ (x' : Int), Duo w wr x' y ∧ Hid (G2 G x' y t ∧ 0 < x' ∧ x' ≤ x)) (fun _ wr => magAt w.heap.size wr)
              case atStart => exact ⟨x, hD, Lib.hid ⟨hG.out, px, Int.le_refl _⟩⟩
              case round =>
                clear c0 c1' f0 f1 d0 d1 g0 g1 r0 r1 k0 k1 hD zz
                obtain ⟨x', hD, hI⟩ := hrel
                obtain ⟨⟨c0, c1', f0, f1⟩, ⟨d0, d1, g0, g1⟩, ⟨r0, r1, k0, k1⟩⟩ := hD.cells
                have mA' := hD.magA
                have a1 := and_od (x := x')
                obtain ⟨-, -, -, -, ux', -, -⟩ := id hI.out.1
                by_cases ev1 : od x' = 0
                · have b1 : (od x' == 0) = true := by simp [ev1]
                  have hh := Lib.hid (hI.out.1.halfA ev1)
                  have PX := Lib.hid hI.out.2
                  have EV := Lib.hid ev1; clear ev1
                  go_wp2_with (go_at_call 64; (refine (half_h x' _ _ _ ux' (by first | rfl | assumption) (by first | rfl | assumption)).mono ?_; rintro e w1 ⟨rfl, hb⟩; (first | (replace hD := (hD.drew).next hb) | (replace hD := hD.next hb)); clear c0 c1' f0 f1 d0 d1 g0 g1 r0 r1 k0 k1; obtain ⟨⟨c0, c1', f0, f1⟩, ⟨d0, d1, g0, g1⟩, ⟨r0, r1, k0, k1⟩⟩ := hD.cells))
                  go_roundw
                  case rel => first | exact ⟨hf x', hD.setA _, Lib.hid ⟨hh.out.1, (hh.out.2.2 PX.out.1).1, by have := hh.out.2.1; have := PX.out.2; omega⟩⟩ | ((repeat (apply Exists.intro)); exact ⟨⟨hf x', hD.setA _, Lib.hid ⟨hh.out.1, (hh.out.2.2 PX.out.1).1, by have := hh.out.2.1; have := PX.out.2; omega⟩⟩, rfl⟩)
                  case measure => rw [(hD.setA (hf x')).magA, mA']; have := hh.out.2.2 PX.out.1; omega
                · have b1 : (od x' == 0) = false := by simp [ev1]
                  have odd1 : od x' = 1 := by have := od_two x'; omega
                  clear ev1
                  go_wp2
                  go_loopw [35] (fun _ wr => ∃ (y' : Int), Duo w wr x' y' ∧ Hid (G2 G x' y' t ∧ y' ≤ y)) (fun _ wr => magAt (w.heap.size + 1) wr)
                  case atStart => exact ⟨y, hD, Lib.hid ⟨hI.out.1, Int.le_refl _⟩⟩
                  case round =>
                    have HI := hI
                    clear c0 c1' f0 f1 d0 d1 g0 g1 r0 r1 k0 k1 hD mA' a1
                    obtain ⟨y', hD, hJ⟩ := hrel
                    obtain ⟨⟨c0, c1', f0, f1⟩, ⟨d0, d1, g0, g1⟩, ⟨r0, r1, k0, k1⟩⟩ := hD.cells
                    have mB' := hD.magB
                    have a2 := and_od (x := y')
                    obtain ⟨-, py', -, -, ux', uy', -⟩ := id hJ.out.1
                    by_cases ev2 : od y' = 0
                    · have b2 : (od y' == 0) = true := by simp [ev2]
                      have hh := Lib.hid (hJ.out.1.halfB odd1 ev2)
                      have EV := Lib.hid ev2; clear ev2
                      go_wp2_with (go_at_call 64; (refine (half_h y' _ _ _ uy' (by first | rfl | assumption) (by first | rfl | assumption)).mono ?_; rintro e w1 ⟨rfl, hb⟩; (first | (replace hD := (hD.drew).next hb) | (replace hD := hD.next hb)); clear c0 c1' f0 f1 d0 d1 g0 g1 r0 r1 k0 k1; obtain ⟨⟨c0, c1', f0, f1⟩, ⟨d0, d1, g0, g1⟩, ⟨r0, r1, k0, k1⟩⟩ := hD.cells))
                      go_roundw
                      case rel => first | exact ⟨hf y', hD.setB _, Lib.hid ⟨hh.out.1, by have := hh.out.2; have := hJ.out.2; omega⟩⟩ | ((repeat (apply Exists.intro)); exact ⟨⟨hf y', hD.setB _, Lib.hid ⟨hh.out.1, by have := hh.out.2; have := hJ.out.2; omega⟩⟩, rfl⟩)
                      case measure => rw [(hD.setB (hf y')).magB, mB']; have := hh.out.2; have := hh.out.1.2.1; omega
                    · have b2 : (od y' == 0) = false := by simp [ev2]
                      have odd2 : od y' = 1 := by have := od_two y'; omega
                      have OD2 := Lib.hid odd2; have OD1 := Lib.hid odd1; clear odd2 odd1 ev2
                      by_cases lt : x' < y'
                      · have hd : decide (x' < y') = true := by simp [lt]
                        have hm := (hJ.out.1.swap HI.out.2.1).minus OD1.out (Int.le_of_lt lt)
                        have HP : Hid (y' ≤ y) := Lib.hid hJ.out.2
                        go_wp2_with (first | (go_at_call 55; refine (less_h x' y' _ _ _ _ _ ux' uy' (by first | rfl | assumption) (by first | rfl | assumption) (by first | rfl | assumption) (by first | rfl | assumption)).mono ?_; rw [hd]; rintro e w1 ⟨rfl, hb⟩; (first | (replace hD := (hD.drew).next hb) | (replace hD := hD.next hb)); clear c0 c1' f0 f1 d0 d1 g0 g1 r0 r1 k0 k1; obtain ⟨⟨c0, c1', f0, f1⟩, ⟨d0, d1, g0, g1⟩, ⟨r0, r1, k0, k1⟩⟩ := hD.cells) | (go_at_call 56; refine (minus_h y' x' _ _ _ _ _ uy' ux' (Int.le_of_lt lt) (by first | rfl | assumption) (by first | rfl | assumption) (by first | rfl | assumption) (by first | rfl | assumption)).mono ?_; rintro e w2 ⟨rfl, hb⟩; replace hD := ((hD.setA y').setB x').next hb; clear hb c0 c1' f0 f1 d0 d1 g0 g1 r0 r1 k0 k1; obtain ⟨⟨c0, c1', f0, f1⟩, ⟨d0, d1, g0, g1⟩, ⟨r0, r1, k0, k1⟩⟩ := hD.cells))
                        go_roundw
                        case rel => first | exact ⟨dU y' x', x', hD.setA (dU y' x'), Lib.hid hm.1⟩ | ((repeat (apply Exists.intro)); exact ⟨⟨dU y' x', x', hD.setA (dU y' x'), Lib.hid hm.1⟩, rfl⟩)
                        case measure =>
                          have q := (hD.setA (dU y' x')).magA
                          have q2 := (hD.setA (dU y' x')).magB
                          rw [q, q2, mA, mB]
                          have := hm.2; have := hm.1.2.1; have := hm.1.2.2.1; have := HI.out.2.1; have := HI.out.2.2; have := HP.out
                          omega
                      · have hd : decide (x' < y') = false := by simp; omega
                        have hle : y' ≤ x' := by omega
                        have hm := hJ.out.1.minus OD2.out hle
                        have HP : Hid (y' ≤ y) := Lib.hid hJ.out.2
                        go_wp2_with (first | (go_at_call 55; refine (less_h x' y' _ _ _ _ _ ux' uy' (by first | rfl | assumption) (by first | rfl | assumption) (by first | rfl | assumption) (by first | rfl | assumption)).mono ?_; rw [hd]; rintro e w1 ⟨rfl, hb⟩; (first | (replace hD := (hD.drew).next hb) | (replace hD := hD.next hb)); clear c0 c1' f0 f1 d0 d1 g0 g1 r0 r1 k0 k1; obtain ⟨⟨c0, c1', f0, f1⟩, ⟨d0, d1, g0, g1⟩, ⟨r0, r1, k0, k1⟩⟩ := hD.cells) | (go_at_call 56; refine (minus_h x' y' _ _ _ _ _ ux' uy' hle (by first | rfl | assumption) (by first | rfl | assumption) (by first | rfl | assumption) (by first | rfl | assumption)).mono ?_; rintro e w2 ⟨rfl, hb⟩; (first | (replace hD := (hD.drew).next hb) | (replace hD := hD.next hb)); clear c0 c1' f0 f1 d0 d1 g0 g1 r0 r1 k0 k1; obtain ⟨⟨c0, c1', f0, f1⟩, ⟨d0, d1, g0, g1⟩, ⟨r0, r1, k0, k1⟩⟩ := hD.cells))
                        go_roundw
                        case rel => first | exact ⟨dU x' y', y', hD.setA (dU x' y'), Lib.hid hm.1⟩ | ((repeat (apply Exists.intro)); exact ⟨⟨dU x' y', y', hD.setA (dU x' y'), Lib.hid hm.1⟩, rfl⟩)
                        case measure =>
                          have q := (hD.setA (dU x' y')).magA
                          have q2 := (hD.setA (dU x' y')).magB
                          rw [q, q2, mA, mB]
                          have := hm.2; have := hm.1.2.1; have := hm.1.2.2.1; have := HI.out.2.1; have := HI.out.2.2; have := HP.out
                          omega
      · have q1 : (od x == 0) = false := by simp [o1]
        clear o1 ev
        go_wp2
        go_loopw [26] (fun _ wr => ∃ (x y : Int), Duo w wr x y ∧ Hid (G2 G x y t)) (fun _ wr => magAt w.heap.size wr + magAt (w.heap.size + 1) wr)
        case atStart => exact ⟨x, y, hD, HG2⟩
        case round =>
          clear q1 c0 c1' f0 f1 d0 d1 g0 g1 r0 r1 k0 k1 hD HG2 hG mA a1 a2 b12 ux uy ht
          obtain ⟨x, y, hD, hG⟩ := hrel
          obtain ⟨⟨c0, c1', f0, f1⟩, ⟨d0, d1, g0, g1⟩, ⟨r0, r1, k0, k1⟩⟩ := hD.cells
          have mA := hD.magA
          have mB := hD.magB
          have a1 := and_od (x := x)
          have a2 := and_od (x := y)
          by_cases hx0 : x = 0
          · have zH : uH x = 0 := by rw [hx0]; rfl
            have zL : uL x = 0 := by rw [hx0]; rfl
            have zH' : (uH x == 0) = true := by simp [zH]
            have zL' : (uL x == 0) = true := by simp [zL]
            have X0 := Lib.hid hx0
            have hy3 : y * 2 ^ t = G := by have := hG.out; rw [X0.out] at this; exact this.done
            have py3 : 0 < y := hG.out.2.1
            have uy3 : UU y := hG.out.2.2.2.2.2.1
            have ht3 : t < 128 := hG.out.2.2.2.2.2.2
            have H3 := Lib.hid (And.intro hy3 (And.intro py3 (And.intro uy3 ht3)))
            clear hx0 hy3 py3 uy3 ht3 hG mA mB a1 a2
            go_wp2
            go_loopw [5] (fun v5 wr => ∃ (y' : Int) (t' : Nat), v5 = .int .i64 t' ∧ Duo w wr x y' ∧ Hid (y' * 2 ^ t' = G ∧ 0 < y' ∧ UU y' ∧ t' < 128)) (fun v5 _ => (intOf v5).toNat)
            case atStart => exact ⟨y, t, rfl, hD, H3⟩
            case round =>
              clear c0 c1' f0 f1 d0 d1 g0 g1 r0 r1 k0 k1 hD H3 zH zL zH' zL' X0
              obtain ⟨y', t', rfl, hD, hG⟩ := hrel
              obtain ⟨⟨c0, c1', f0, f1⟩, ⟨d0, d1, g0, g1⟩, ⟨r0, r1, k0, k1⟩⟩ := hD.cells
              obtain ⟨-, -, uy', ht'⟩ := hG.out
              rcases Nat.eq_zero_or_pos t' with h0 | h0
              · have hend : y' = G := by have := hG.out.1; rw [h0] at this; simpa using this
                have HE := Lib.hid hend
                subst h0
                simp only [Int.natCast_zero]
                clear hend
                go_wp2
                have hr := (hD.2.2.1.put_ 0 (.int .u64 (uH y'))).put_ 1 (.int .u64 (uL y'))
                have s0 := hr.read 0
                have s1 := hr.read 1
                refine bodyPost_ret (v := .agg #[.int .u64 (uH y'), .int .u64 (uL y')]) (by simp [results, Tryd.results45, go_sem] at s0 s1 ⊢; simp [s0, s1]) rfl ⟨by rw [HE.out], ?_⟩
                exact (hD.2.2.2.setCell (by simp; omega) _).setCell (by simp; omega) _
              · obtain ⟨s, hs⟩ : ∃ s, t' = s + 1 := ⟨t' - 1, by omega⟩
                have hst := hG.out
                rw [hs] at hst
                obtain ⟨e1, e2, e3⟩ := G3_step hst.1 hst.2.1 hGu
                have ST := Lib.hid (And.intro e1 (And.intro e2 (And.intro e3 (show s < 128 by omega))))
                have W1 : IntKind.i64.wrap ((t' : Int) - 1) = (s : Int) := by rw [IntKind.wrap_i64]; omega
                have hpos : (0 : Int) < (t' : Int) := by omega
                have hs2 : (t' : Int) - 1 = (s : Int) := by omega
                clear hst e1 e2 h0
                have HS := Lib.hid hs; clear hs
                go_wp2_with (go_at_call 54; refine (plus_h y' _ _ _ uy' e3 (by first | rfl | assumption) (by first | rfl | assumption)).mono ?_; rintro e w1 ⟨rfl, hb⟩; (first | (replace hD := (hD.drew).next hb) | (replace hD := hD.next hb)); clear c0 c1' f0 f1 d0 d1 g0 g1 r0 r1 k0 k1; obtain ⟨⟨c0, c1', f0, f1⟩, ⟨d0, d1, g0, g1⟩, ⟨r0, r1, k0, k1⟩⟩ := hD.cells)
                go_roundw
                case rel => first | exact ⟨sU y' y', s, by first | rfl | (rw [hs2]), hD.setB _, ST⟩ | ((repeat (apply Exists.intro)); exact ⟨⟨sU y' y', s, by first | rfl | (rw [hs2]), hD.setB _, ST⟩, rfl⟩)
                case measure => have := HS.out; simp [intOf]; omega
          · have px : 0 < x := by have := hG.out.2.2.1; omega
            have hnz := uHL x
            by_cases zz : uH x = 0
            · have zz2 : ¬ uL x = 0 := by omega
              clear hnz hx0
              go_wp2
              go_loopw [29] (fun _ wr => ∃ (x' : Int), Duo w wr x' y ∧ Hid (G2 G x' y t ∧ 0 < x' ∧ x' ≤ x)) (fun _ wr => magAt w.heap.size wr)
              case atStart => exact ⟨x, hD, Lib.hid ⟨hG.out, px, Int.le_refl _⟩⟩
              case round =>
                clear c0 c1' f0 f1 d0 d1 g0 g1 r0 r1 k0 k1 hD zz zz2
                obtain ⟨x', hD, hI⟩ := hrel
                obtain ⟨⟨c0, c1', f0, f1⟩, ⟨d0, d1, g0, g1⟩, ⟨r0, r1, k0, k1⟩⟩ := hD.cells
                have mA' := hD.magA
                have a1 := and_od (x := x')
                obtain ⟨-, -, -, -, ux', -, -⟩ := id hI.out.1
                by_cases ev1 : od x' = 0
                · have b1 : (od x' == 0) = true := by simp [ev1]
                  have hh := Lib.hid (hI.out.1.halfA ev1)
                  have PX := Lib.hid hI.out.2
                  have EV := Lib.hid ev1; clear ev1
                  go_wp2_with (go_at_call 64; (refine (half_h x' _ _ _ ux' (by first | rfl | assumption) (by first | rfl | assumption)).mono ?_; rintro e w1 ⟨rfl, hb⟩; (first | (replace hD := (hD.drew).next hb) | (replace hD := hD.next hb)); clear c0 c1' f0 f1 d0 d1 g0 g1 r0 r1 k0 k1; obtain ⟨⟨c0, c1', f0, f1⟩, ⟨d0, d1, g0, g1⟩, ⟨r0, r1, k0, k1⟩⟩ := hD.cells))
                  go_roundw
                  case rel => first | exact ⟨hf x', hD.setA _, Lib.hid ⟨hh.out.1, (hh.out.2.2 PX.out.1).1, by have := hh.out.2.1; have := PX.out.2; omega⟩⟩ | ((repeat (apply Exists.intro)); exact ⟨⟨hf x', hD.setA _, Lib.hid ⟨hh.out.1, (hh.out.2.2 PX.out.1).1, by have := hh.out.2.1; have := PX.out.2; omega⟩⟩, rfl⟩)
                  case measure => rw [(hD.setA (hf x')).magA, mA']; have := hh.out.2.2 PX.out.1; omega
                · have b1 : (od x' == 0) = false := by simp [ev1]
                  have odd1 : od x' = 1 := by have := od_two x'; omega
                  clear ev1
                  go_wp2
                  go_loopw [35] (fun _ wr => ∃ (y' : Int), Duo w wr x' y' ∧ Hid (G2 G x' y' t ∧ y' ≤ y)) (fun _ wr => magAt (w.heap.size + 1) wr)
                  case atStart => exact ⟨y, hD, Lib.hid ⟨hI.out.1, Int.le_refl _⟩⟩
                  case round =>
                    have HI := hI
                    clear c0 c1' f0 f1 d0 d1 g0 g1 r0 r1 k0 k1 hD mA' a1
                    obtain ⟨y', hD, hJ⟩ := hrel
                    obtain ⟨⟨c0, c1', f0, f1⟩, ⟨d0, d1, g0, g1⟩, ⟨r0, r1, k0, k1⟩⟩ := hD.cells
                    have mB' := hD.magB
                    have a2 := and_od (x := y')
                    obtain ⟨-, py', -, -, ux', uy', -⟩ := id hJ.out.1
                    by_cases ev2 : od y' = 0
                    · have b2 : (od y' == 0) = true := by simp [ev2]
                      have hh := Lib.hid (hJ.out.1.halfB odd1 ev2)
                      have EV := Lib.hid ev2; clear ev2
                      go_wp2_with (go_at_call 64; (refine (half_h y' _ _ _ uy' (by first | rfl | assumption) (by first | rfl | assumption)).mono ?_; rintro e w1 ⟨rfl, hb⟩; (first | (replace hD := (hD.drew).next hb) | (replace hD := hD.next hb)); clear c0 c1' f0 f1 d0 d1 g0 g1 r0 r1 k0 k1; obtain ⟨⟨c0, c1', f0, f1⟩, ⟨d0, d1, g0, g1⟩, ⟨r0, r1, k0, k1⟩⟩ := hD.cells))
                      go_roundw
                      case rel => first | exact ⟨hf y', hD.setB _, Lib.hid ⟨hh.out.1, by have := hh.out.2; have := hJ.out.2; omega⟩⟩ | ((repeat (apply Exists.intro)); exact ⟨⟨hf y', hD.setB _, Lib.hid ⟨hh.out.1, by have := hh.out.2; have := hJ.out.2; omega⟩⟩, rfl⟩)
                      case measure => rw [(hD.setB (hf y')).magB, mB']; have := hh.out.2; have := hh.out.1.2.1; omega
                    · have b2 : (od y' == 0) = false := by simp [ev2]
                      have odd2 : od y' = 1 := by have := od_two y'; omega
                      have OD2 := Lib.hid odd2; have OD1 := Lib.hid odd1; clear odd2 odd1 ev2
                      by_cases lt : x' < y'
                      · have hd : decide (x' < y') = true := by simp [lt]
                        have hm := (hJ.out.1.swap HI.out.2.1).minus OD1.out (Int.le_of_lt lt)
                        have HP : Hid (y' ≤ y) := Lib.hid hJ.out.2
                        go_wp2_with (first | (go_at_call 55; refine (less_h x' y' _ _ _ _ _ ux' uy' (by first | rfl | assumption) (by first | rfl | assumption) (by first | rfl | assumption) (by first | rfl | assumption)).mono ?_; rw [hd]; rintro e w1 ⟨rfl, hb⟩; (first | (replace hD := (hD.drew).next hb) | (replace hD := hD.next hb)); clear c0 c1' f0 f1 d0 d1 g0 g1 r0 r1 k0 k1; obtain ⟨⟨c0, c1', f0, f1⟩, ⟨d0, d1, g0, g1⟩, ⟨r0, r1, k0, k1⟩⟩ := hD.cells) | (go_at_call 56; refine (minus_h y' x' _ _ _ _ _ uy' ux' (Int.le_of_lt lt) (by first | rfl | assumption) (by first | rfl | assumption) (by first | rfl | assumption) (by first | rfl | assumption)).mono ?_; rintro e w2 ⟨rfl, hb⟩; replace hD := ((hD.setA y').setB x').next hb; clear hb c0 c1' f0 f1 d0 d1 g0 g1 r0 r1 k0 k1; obtain ⟨⟨c0, c1', f0, f1⟩, ⟨d0, d1, g0, g1⟩, ⟨r0, r1, k0, k1⟩⟩ := hD.cells))
                        go_roundw
                        case rel => first | exact ⟨dU y' x', x', hD.setA (dU y' x'), Lib.hid hm.1⟩ | ((repeat (apply Exists.intro)); exact ⟨⟨dU y' x', x', hD.setA (dU y' x'), Lib.hid hm.1⟩, rfl⟩)
                        case measure =>
                          have q := (hD.setA (dU y' x')).magA
                          have q2 := (hD.setA (dU y' x')).magB
                          rw [q, q2, mA, mB]
                          have := hm.2; have := hm.1.2.1; have := hm.1.2.2.1; have := HI.out.2.1; have := HI.out.2.2; have := HP.out
                          omega
                      · have hd : decide (x' < y') = false := by simp; omega
                        have hle : y' ≤ x' := by omega
                        have hm := hJ.out.1.minus OD2.out hle
                        have HP : Hid (y' ≤ y) := Lib.hid hJ.out.2
                        go_wp2_with (first | (go_at_call 55; refine (less_h x' y' _ _ _ _ _ ux' uy' (by first | rfl | assumption) (by first | rfl | assumption) (by first | rfl | assumption) (by first | rfl | assumption)).mono ?_; rw [hd]; rintro e w1 ⟨rfl, hb⟩; (first | (replace hD := (hD.drew).next hb) | (replace hD := hD.next hb)); clear c0 c1' f0 f1 d0 d1 g0 g1 r0 r1 k0 k1; obtain ⟨⟨c0, c1', f0, f1⟩, ⟨d0, d1, g0, g1⟩, ⟨r0, r1, k0, k1⟩⟩ := hD.cells) | (go_at_call 56; refine (minus_h x' y' _ _ _ _ _ ux' uy' hle (by first | rfl | assumption) (by first | rfl | assumption) (by first | rfl | assumption) (by first | rfl | assumption)).mono ?_; rintro e w2 ⟨rfl, hb⟩; (first | (replace hD := (hD.drew).next hb) | (replace hD := hD.next hb)); clear c0 c1' f0 f1 d0 d1 g0 g1 r0 r1 k0 k1; obtain ⟨⟨c0, c1', f0, f1⟩, ⟨d0, d1, g0, g1⟩, ⟨r0, r1, k0, k1⟩⟩ := hD.cells))
                        go_roundw
                        case rel => first | exact ⟨dU x' y', y', hD.setA (dU x' y'), Lib.hid hm.1⟩ | ((repeat (apply Exists.intro)); exact ⟨⟨dU x' y', y', hD.setA (dU x' y'), Lib.hid hm.1⟩, rfl⟩)
                        case measure =>
                          have q := (hD.setA (dU x' y')).magA
                          have q2 := (hD.setA (dU x' y')).magB
                          rw [q, q2, mA, mB]
                          have := hm.2; have := hm.1.2.1; have := hm.1.2.2.1; have := HI.out.2.1; have := HI.out.2.2; have := HP.out
                          omega
            · clear hnz hx0
              go_wp2
              go_loopw [29] (fun _ wr => ∃ (x' : Int), Duo w wr x' y ∧ Hid (G2 G x' y t ∧ 0 < x' ∧ x' ≤ x)) (fun _ wr => magAt w.heap.size wr)
              case atStart => exact ⟨x, hD, Lib.hid ⟨hG.out, px, Int.le_refl _⟩⟩
              case round =>
                clear c0 c1' f0 f1 d0 d1 g0 g1 r0 r1 k0 k1 hD zz
                obtain ⟨x', hD, hI⟩ := hrel
                obtain ⟨⟨c0, c1', f0, f1⟩, ⟨d0, d1, g0, g1⟩, ⟨r0, r1, k0, k1⟩⟩ := hD.cells
                have mA' := hD.magA
                have a1 := and_od (x := x')
                obtain ⟨-, -, -, -, ux', -, -⟩ := id hI.out.1
                by_cases ev1 : od x' = 0
                · have b1 : (od x' == 0) = true := by simp [ev1]
                  have hh := Lib.hid (hI.out.1.halfA ev1)
                  have PX := Lib.hid hI.out.2
                  have EV := Lib.hid ev1; clear ev1
                  go_wp2_with (go_at_call 64; (refine (half_h x' _ _ _ ux' (by first | rfl | assumption) (by first | rfl | assumption)).mono ?_; rintro e w1 ⟨rfl, hb⟩; (first | (replace hD := (hD.drew).next hb) | (replace hD := hD.next hb)); clear c0 c1' f0 f1 d0 d1 g0 g1 r0 r1 k0 k1; obtain ⟨⟨c0, c1', f0, f1⟩, ⟨d0, d1, g0, g1⟩, ⟨r0, r1, k0, k1⟩⟩ := hD.cells))
                  go_roundw
                  case rel => first | exact ⟨hf x', hD.setA _, Lib.hid ⟨hh.out.1, (hh.out.2.2 PX.out.1).1, by have := hh.out.2.1; have := PX.out.2; omega⟩⟩ | ((repeat (apply Exists.intro)); exact ⟨⟨hf x', hD.setA _, Lib.hid ⟨hh.out.1, (hh.out.2.2 PX.out.1).1, by have := hh.out.2.1; have := PX.out.2; omega⟩⟩, rfl⟩)
                  case measure => rw [(hD.setA (hf x')).magA, mA']; have := hh.out.2.2 PX.out.1; omega
                · have b1 : (od x' == 0) = false := by simp [ev1]
                  have odd1 : od x' = 1 := by have := od_two x'; omega
                  clear ev1
                  go_wp2
                  go_loopw [35] (fun _ wr => ∃ (y' : Int), Duo w wr x' y' ∧ Hid (G2 G x' y' t ∧ y' ≤ y)) (fun _ wr => magAt (w.heap.size + 1) wr)
                  case atStart => exact ⟨y, hD, Lib.hid ⟨hI.out.1, Int.le_refl _⟩⟩
                  case round =>
                    have HI := hI
                    clear c0 c1' f0 f1 d0 d1 g0 g1 r0 r1 k0 k1 hD mA' a1
                    obtain ⟨y', hD, hJ⟩ := hrel
                    obtain ⟨⟨c0, c1', f0, f1⟩, ⟨d0, d1, g0, g1⟩, ⟨r0, r1, k0, k1⟩⟩ := hD.cells
                    have mB' := hD.magB
                    have a2 := and_od (x := y')
                    obtain ⟨-, py', -, -, ux', uy', -⟩ := id hJ.out.1
                    by_cases ev2 : od y' = 0
                    · have b2 : (od y' == 0) = true := by simp [ev2]
                      have hh := Lib.hid (hJ.out.1.halfB odd1 ev2)
                      have EV := Lib.hid ev2; clear ev2
                      go_wp2_with (go_at_call 64; (refine (half_h y' _ _ _ uy' (by first | rfl | assumption) (by first | rfl | assumption)).mono ?_; rintro e w1 ⟨rfl, hb⟩; (first | (replace hD := (hD.drew).next hb) | (replace hD := hD.next hb)); clear c0 c1' f0 f1 d0 d1 g0 g1 r0 r1 k0 k1; obtain ⟨⟨c0, c1', f0, f1⟩, ⟨d0, d1, g0, g1⟩, ⟨r0, r1, k0, k1⟩⟩ := hD.cells))
                      go_roundw
                      case rel => first | exact ⟨hf y', hD.setB _, Lib.hid ⟨hh.out.1, by have := hh.out.2; have := hJ.out.2; omega⟩⟩ | ((repeat (apply Exists.intro)); exact ⟨⟨hf y', hD.setB _, Lib.hid ⟨hh.out.1, by have := hh.out.2; have := hJ.out.2; omega⟩⟩, rfl⟩)
                      case measure => rw [(hD.setB (hf y')).magB, mB']; have := hh.out.2; have := hh.out.1.2.1; omega
                    · have b2 : (od y' == 0) = false := by simp [ev2]
                      have odd2 : od y' = 1 := by have := od_two y'; omega
                      have OD2 := Lib.hid odd2; have OD1 := Lib.hid odd1; clear odd2 odd1 ev2
                      by_cases lt : x' < y'
                      · have hd : decide (x' < y') = true := by simp [lt]
                        have hm := (hJ.out.1.swap HI.out.2.1).minus OD1.out (Int.le_of_lt lt)
                        have HP : Hid (y' ≤ y) := Lib.hid hJ.out.2
                        go_wp2_with (first | (go_at_call 55; refine (less_h x' y' _ _ _ _ _ ux' uy' (by first | rfl | assumption) (by first | rfl | assumption) (by first | rfl | assumption) (by first | rfl | assumption)).mono ?_; rw [hd]; rintro e w1 ⟨rfl, hb⟩; (first | (replace hD := (hD.drew).next hb) | (replace hD := hD.next hb)); clear c0 c1' f0 f1 d0 d1 g0 g1 r0 r1 k0 k1; obtain ⟨⟨c0, c1', f0, f1⟩, ⟨d0, d1, g0, g1⟩, ⟨r0, r1, k0, k1⟩⟩ := hD.cells) | (go_at_call 56; refine (minus_h y' x' _ _ _ _ _ uy' ux' (Int.le_of_lt lt) (by first | rfl | assumption) (by first | rfl | assumption) (by first | rfl | assumption) (by first | rfl | assumption)).mono ?_; rintro e w2 ⟨rfl, hb⟩; replace hD := ((hD.setA y').setB x').next hb; clear hb c0 c1' f0 f1 d0 d1 g0 g1 r0 r1 k0 k1; obtain ⟨⟨c0, c1', f0, f1⟩, ⟨d0, d1, g0, g1⟩, ⟨r0, r1, k0, k1⟩⟩ := hD.cells))
                        go_roundw
                        case rel => first | exact ⟨dU y' x', x', hD.setA (dU y' x'), Lib.hid hm.1⟩ | ((repeat (apply Exists.intro)); exact ⟨⟨dU y' x', x', hD.setA (dU y' x'), Lib.hid hm.1⟩, rfl⟩)
                        case measure =>
                          have q := (hD.setA (dU y' x')).magA
                          have q2 := (hD.setA (dU y' x')).magB
                          rw [q, q2, mA, mB]
                          have := hm.2; have := hm.1.2.1; have := hm.1.2.2.1; have := HI.out.2.1; have := HI.out.2.2; have := HP.out
                          omega
                      · have hd : decide (x' < y') = false := by simp; omega
                        have hle : y' ≤ x' := by omega
                        have hm := hJ.out.1.minus OD2.out hle
                        have HP : Hid (y' ≤ y) := Lib.hid hJ.out.2
                        go_wp2_with (first | (go_at_call 55; refine (less_h x' y' _ _ _ _ _ ux' uy' (by first | rfl | assumption) (by first | rfl | assumption) (by first | rfl | assumption) (by first | rfl | assumption)).mono ?_; rw [hd]; rintro e w1 ⟨rfl, hb⟩; (first | (replace hD := (hD.drew).next hb) | (replace hD := hD.next hb)); clear c0 c1' f0 f1 d0 d1 g0 g1 r0 r1 k0 k1; obtain ⟨⟨c0, c1', f0, f1⟩, ⟨d0, d1, g0, g1⟩, ⟨r0, r1, k0, k1⟩⟩ := hD.cells) | (go_at_call 56; refine (minus_h x' y' _ _ _ _ _ ux' uy' hle (by first | rfl | assumption) (by first | rfl | assumption) (by first | rfl | assumption) (by first | rfl | assumption)).mono ?_; rintro e w2 ⟨rfl, hb⟩; (first | (replace hD := (hD.drew).next hb) | (replace hD := hD.next hb)); clear c0 c1' f0 f1 d0 d1 g0 g1 r0 r1 k0 k1; obtain ⟨⟨c0, c1', f0, f1⟩, ⟨d0, d1, g0, g1⟩, ⟨r0, r1, k0, k1⟩⟩ := hD.cells))
                        go_roundw
                        case rel => first | exact ⟨dU x' y', y', hD.setA (dU x' y'), Lib.hid hm.1⟩ | ((repeat (apply Exists.intro)); exact ⟨⟨dU x' y', y', hD.setA (dU x' y'), Lib.hid hm.1⟩, rfl⟩)
                        case measure =>
                          have q := (hD.setA (dU x' y')).magA
                          have q2 := (hD.setA (dU x' y')).magB
                          rw [q, q2, mA, mB]
                          have := hm.2; have := hm.1.2.1; have := hm.1.2.2.1; have := HI.out.2.1; have := HI.out.2.2; have := HP.out
                          omega

end Go.Proofs.YtbbbmlnggehcdaaDoor
