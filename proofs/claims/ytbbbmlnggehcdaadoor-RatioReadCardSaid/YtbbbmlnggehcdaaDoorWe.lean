/- Contracts of the numbers of two words: order, sign, plus, modulo, over. -/
import Derived.Test.YtbbbmlnggehcdaaDoorWd
import Derived.Deep.RegionHeld3
namespace Go.Proofs.YtbbbmlnggehcdaaDoor
open Go.ChangeShapes Go.WideShapes Go.ChangeAt Go.RowKit Go.Shelf
set_option linter.unusedVariables false

theorem order_raw (s t : Bool) (vh vl wh wl : Int) (w : World) :
    Calls Tryd.prog 67 #[.agg #[.bool s, .int .u64 vh, .int .u64 vl], .agg #[.bool t, .int .u64 wh, .int .u64 wl]] w fun e w' => e = .returned (.int .i64 (orI (cmpI vh wh) (cmpI vl wl))) ∧ Below w.heap.size w w' := by
  go_enter Tryd.func67, Tryd.ntmps67
  go_wp2
  go_region_held3 (fun w' => w'.cell? ⟨w.heap.size, 1, none⟩ = some (.int .u64 vh) ∧ w'.cell? ⟨w.heap.size, 2, none⟩ = some (.int .u64 vl) ∧ w'.cell? ⟨w.heap.size + 1, 1, none⟩ = some (.int .u64 wh) ∧ w'.cell? ⟨w.heap.size + 1, 2, none⟩ = some (.int .u64 wl)) (go_keep)
    (first | (go_at_call 76; refine (compare_any _ _ _).mono ?_; rintro e w1 ⟨rfl, rfl⟩) | (go_at_call 75; refine (or_any (cmpI vh wh) (cmpI vl wl) _ _ ?_ ?_).mono ?_; (simp [go_sem]); (simp [go_sem]); rintro e w' ⟨rfl, n, rfl⟩))
  go_wp2
  go_ret
  exact ⟨rfl, Dr.below (al (al2 _ _ _) _) ⟨_, rfl⟩⟩

theorem order_ab (x y : Int) : orI (cmpI (wH x) (wH y)) (cmpI (wL x) (wL y)) = cmpI (ab x) (ab y) := by
  have h1 := wHL x
  have h2 := wHL y
  have h3 := wL_b x
  have h4 := wL_b y
  generalize wH x = a at *
  generalize wH y = b at *
  generalize wL x = c at *
  generalize wL y = d at *
  rw [← h1, ← h2]
  unfold orI cmpI
  repeat' split
  all_goals omega

theorem order_any (x y : Int) (w : World) :
    Calls Tryd.prog 67 #[.agg #[.bool (wS x), .int .u64 (wH x), .int .u64 (wL x)], .agg #[.bool (wS y), .int .u64 (wH y), .int .u64 (wL y)]] w fun e w' => e = .returned (.int .i64 (cmpI (ab x) (ab y))) ∧ Below w.heap.size w w' := by
  rw [← order_ab]; exact order_raw _ _ _ _ _ _ w

theorem sign_any (x : Int) (w : World) :
    Calls Tryd.prog 52 #[.agg #[.bool (wS x), .int .u64 (wH x), .int .u64 (wL x)]] w fun e w' => e = .returned (.int .i64 (cmpI x 0)) ∧ Below w.heap.size w w' := by
  by_cases h : x < 0
  · have e1 : wS x = true := by unfold wS; simp [h]
    have e2 : cmpI x 0 = -1 := by unfold cmpI; rw [if_pos h]
    rw [e1, e2]
    clear e1 e2 h
    go_enter Tryd.func52, Tryd.ntmps52
    go_wp2
    go_ret
    exact ⟨rfl, al1 _ _⟩
  · have e1 : wS x = false := by unfold wS; simp [h]
    have e2 : cmpI x 0 = cmpI (ab x) (ab 0) := by rw [ab_pos (by omega), ab_pos (by omega)]
    have hO := order_raw false false (wH x) (wL x) 0 0
    rw [show orI (cmpI (wH x) 0) (cmpI (wL x) 0) = cmpI (ab x) (ab 0) from order_ab x 0, ← e2] at hO
    rw [e1]
    clear e1 e2 h
    generalize cmpI x 0 = r at *
    go_enter Tryd.func52, Tryd.ntmps52
    go_wp2_with (first | (go_at_call 67; refine (hO _).mono ?_; rintro e w1 ⟨rfl, hb⟩))
    go_ret
    exact ⟨rfl, belows (al1 _ _) hb⟩

theorem plus_same (s : Bool) (vh vl wh wl : Int) (w : World) (b1 : 0 ≤ vh ∧ vh ≤ 4611686018427387904) (b2 : 0 ≤ wh ∧ wh ≤ 4611686018427387904) (b3 : 0 ≤ vl ∧ vl ≤ 18446744073709551615) (b4 : 0 ≤ wl ∧ wl ≤ 18446744073709551615) :
    Calls Tryd.prog 48 #[.agg #[.bool s, .int .u64 vh, .int .u64 vl], .agg #[.bool s, .int .u64 wh, .int .u64 wl]] w fun e w' => e = .returned (.agg #[.bool s, .int .u64 (vh + wh + (vl + wl) / 18446744073709551616), .int .u64 ((vl + wl) % 18446744073709551616)]) ∧ Below w.heap.size w w' := by
  have hA := fun w => run_add vl wl b3.1 b4.1 w
  have hc : 0 ≤ (vl + wl) / 18446744073709551616 ∧ (vl + wl) / 18446744073709551616 ≤ 1 := by omega
  obtain ⟨c, hcc⟩ : ∃ c, c = (vl + wl) / 18446744073709551616 := ⟨_, rfl⟩
  obtain ⟨r, hrr⟩ : ∃ c, c = (vl + wl) % 18446744073709551616 := ⟨_, rfl⟩
  rw [← hcc] at hc
  simp only [← hcc, ← hrr] at hA ⊢
  clear hcc hrr
  cases s <;> (go_enter Tryd.func48, Tryd.ntmps48; go_wp2; refine bodyPost_ret (v := .agg #[.bool _, .int .u64 (vh + wh + c), .int .u64 r]) (by simp [results, Tryd.results48, go_sem]) rfl ⟨rfl, al (al2 _ _ _) _⟩)

theorem has3 (w : World) (t1 t2 t3 : TypeId) (a b c : Array Value) : Has (((w.alloc (.cells a t1)).alloc (.cells b t2)).alloc (.cells c t3)) w.heap.size t1 a ∧ Has (((w.alloc (.cells a t1)).alloc (.cells b t2)).alloc (.cells c t3)) (w.heap.size + 1) t2 b ∧ Has (((w.alloc (.cells a t1)).alloc (.cells b t2)).alloc (.cells c t3)) (w.heap.size + 1 + 1) t3 c ∧ (((w.alloc (.cells a t1)).alloc (.cells b t2)).alloc (.cells c t3)).heap.size = w.heap.size + 3 := by
  have s1 : (w.alloc (.cells a t1)).heap.size = w.heap.size + 1 := by simp
  have s2 : ((w.alloc (.cells a t1)).alloc (.cells b t2)).heap.size = w.heap.size + 1 + 1 := by simp
  have h1 := (((Has.new_ w t1 a).alloc_ (.cells b t2)).alloc_ (.cells c t3))
  have h2 := ((Has.new_ (w.alloc (.cells a t1)) t2 b).alloc_ (.cells c t3))
  have h3 := Has.new_ ((w.alloc (.cells a t1)).alloc (.cells b t2)) t3 c
  rw [s1] at h2; rw [s2] at h3
  exact ⟨h1, h2, h3, by simp⟩

theorem three_cells {w w1 : World} {s t : Bool} {vh vl wh wl : Int}
    (hb : Below (((w.alloc (.cells #[.bool s, .int .u64 vh, .int .u64 vl] 66)).alloc (.cells #[.bool t, .int .u64 wh, .int .u64 wl] 66)).alloc (.cells #[.bool false, .int .u64 0, .int .u64 0] 66)).heap.size
      (((w.alloc (.cells #[.bool s, .int .u64 vh, .int .u64 vl] 66)).alloc (.cells #[.bool t, .int .u64 wh, .int .u64 wl] 66)).alloc (.cells #[.bool false, .int .u64 0, .int .u64 0] 66)) w1) :
    Has w1 w.heap.size 66 #[.bool s, .int .u64 vh, .int .u64 vl] ∧ Has w1 (w.heap.size + 1) 66 #[.bool t, .int .u64 wh, .int .u64 wl] ∧ Has w1 (w.heap.size + 1 + 1) 66 #[.bool false, .int .u64 0, .int .u64 0] ∧ Below w.heap.size w w1 := by
  have hh := has3 w 66 66 66 #[.bool s, .int .u64 vh, .int .u64 vl] #[.bool t, .int .u64 wh, .int .u64 wl] #[.bool false, .int .u64 0, .int .u64 0]
  refine ⟨hh.1.below_ hb (by rw [hh.2.2.2]; omega), hh.2.1.below_ hb (by rw [hh.2.2.2]; omega), hh.2.2.1.below_ hb (by rw [hh.2.2.2]; omega), belows (al (al2 _ _ _) _) hb⟩

theorem has_cells {w : World} {g : Nat} {s : Bool} {a b : Int} (h : Has w g 66 #[.bool s, .int .u64 a, .int .u64 b]) :
    w.cell? ⟨g, 0, none⟩ = some (.bool s) ∧ w.cell? ⟨g, 1, none⟩ = some (.int .u64 a) ∧ w.cell? ⟨g, 2, none⟩ = some (.int .u64 b) ∧ w.frozen? ⟨g, 0, none⟩ = false ∧ w.frozen? ⟨g, 1, none⟩ = false ∧ w.frozen? ⟨g, 2, none⟩ = false :=
  ⟨h.read 0, h.read 1, h.read 2, h.open_ 0, h.open_ 1, h.open_ 2⟩

theorem plus_zero (s t : Bool) (hst : t = !s) (vh vl wh wl : Int) (w : World) (hO : orI (cmpI vh wh) (cmpI vl wl) = 0) :
    Calls Tryd.prog 48 #[.agg #[.bool s, .int .u64 vh, .int .u64 vl], .agg #[.bool t, .int .u64 wh, .int .u64 wl]] w fun e w' => e = .returned (.agg #[.bool false, .int .u64 0, .int .u64 0]) ∧ Below w.heap.size w w' := by
  have hOr := fun w => order_raw s t vh vl wh wl w
  simp only [hO] at hOr
  subst hst
  clear hO
  cases s
  · go_enter Tryd.func48, Tryd.ntmps48
    go_wp2_with (first | (go_at_call 67; refine (hOr _).mono ?_; rintro e w1 ⟨rfl, hb⟩; obtain ⟨hv, hw, hr, hB⟩ := three_cells hb; obtain ⟨v0, v1, v2, f0, f1, f2⟩ := has_cells hv; obtain ⟨u0, u1, u2, g0, g1, g2⟩ := has_cells hw; obtain ⟨q0, q1, q2, e0, e1, e2⟩ := has_cells hr; clear hb))
    refine bodyPost_ret (v := .agg #[.bool false, .int .u64 0, .int .u64 0]) (by simp [results, Tryd.results48, go_sem, q0, q1, q2]) rfl ⟨rfl, ?_⟩
    repeat (refine Below.setCell ?_ (by first | (simp; done) | (simp; omega)) _)
    exact hB
  · go_enter Tryd.func48, Tryd.ntmps48
    go_wp2_with (first | (go_at_call 67; refine (hOr _).mono ?_; rintro e w1 ⟨rfl, hb⟩; obtain ⟨hv, hw, hr, hB⟩ := three_cells hb; obtain ⟨v0, v1, v2, f0, f1, f2⟩ := has_cells hv; obtain ⟨u0, u1, u2, g0, g1, g2⟩ := has_cells hw; obtain ⟨q0, q1, q2, e0, e1, e2⟩ := has_cells hr; clear hb))
    refine bodyPost_ret (v := .agg #[.bool false, .int .u64 0, .int .u64 0]) (by simp [results, Tryd.results48, go_sem, q0, q1, q2]) rfl ⟨rfl, ?_⟩
    repeat (refine Below.setCell ?_ (by first | (simp; done) | (simp; omega)) _)
    exact hB

theorem plus_lt (s t : Bool) (hst : t = !s) (vh vl wh wl : Int) (w : World) (hO : orI (cmpI vh wh) (cmpI vl wl) = -1) (b1 : 0 ≤ vh ∧ vh ≤ 4611686018427387904) (b2 : 0 ≤ wh ∧ wh ≤ 4611686018427387904) (b3 : 0 ≤ vl ∧ vl ≤ 18446744073709551615) (b4 : 0 ≤ wl ∧ wl ≤ 18446744073709551615)
    (hh : 0 ≤ wh - vh - (if wl < vl then 1 else 0)) :
    Calls Tryd.prog 48 #[.agg #[.bool s, .int .u64 vh, .int .u64 vl], .agg #[.bool t, .int .u64 wh, .int .u64 wl]] w fun e w' => e = .returned (.agg #[.bool t, .int .u64 (wh - vh - (if wl < vl then 1 else 0)), .int .u64 ((wl - vl) % 18446744073709551616)]) ∧ Below w.heap.size w w' := by
  have hOr := fun w => order_raw s t vh vl wh wl w
  simp only [hO] at hOr
  have hA := fun w => run_sub wl vl b4.1 b3.1 b3.2 w
  have hc : 0 ≤ (if wl < vl then (1 : Int) else 0) ∧ (if wl < vl then (1 : Int) else 0) ≤ 1 := by split <;> omega
  obtain ⟨c, hcc⟩ : ∃ c : Int, c = if wl < vl then 1 else 0 := ⟨_, rfl⟩
  obtain ⟨r, hrr⟩ : ∃ c, c = (wl - vl) % 18446744073709551616 := ⟨_, rfl⟩
  rw [← hcc] at hc
  simp only [← hcc, ← hrr] at hA hh ⊢
  clear hcc hrr hO
  subst hst
  cases s
  · go_enter Tryd.func48, Tryd.ntmps48
    go_wp2_with (first | (go_at_call 67; refine (hOr _).mono ?_; rintro e w1 ⟨rfl, hb⟩; obtain ⟨hv, hw, hr, hB⟩ := three_cells hb; obtain ⟨v0, v1, v2, f0, f1, f2⟩ := has_cells hv; obtain ⟨u0, u1, u2, g0, g1, g2⟩ := has_cells hw; obtain ⟨q0, q1, q2, e0, e1, e2⟩ := has_cells hr; clear hb))
    refine bodyPost_ret (v := .agg #[.bool true, .int .u64 (wh - vh - c), .int .u64 r]) (by simp [results, Tryd.results48, go_sem, q0, q1, q2]) rfl ⟨rfl, ?_⟩
    repeat (refine Below.setCell ?_ (by first | (simp; done) | (simp; omega)) _)
    exact hB
  · go_enter Tryd.func48, Tryd.ntmps48
    go_wp2_with (first | (go_at_call 67; refine (hOr _).mono ?_; rintro e w1 ⟨rfl, hb⟩; obtain ⟨hv, hw, hr, hB⟩ := three_cells hb; obtain ⟨v0, v1, v2, f0, f1, f2⟩ := has_cells hv; obtain ⟨u0, u1, u2, g0, g1, g2⟩ := has_cells hw; obtain ⟨q0, q1, q2, e0, e1, e2⟩ := has_cells hr; clear hb))
    refine bodyPost_ret (v := .agg #[.bool false, .int .u64 (wh - vh - c), .int .u64 r]) (by simp [results, Tryd.results48, go_sem, q0, q1, q2]) rfl ⟨rfl, ?_⟩
    repeat (refine Below.setCell ?_ (by first | (simp; done) | (simp; omega)) _)
    exact hB

theorem plus_gt (s t : Bool) (hst : t = !s) (vh vl wh wl : Int) (w : World) (hO : orI (cmpI vh wh) (cmpI vl wl) = 1) (b1 : 0 ≤ vh ∧ vh ≤ 4611686018427387904) (b2 : 0 ≤ wh ∧ wh ≤ 4611686018427387904) (b3 : 0 ≤ vl ∧ vl ≤ 18446744073709551615) (b4 : 0 ≤ wl ∧ wl ≤ 18446744073709551615)
    (hh : 0 ≤ vh - wh - (if vl < wl then 1 else 0)) :
    Calls Tryd.prog 48 #[.agg #[.bool s, .int .u64 vh, .int .u64 vl], .agg #[.bool t, .int .u64 wh, .int .u64 wl]] w fun e w' => e = .returned (.agg #[.bool s, .int .u64 (vh - wh - (if vl < wl then 1 else 0)), .int .u64 ((vl - wl) % 18446744073709551616)]) ∧ Below w.heap.size w w' := by
  have hOr := fun w => order_raw s t vh vl wh wl w
  simp only [hO] at hOr
  have hA := fun w => run_sub vl wl b3.1 b4.1 b4.2 w
  have hc : 0 ≤ (if vl < wl then (1 : Int) else 0) ∧ (if vl < wl then (1 : Int) else 0) ≤ 1 := by split <;> omega
  obtain ⟨c, hcc⟩ : ∃ c : Int, c = if vl < wl then 1 else 0 := ⟨_, rfl⟩
  obtain ⟨r, hrr⟩ : ∃ c, c = (vl - wl) % 18446744073709551616 := ⟨_, rfl⟩
  rw [← hcc] at hc
  simp only [← hcc, ← hrr] at hA hh ⊢
  clear hcc hrr hO
  subst hst
  cases s
  · go_enter Tryd.func48, Tryd.ntmps48
    go_wp2_with (first | (go_at_call 67; refine (hOr _).mono ?_; rintro e w1 ⟨rfl, hb⟩; obtain ⟨hv, hw, hr, hB⟩ := three_cells hb; obtain ⟨v0, v1, v2, f0, f1, f2⟩ := has_cells hv; obtain ⟨u0, u1, u2, g0, g1, g2⟩ := has_cells hw; obtain ⟨q0, q1, q2, e0, e1, e2⟩ := has_cells hr; clear hb))
    refine bodyPost_ret (v := .agg #[.bool false, .int .u64 (vh - wh - c), .int .u64 r]) (by simp [results, Tryd.results48, go_sem, q0, q1, q2]) rfl ⟨rfl, ?_⟩
    repeat (refine Below.setCell ?_ (by first | (simp; done) | (simp; omega)) _)
    exact hB
  · go_enter Tryd.func48, Tryd.ntmps48
    go_wp2_with (first | (go_at_call 67; refine (hOr _).mono ?_; rintro e w1 ⟨rfl, hb⟩; obtain ⟨hv, hw, hr, hB⟩ := three_cells hb; obtain ⟨v0, v1, v2, f0, f1, f2⟩ := has_cells hv; obtain ⟨u0, u1, u2, g0, g1, g2⟩ := has_cells hw; obtain ⟨q0, q1, q2, e0, e1, e2⟩ := has_cells hr; clear hb))
    refine bodyPost_ret (v := .agg #[.bool true, .int .u64 (vh - wh - c), .int .u64 r]) (by simp [results, Tryd.results48, go_sem, q0, q1, q2]) rfl ⟨rfl, ?_⟩
    repeat (refine Below.setCell ?_ (by first | (simp; done) | (simp; omega)) _)
    exact hB


theorem ab_add_same {x y : Int} (h : wS x = wS y) : ab (x + y) = ab x + ab y ∧ wS (x + y) = wS x := by
  unfold wS at *
  have : (x < 0) ↔ (y < 0) := by simpa using h
  constructor
  · unfold ab; omega
  · rw [Bool.eq_iff_iff]; simp; omega

theorem plus_any (x y : Int) (w : World) (hx : Sm x) (hy : Sm y) :
    Calls Tryd.prog 48 #[.agg #[.bool (wS x), .int .u64 (wH x), .int .u64 (wL x)], .agg #[.bool (wS y), .int .u64 (wH y), .int .u64 (wL y)]] w fun e w' => e = .returned (.agg #[.bool (wS (aI x y)), .int .u64 (wH (aI x y)), .int .u64 (wL (aI x y))]) ∧ Below w.heap.size w w' := by
  have b1 := wH_b hx
  have b2 := wH_b hy
  have b3 := wL_b x
  have b4 := wL_b y
  have e1 := wHL x
  have e2 := wHL y
  have n1 := ab_nn x
  have n2 := ab_nn y
  unfold aI
  have hO := order_ab x y
  by_cases hs : wS x = wS y
  · obtain ⟨ha, hsg⟩ := ab_add_same hs
    have h := plus_same (wS x) (wH x) (wL x) (wH y) (wL y) w b1 b2 b3 b4
    have f1 : wH (x + y) = wH x + wH y + (wL x + wL y) / 18446744073709551616 := by rw [show wH (x + y) = ab (x + y) / 18446744073709551616 from rfl, ha]; omega
    have f2 : wL (x + y) = (wL x + wL y) % 18446744073709551616 := by rw [show wL (x + y) = ab (x + y) % 18446744073709551616 from rfl, ha]; omega
    rw [hsg, f1, f2, ← hs]
    exact h
  · have ht : wS y = !(wS x) := by revert hs; cases wS x <;> cases wS y <;> simp
    have hxy : ¬ ((x < 0) ↔ (y < 0)) := by
      intro k; apply hs; unfold wS; rw [Bool.eq_iff_iff]; simpa using k
    rcases Int.lt_trichotomy (ab x) (ab y) with h | h | h
    · have hc : cmpI (ab x) (ab y) = -1 := by unfold cmpI; rw [if_pos h]
      rw [hc] at hO
      have ha : ab (x + y) = ab y - ab x ∧ wS (x + y) = wS y := by
        unfold wS ab at *; refine ⟨by omega, ?_⟩; rw [Bool.eq_iff_iff]; simp; omega
      have f1 : wH (x + y) = wH y - wH x - (if wL y < wL x then 1 else 0) := by
        rw [show wH (x + y) = ab (x + y) / 18446744073709551616 from rfl, ha.1]; split <;> omega
      have f2 : wL (x + y) = (wL y - wL x) % 18446744073709551616 := by
        rw [show wL (x + y) = ab (x + y) % 18446744073709551616 from rfl, ha.1]; omega
      have hp : 0 ≤ wH (x + y) := by unfold wH; have := ab_nn (x + y); omega
      rw [ha.2, f2, f1]
      exact plus_lt _ _ ht _ _ _ _ w hO b1 b2 b3 b4 (by rw [← f1]; exact hp)
    · have hc : cmpI (ab x) (ab y) = 0 := by unfold cmpI; rw [if_neg (by omega), if_neg (by omega)]
      rw [hc] at hO
      have ha : x + y = 0 := by unfold ab at h; omega
      rw [ha]
      exact plus_zero _ _ ht _ _ _ _ w hO
    · have hc : cmpI (ab x) (ab y) = 1 := by unfold cmpI; rw [if_neg (by omega), if_pos h]
      rw [hc] at hO
      have ha : ab (x + y) = ab x - ab y ∧ wS (x + y) = wS x := by
        unfold wS ab at *; refine ⟨by omega, ?_⟩; rw [Bool.eq_iff_iff]; simp; omega
      have f1 : wH (x + y) = wH x - wH y - (if wL x < wL y then 1 else 0) := by
        rw [show wH (x + y) = ab (x + y) / 18446744073709551616 from rfl, ha.1]; split <;> omega
      have f2 : wL (x + y) = (wL x - wL y) % 18446744073709551616 := by
        rw [show wL (x + y) = ab (x + y) % 18446744073709551616 from rfl, ha.1]; omega
      have hp : 0 ≤ wH (x + y) := by unfold wH; have := ab_nn (x + y); omega
      rw [ha.2, f2, f1]
      exact plus_gt _ _ ht _ _ _ _ w hO b1 b2 b3 b4 (by rw [← f1]; exact hp)
end Go.Proofs.YtbbbmlnggehcdaaDoor
