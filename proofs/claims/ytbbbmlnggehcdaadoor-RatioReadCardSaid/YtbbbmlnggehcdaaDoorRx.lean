/- The reference's Cmp. -/
import Derived.Test.YtbbbmlnggehcdaaDoorCm
import Derived.Deep.DeepCutAuto
import Derived.WalkSpells
namespace Go.Proofs.YtbbbmlnggehcdaaDoor
open Go.ChangeShapes Go.WideShapes Go.ChangeAt Go.RowKit
set_option linter.unusedVariables false
set_option linter.unusedSimpArgs false

theorem Two.put {w0 w : World} {an ad bn bd : Int} {N : Nat} (h : Two w0 w an ad bn bd) (hN : w0.heap.size + 1 < N) (x y : Value) : Two w0 ((w.setCell ⟨N, 0, none⟩ x).setCell ⟨N, 1, none⟩ y) an ad bn bd :=
  ⟨(h.1.apart_ (by simp; omega) _).apart_ (by simp; omega) _, (h.2.1.apart_ (by simp; omega) _).apart_ (by simp; omega) _, (h.2.2.1.setCell (by simp; omega) _).setCell (by simp; omega) _, by simp; exact h.2.2.2⟩
theorem Has.onw {w w1 : World} {g : Nat} {t : TypeId} {cs : Array Value} (h : Has w g t cs) (hb : Below w.heap.size w w1) : Has w1 g t cs := h.below_ hb h.size_
/-- A new block of two words. -/
def Mi (w : World) (N : Nat) : Prop := Has w N 62 #[.int .u64 0, .int .u64 0]
theorem Mi.on {w w1 : World} {N : Nat} (m : Mi w N) (hb : Below w.heap.size w w1) : Mi w1 N := Has.onw m hb
theorem Mi.cells {w : World} {N : Nat} (m : Mi w N) : w.cell? ⟨N, 0, none⟩ = some (.int .u64 0) ∧ w.cell? ⟨N, 1, none⟩ = some (.int .u64 0) ∧ w.frozen? ⟨N, 0, none⟩ = false ∧ w.frozen? ⟨N, 1, none⟩ = false ∧ N < w.heap.size :=
  ⟨(Has.two m).1, (Has.two m).2.1, (Has.two m).2.2.1, (Has.two m).2.2.2, Has.size_ m⟩
theorem Has.newx_ {w : World} {o : Obj} {g : Nat} {t : TypeId} {cs : Array Value} (ho : o = .cells cs t) (hg : g = w.heap.size) : Has (w.alloc o) g t cs := (by subst ho hg; exact Has.new_ w t cs)
theorem Mi.has {w : World} {N : Nat} (m : Mi w N) : Has w N 62 #[.int .u64 0, .int .u64 0] := m
theorem Has.put2 {w : World} {N : Nat} (m : Has w N 62 #[.int .u64 0, .int .u64 0]) (a b : Value) : Has ((w.setCell ⟨N, 0, none⟩ a).setCell ⟨N, 1, none⟩ b) N 62 #[a, b] := (Has.put_ m 0 a).put_ 1 b
theorem Has.far2 {w : World} {g N : Nat} {t : TypeId} {cs : Array Value} (h : Has w g t cs) (hn : g ≠ N) (a b : Value) : Has ((w.setCell ⟨N, 0, none⟩ a).setCell ⟨N, 1, none⟩ b) g t cs := (h.apart_ hn a).apart_ hn b
theorem mi1 {W w1 : World} (hb : Below (W.alloc (.cells #[.int .u64 0, .int .u64 0] 62)).heap.size (W.alloc (.cells #[.int .u64 0, .int .u64 0] 62)) w1) : Mi w1 W.heap.size := (Has.new_ _ _ _).onw hb
theorem mi1d {W w1 : World} (hb : Below (W.alloc (.cells #[.int .u64 0, .int .u64 0] 62)).drew.heap.size (W.alloc (.cells #[.int .u64 0, .int .u64 0] 62)).drew w1) : Mi w1 W.heap.size := (Has.drew_ (Has.new_ _ _ _)).onw hb
theorem mi2 {W w1 : World} (hb : Below ((W.alloc (.cells #[.int .u64 0, .int .u64 0] 62)).alloc (.cells #[.int .u64 0, .int .u64 0] 62)).heap.size ((W.alloc (.cells #[.int .u64 0, .int .u64 0] 62)).alloc (.cells #[.int .u64 0, .int .u64 0] 62)) w1) : Mi w1 W.heap.size ∧ Mi w1 (W.heap.size + 1) :=
  ⟨((Has.new_ _ _ _).alloc_ _).onw hb, (by show Has _ _ _ _; have h := (Has.new_ (W.alloc (.cells #[.int .u64 0, .int .u64 0] 62)) 62 #[.int .u64 0, .int .u64 0]).onw hb; simpa [World.size_alloc] using h)⟩
theorem mi2d {W w1 : World} (hb : Below ((W.alloc (.cells #[.int .u64 0, .int .u64 0] 62)).alloc (.cells #[.int .u64 0, .int .u64 0] 62)).drew.heap.size ((W.alloc (.cells #[.int .u64 0, .int .u64 0] 62)).alloc (.cells #[.int .u64 0, .int .u64 0] 62)).drew w1) : Mi w1 W.heap.size ∧ Mi w1 (W.heap.size + 1) :=
  ⟨(Has.drew_ ((Has.new_ _ _ _).alloc_ _)).onw hb, (by show Has _ _ _ _; have h := (Has.drew_ (Has.new_ (W.alloc (.cells #[.int .u64 0, .int .u64 0] 62)) 62 #[.int .u64 0, .int .u64 0])).onw hb; simpa [World.size_alloc] using h)⟩
theorem upd {W w2 : World} (hb : Below W.drew.heap.size W.drew w2) : Below W.heap.size W w2 := belows (Dr.below' ⟨1, rfl⟩) hb
theorem up1 {W w2 : World} {o : Obj} (hb : Below (W.alloc o).heap.size (W.alloc o) w2) : Below W.heap.size W w2 := belows (al1 _ _) hb
theorem up1d {W w2 : World} {o : Obj} (hb : Below (W.alloc o).drew.heap.size (W.alloc o).drew w2) : Below W.heap.size W w2 := up1 (upd hb)
theorem up2 {W w2 : World} {o p : Obj} (hb : Below ((W.alloc o).alloc p).heap.size ((W.alloc o).alloc p) w2) : Below W.heap.size W w2 := belows (al2 _ _ _) hb
theorem up2d {W w2 : World} {o p : Obj} (hb : Below ((W.alloc o).alloc p).drew.heap.size ((W.alloc o).alloc p).drew w2) : Below W.heap.size W w2 := up2 (upd hb)

def Five (w0 w : World) (an ad bn bd : Int) (g k : Nat) (h1 l1 h2 l2 : Int) : Prop := Two w0 w an ad bn bd ∧ w.cell? ⟨g, 0, none⟩ = some (.int .u64 h1) ∧ w.cell? ⟨g, 1, none⟩ = some (.int .u64 l1) ∧ w.cell? ⟨k, 0, none⟩ = some (.int .u64 h2) ∧ w.cell? ⟨k, 1, none⟩ = some (.int .u64 l2)
theorem Five.next {w0 w w1 : World} {an ad bn bd : Int} {g k : Nat} {h1 l1 h2 l2 : Int} (h : Five w0 w an ad bn bd g k h1 l1 h2 l2) (hb : Below w.heap.size w w1) : Five w0 w1 an ad bn bd g k h1 l1 h2 l2 :=
  ⟨h.1.next hb, cell_later hb h.2.1, cell_later hb h.2.2.1, cell_later hb h.2.2.2.1, cell_later hb h.2.2.2.2⟩
theorem Five.drew {w0 w : World} {an ad bn bd : Int} {g k : Nat} {h1 l1 h2 l2 : Int} (h : Five w0 w an ad bn bd g k h1 l1 h2 l2) : Five w0 w.drew an ad bn bd g k h1 l1 h2 l2 := h.next (Dr.below' ⟨1, rfl⟩)
theorem Five.six {w0 w : World} {an ad bn bd : Int} {g k : Nat} {h1 l1 h2 l2 : Int} (h : Five w0 w an ad bn bd g k h1 l1 h2 l2) : w.cell? ⟨w0.heap.size, 0, none⟩ = some (.int .i64 an) ∧ w.cell? ⟨g, 0, none⟩ = some (.int .u64 h1) ∧ w.cell? ⟨g, 1, none⟩ = some (.int .u64 l1) ∧ w.cell? ⟨k, 0, none⟩ = some (.int .u64 h2) ∧ w.cell? ⟨k, 1, none⟩ = some (.int .u64 l2) ∧ Five w0 w an ad bn bd g k h1 l1 h2 l2 :=
  ⟨h.1.cells.1, h.2.1, h.2.2.1, h.2.2.2.1, h.2.2.2.2, h⟩

set_option maxRecDepth 100000 in
set_option maxHeartbeats 8000000 in
theorem rcmp_core (an ad bn bd : Int) (w : World) (h1 l1 h2 l2 z1 z2 z3 z4 c : Int) (b : Bool)
    (s1 : ∀ W, Calls Tryd.prog 44 #[.int .i64 an] W fun e w' => e = .returned (.int .u64 z1) ∧ W = w') (s2 : ∀ W, Calls Tryd.prog 44 #[.int .i64 ad] W fun e w' => e = .returned (.int .u64 z2) ∧ W = w')
    (s3 : ∀ W, Calls Tryd.prog 44 #[.int .i64 bn] W fun e w' => e = .returned (.int .u64 z3) ∧ W = w') (s4 : ∀ W, Calls Tryd.prog 44 #[.int .i64 bd] W fun e w' => e = .returned (.int .u64 z4) ∧ W = w')
    (m1 : ∀ W, Calls Tryd.prog 53 #[.int .u64 z1, .int .u64 z4] W fun e w' => e = .returned (.agg #[.int .u64 h1, .int .u64 l1]) ∧ Below W.heap.size W w')
    (m2 : ∀ W, Calls Tryd.prog 53 #[.int .u64 z3, .int .u64 z2] W fun e w' => e = .returned (.agg #[.int .u64 h2, .int .u64 l2]) ∧ Below W.heap.size W w')
    (hL : ∀ W, Calls Tryd.prog 55 #[.agg #[.int .u64 h1, .int .u64 l1], .agg #[.int .u64 h2, .int .u64 l2]] W fun e w' => e = .returned (.bool b) ∧ Below W.heap.size W w')
    (hr : (if decide (an < 0) && !decide (bn < 0) then -1 else if !decide (an < 0) && decide (bn < 0) then 1 else if h1 = h2 ∧ l1 = l2 then 0 else if b == !decide (an < 0) then -1 else 1) = c) :
    Calls Tryd.prog 30 #[.agg #[.int .i64 an, .int .i64 ad], .agg #[.int .i64 bn, .int .i64 bd]] w fun e w' => e = .returned (.int .i64 c) ∧ Below w.heap.size w w' := by
  have E0 := two_start w an ad bn bd
  have HR := Lib.hid hr
  clear hr
  go_enter Tryd.func30, Tryd.ntmps30
  go_wp2_with fail
  generalize ((w.alloc (.cells #[.int .i64 an, .int .i64 ad] 23)).alloc (.cells #[.int .i64 bn, .int .i64 bd] 23)) = W0 at *
  have L0 : w.heap.size + 1 < W0.heap.size := by have := E0.2.2.2; omega
  obtain ⟨e0, e1, e2, e3⟩ := E0.cells
  go_upto_region 1 with fail
  go_cut [5, 6] (fun s t wx => ∃ g k : Nat, s = .pointer (some ⟨g, 0, none⟩) ∧ t = .pointer (some ⟨k, 0, none⟩) ∧ Two w wx an ad bn bd ∧ Has wx g 62 #[.int .u64 h1, .int .u64 l1] ∧ Has wx k 62 #[.int .u64 h2, .int .u64 l2])
  case first =>
    go_region_held3 (fun w' => w'.cell? ⟨w.heap.size, 0, none⟩ = some (.int .i64 an) ∧ w'.cell? ⟨w.heap.size, 1, none⟩ = some (.int .i64 ad) ∧ w'.cell? ⟨w.heap.size + 1, 0, none⟩ = some (.int .i64 bn) ∧ w'.cell? ⟨w.heap.size + 1, 1, none⟩ = some (.int .i64 bd) ∧ Two w w' an ad bn bd)
      (first | ((with_reducible refine Two.kept' ?_); (repeat' (first | with_reducible exact Q2 | with_reducible exact Q1 | with_reducible exact E0 | with_reducible refine Two.alloc ?_ _ | with_reducible refine Two.drew ?_ | with_reducible refine Two.put ?_ ?_ _ _)); all_goals (first | omega | (simp only [World.size_alloc, World.size_drew]; omega))) | (with_reducible exact Two.kept' (by go_split_ands; assumption)) | with_reducible (go_split_ands; assumption) | go_keep)
      (first | (go_at_call 44; first | ((with_reducible refine (s1 _).mono ?_); rintro e w' ⟨rfl, rfl⟩) | ((with_reducible refine (s2 _).mono ?_); rintro e w' ⟨rfl, rfl⟩) | ((with_reducible refine (s3 _).mono ?_); rintro e w' ⟨rfl, rfl⟩) | ((with_reducible refine (s4 _).mono ?_); rintro e w' ⟨rfl, rfl⟩)) | (go_at_call 53; first | ((with_reducible refine (m1 _).mono ?_); rintro e w1 ⟨rfl, hb⟩; have Q1 : Two w w1 an ad bn bd := (by with_reducible exact Two.next (by go_split_ands; assumption) hb); have L1 : w.heap.size + 2 ≤ w1.heap.size := Q1.2.2.2; (first | ((with_reducible have MM := mi2 hb); have M5 := MM.1; have M6 := MM.2; clear MM; obtain ⟨a0, a1, a2, a3, a4⟩ := M5.cells; obtain ⟨b0, b1, b2, b3, b4⟩ := M6.cells) | ((with_reducible have MM := mi2d hb); have M5 := MM.1; have M6 := MM.2; clear MM; obtain ⟨a0, a1, a2, a3, a4⟩ := M5.cells; obtain ⟨b0, b1, b2, b3, b4⟩ := M6.cells) | ((with_reducible have M5 := mi1 hb); obtain ⟨a0, a1, a2, a3, a4⟩ := M5.cells) | ((with_reducible have M5 := mi1d hb); obtain ⟨a0, a1, a2, a3, a4⟩ := M5.cells) | skip); (try (have n0 : W0.heap.size ≠ w1.heap.size := Nat.ne_of_lt a4; have n1 : w1.heap.size ≠ W0.heap.size := fun h => n0 h.symm))) | ((with_reducible refine (m2 _).mono ?_); rintro e w2 ⟨rfl, hc⟩; have Q2 : Two w w2 an ad bn bd := (by with_reducible exact Two.next (by go_split_ands; assumption) hc); have L2 : w.heap.size + 2 ≤ w2.heap.size := Q2.2.2.2; (first | (with_reducible have hY : Below w1.heap.size w1 w2 := hc) | (with_reducible have hY : Below w1.heap.size w1 w2 := upd hc) | (with_reducible have hY : Below w1.heap.size w1 w2 := up1 hc) | (with_reducible have hY : Below w1.heap.size w1 w2 := up1d hc) | (with_reducible have hY : Below w1.heap.size w1 w2 := up2 hc) | (with_reducible have hY : Below w1.heap.size w1 w2 := up2d hc)); (try (replace M5 := M5.on hY; clear a0 a1 a2 a3 a4; obtain ⟨a0, a1, a2, a3, a4⟩ := M5.cells)); (try (replace M6 := M6.on hY; clear b0 b1 b2 b3 b4; obtain ⟨b0, b1, b2, b3, b4⟩ := M6.cells)); (first | ((with_reducible have MM := mi2 hc); have N5 := MM.1; have N6 := MM.2; clear MM; obtain ⟨c0, c1, c2, c3, c4⟩ := N5.cells; obtain ⟨d0, d1, d2, d3, d4⟩ := N6.cells) | ((with_reducible have MM := mi2d hc); have N5 := MM.1; have N6 := MM.2; clear MM; obtain ⟨c0, c1, c2, c3, c4⟩ := N5.cells; obtain ⟨d0, d1, d2, d3, d4⟩ := N6.cells) | ((with_reducible have N5 := mi1 hc); obtain ⟨c0, c1, c2, c3, c4⟩ := N5.cells) | ((with_reducible have N5 := mi1d hc); obtain ⟨c0, c1, c2, c3, c4⟩ := N5.cells) | skip))))
    all_goals (rename_i hH; clear hH)
    all_goals (go_wp2_with fail)
    all_goals go_meet
    all_goals refine ⟨_, _, rfl, rfl, ?_, ?_, ?_⟩
    all_goals first | ((repeat' (first | with_reducible exact Q2 | with_reducible refine Two.alloc ?_ _ | with_reducible refine Two.drew ?_ | with_reducible refine Two.put ?_ ?_ _ _ | with_reducible exact M5.has | with_reducible exact M6.has | with_reducible exact N5.has | with_reducible exact N6.has | (with_reducible refine Has.newx_ ?_ ?_; (focus rfl); (first | with_reducible rfl | (simp only [World.size_alloc]; done) | (simp; done))) | with_reducible refine Has.put2 ?_ _ _ | with_reducible refine Has.alloc_ ?_ _ | with_reducible refine Has.drew_ ?_ | with_reducible refine Has.far2 ?_ ?_ _ _)); all_goals first | assumption | omega | (simp only [World.size_alloc, World.size_drew]; omega); done) | skip
  case rest =>
    obtain ⟨g, k, rfl, rfl, Q, hG, hK⟩ := hcut
    have x0 : _ = some (Value.int .u64 h1) := hG.read 0
    have x1 : _ = some (Value.int .u64 l1) := hG.read 1
    have y0 : _ = some (Value.int .u64 h2) := hK.read 0
    have y1 : _ = some (Value.int .u64 l2) := hK.read 1
    clear hG hK
    clear s1 s2 s3 s4 m1 m2 E0 e0 e1 e2 e3
    obtain ⟨f0, f1, f2, f3⟩ := Q.cells
    by_cases c1 : an < 0
    · have d1 : decide (an < 0) = true := by simp [c1]
      have d2 : decide (0 ≤ an) = false := by simp; omega
      by_cases c2 : bn < 0
      · have d3 : decide (bn < 0) = true := by simp [c2]
        have d4 : decide (0 ≤ bn) = false := by simp; omega
        by_cases hE : h1 = h2 ∧ l1 = l2
        · obtain ⟨rfl, rfl⟩ := hE
          obtain rfl : 0 = c := by have h := HR.out; simpa [c1, c2] using h
          go_wp2
          go_ret
          exact ⟨rfl, Q.2.2.1⟩
        · have hr : (if b then 1 else -1) = c := by have h := HR.out; simp [c1, c2, hE] at h; cases b <;> simpa using h
          have N0 : h1 = h2 ∧ (l1 == l2) = false ∨ (h1 == h2) = false := by
            by_cases q : h1 = h2
            · exact .inl ⟨q, by simp; exact fun z => hE ⟨q, z⟩⟩
            · exact .inr (by simp [q])
          clear hE HR
          have F : Five w _ an ad bn bd g k h1 l1 h2 l2 := ⟨Q, x0, x1, y0, y1⟩
          rcases N0 with ⟨q, N0⟩ | N0
          · subst q
            all_goals cases b
            all_goals simp only [Bool.false_eq_true, if_false, if_true] at hr
            all_goals subst hr
            all_goals go_wp2
            all_goals go_region_held3 (fun w' => w'.cell? ⟨w.heap.size, 0, none⟩ = some (.int .i64 an) ∧ w'.cell? ⟨g, 0, none⟩ = some (.int .u64 h1) ∧ w'.cell? ⟨g, 1, none⟩ = some (.int .u64 l1) ∧ w'.cell? ⟨k, 0, none⟩ = some (.int .u64 h1) ∧ w'.cell? ⟨k, 1, none⟩ = some (.int .u64 l2) ∧ Five w w' an ad bn bd g k h1 l1 h1 l2) (first | with_reducible exact Five.six (Five.drew F) | with_reducible exact Five.six (Five.next (by go_split_ands; assumption) hb) | go_keep) (first | (go_at_call 55; (with_reducible refine (hL _).mono ?_); rintro e w1 ⟨rfl, hb⟩))
            all_goals (rename_i hH; have Z := hH.2.2.2.2.2.1.2.2.1; clear hH)
            all_goals go_wp2
            all_goals go_ret
            all_goals exact ⟨rfl, Z⟩
          · skip
            all_goals cases b
            all_goals simp only [Bool.false_eq_true, if_false, if_true] at hr
            all_goals subst hr
            all_goals go_wp2
            all_goals go_region_held3 (fun w' => w'.cell? ⟨w.heap.size, 0, none⟩ = some (.int .i64 an) ∧ w'.cell? ⟨g, 0, none⟩ = some (.int .u64 h1) ∧ w'.cell? ⟨g, 1, none⟩ = some (.int .u64 l1) ∧ w'.cell? ⟨k, 0, none⟩ = some (.int .u64 h2) ∧ w'.cell? ⟨k, 1, none⟩ = some (.int .u64 l2) ∧ Five w w' an ad bn bd g k h1 l1 h2 l2) (first | with_reducible exact Five.six (Five.drew F) | with_reducible exact Five.six (Five.next (by go_split_ands; assumption) hb) | go_keep) (first | (go_at_call 55; (with_reducible refine (hL _).mono ?_); rintro e w1 ⟨rfl, hb⟩))
            all_goals (rename_i hH; have Z := hH.2.2.2.2.2.1.2.2.1; clear hH)
            all_goals go_wp2
            all_goals go_ret
            all_goals exact ⟨rfl, Z⟩
      · have d3 : decide (bn < 0) = false := by simp [c2]
        have d4 : decide (0 ≤ bn) = true := by simp; omega
        obtain rfl : -1 = c := by have h := HR.out; simpa [c1, c2] using h
        go_wp2
        go_ret
        exact ⟨rfl, Q.2.2.1⟩
    · have d1 : decide (an < 0) = false := by simp [c1]
      have d2 : decide (0 ≤ an) = true := by simp; omega
      by_cases c2 : bn < 0
      · have d3 : decide (bn < 0) = true := by simp [c2]
        have d4 : decide (0 ≤ bn) = false := by simp; omega
        obtain rfl : 1 = c := by have h := HR.out; simpa [c1, c2] using h
        go_wp2
        go_ret
        exact ⟨rfl, Q.2.2.1⟩
      · have d3 : decide (bn < 0) = false := by simp [c2]
        have d4 : decide (0 ≤ bn) = true := by simp; omega
        by_cases hE : h1 = h2 ∧ l1 = l2
        · obtain ⟨rfl, rfl⟩ := hE
          obtain rfl : 0 = c := by have h := HR.out; simpa [c1, c2] using h
          go_wp2
          go_ret
          exact ⟨rfl, Q.2.2.1⟩
        · have hr : (if b then -1 else 1) = c := by have h := HR.out; simp [c1, c2, hE] at h; cases b <;> simpa using h
          have N0 : h1 = h2 ∧ (l1 == l2) = false ∨ (h1 == h2) = false := by
            by_cases q : h1 = h2
            · exact .inl ⟨q, by simp; exact fun z => hE ⟨q, z⟩⟩
            · exact .inr (by simp [q])
          clear hE HR
          have F : Five w _ an ad bn bd g k h1 l1 h2 l2 := ⟨Q, x0, x1, y0, y1⟩
          rcases N0 with ⟨q, N0⟩ | N0
          · subst q
            all_goals cases b
            all_goals simp only [Bool.false_eq_true, if_false, if_true] at hr
            all_goals subst hr
            all_goals go_wp2
            all_goals go_region_held3 (fun w' => w'.cell? ⟨w.heap.size, 0, none⟩ = some (.int .i64 an) ∧ w'.cell? ⟨g, 0, none⟩ = some (.int .u64 h1) ∧ w'.cell? ⟨g, 1, none⟩ = some (.int .u64 l1) ∧ w'.cell? ⟨k, 0, none⟩ = some (.int .u64 h1) ∧ w'.cell? ⟨k, 1, none⟩ = some (.int .u64 l2) ∧ Five w w' an ad bn bd g k h1 l1 h1 l2) (first | with_reducible exact Five.six (Five.drew F) | with_reducible exact Five.six (Five.next (by go_split_ands; assumption) hb) | go_keep) (first | (go_at_call 55; (with_reducible refine (hL _).mono ?_); rintro e w1 ⟨rfl, hb⟩))
            all_goals (rename_i hH; have Z := hH.2.2.2.2.2.1.2.2.1; clear hH)
            all_goals go_wp2
            all_goals go_ret
            all_goals exact ⟨rfl, Z⟩
          · skip
            all_goals cases b
            all_goals simp only [Bool.false_eq_true, if_false, if_true] at hr
            all_goals subst hr
            all_goals go_wp2
            all_goals go_region_held3 (fun w' => w'.cell? ⟨w.heap.size, 0, none⟩ = some (.int .i64 an) ∧ w'.cell? ⟨g, 0, none⟩ = some (.int .u64 h1) ∧ w'.cell? ⟨g, 1, none⟩ = some (.int .u64 l1) ∧ w'.cell? ⟨k, 0, none⟩ = some (.int .u64 h2) ∧ w'.cell? ⟨k, 1, none⟩ = some (.int .u64 l2) ∧ Five w w' an ad bn bd g k h1 l1 h2 l2) (first | with_reducible exact Five.six (Five.drew F) | with_reducible exact Five.six (Five.next (by go_split_ands; assumption) hb) | go_keep) (first | (go_at_call 55; (with_reducible refine (hL _).mono ?_); rintro e w1 ⟨rfl, hb⟩))
            all_goals (rename_i hH; have Z := hH.2.2.2.2.2.1.2.2.1; clear hH)
            all_goals go_wp2
            all_goals go_ret
            all_goals exact ⟨rfl, Z⟩
end Go.Proofs.YtbbbmlnggehcdaaDoor
