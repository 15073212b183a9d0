/- SubsetsFinds: the law's walk. -/
import Derived.Test.YtepcokgpepcccaaDoorAw1
namespace Go.Proofs.YtepcokgpepcccaaDoor
open Go.ChangeShapes Go.WideShapes Go.ChangeAt Go.RowKit
set_option linter.unusedVariables false
set_option linter.unusedSimpArgs false
def longB (n : Nat) : Bool := decide (8 < n) && decide (n ≤ 16) || decide (100 < n)
theorem long_any (u : Value) (zs : List Int) (w : World) (hR : Rdz w u zs) : Calls Tryd.prog 10 #[u] w fun e w' => e = .returned (.bool (longB zs.length)) ∧ w' = w := by
  obtain ⟨q, c, rfl, -⟩ := hR
  obtain ⟨n, hn⟩ : ∃ n, zs.length = n := ⟨_, rfl⟩
  rw [hn]
  clear hn
  go_enter Tryd.func10, Tryd.ntmps10
  by_cases h1 : 8 < n
  · have g1 : decide ((8 : Int) < (n : Int)) = true := by simp; omega
    by_cases h2 : n ≤ 16
    · have g2 : decide ((n : Int) ≤ 16) = true := by simp; omega
      have g3 : longB n = true := by unfold longB; simp; omega
      rw [g3]
      go_wp2
      go_ret
      exact ⟨rfl, rfl⟩
    · have g2 : decide ((n : Int) ≤ 16) = false := by simp; omega
      by_cases h3 : 100 < n
      · have g4 : decide ((100 : Int) < (n : Int)) = true := by simp; omega
        have g3 : longB n = true := by unfold longB; simp; omega
        rw [g3]
        go_wp2
        go_ret
        exact ⟨rfl, rfl⟩
      · have g4 : decide ((100 : Int) < (n : Int)) = false := by simp; omega
        have g3 : longB n = false := by unfold longB; simp; omega
        rw [g3]
        go_wp2
        go_ret
        exact ⟨rfl, rfl⟩
  · have g1 : decide ((8 : Int) < (n : Int)) = false := by simp; omega
    have g4 : decide ((100 : Int) < (n : Int)) = false := by simp; omega
    have g3 : longB n = false := by unfold longB; simp; omega
    rw [g3]
    go_wp2
    go_ret
    exact ⟨rfl, rfl⟩
theorem short_of {zs : List Int} (h : longB zs.length = false) (h0 : fau zs = 0) : zs.length ≤ 8 := by
  have := (fau_zero h0).1
  unfold longB at h
  simp at h
  omega
/-- What Find, Zero and Nearest return of a set. -/
def Good (w : World) (zs : List Int) (o : Option Nat) (x : Value) (c : Int) : Prop := match o with
  | none => x = .slice none 0 0 ∧ c = 12
  | some b => c = 0 ∧ b < 2 ^ zs.length ∧ Rdz w x (toZ (ixs 10 b))
theorem Good.on {w w1 : World} {zs : List Int} {o : Option Nat} {x : Value} {c : Int} (h : Good w zs o x c) (hb : Below w.heap.size w w1) : Good w1 zs o x c := by
  cases o with
  | none => exact h
  | some b => exact ⟨h.1, h.2.1, h.2.2.on hb⟩
theorem gpost_good {w w' : World} {zs : List Int} {o : Option Nat} {e : Ending} (h : gpost w zs o e w') (h0 : fau zs = 0) (ho : ∀ b, o = some b → b < 2 ^ zs.length) : ∃ x c, e = .returned (.tuple #[x, .int .i64 c]) ∧ Good w' zs o x c ∧ Below w.heap.size w w' := by
  obtain ⟨hb, -, k⟩ := h
  have k := k h0
  cases o with
  | none => exact ⟨_, _, k, ⟨rfl, rfl⟩, hb⟩
  | some b =>
    obtain ⟨v, he, hv⟩ := k
    exact ⟨v, 0, he, ⟨rfl, ho b rfl, hv.rd⟩, hb⟩
theorem find_good (u : Value) (zs : List Int) (sum : Int) (w : World) (hR : Rdz w u zs) (hT : Tab w) (h0 : fau zs = 0) (hl : zs.length ≤ 10) :
    Calls Tryd.prog 19 #[u, .int .i64 sum] w fun e w' => ∃ x c, e = .returned (.tuple #[x, .int .i64 c]) ∧ Good w' zs (fst (bySum zs sum) (2 ^ zs.length)) x c ∧ Below w.heap.size w w' :=
  (find_any u zs sum w hR hT fun _ => hl).mono fun e w' h => gpost_good h h0 fun b hb => fst_lt _ _ _ hb
theorem zero_good (u : Value) (zs : List Int) (w : World) (hR : Rdz w u zs) (hT : Tab w) (h0 : fau zs = 0) (hl : zs.length ≤ 10) :
    Calls Tryd.prog 20 #[u] w fun e w' => ∃ x c, e = .returned (.tuple #[x, .int .i64 c]) ∧ Good w' zs (fst (byZero zs) (2 ^ zs.length)) x c ∧ Below w.heap.size w w' :=
  (zero_any u zs w hR hT fun _ => hl).mono fun e w' h => gpost_good h h0 fun b hb => fst_lt _ _ _ hb
theorem same_good (bl : Nat) (x u : Value) (c : Int) (o : Option Nat) (zs : List Int) (w : World) (hl : zs.length ≤ 10) (hG : Good w zs o x c) (hR : Rdz w u zs) (hc : w.cell? ⟨bl, 0, none⟩ = some u) :
    Calls Tryd.prog 21 #[x, .int .i64 c, .int .i64 (orM o), .pointer (some ⟨bl, 0, none⟩)] w fun e w' => e = .returned (.bool true) ∧ Below w.heap.size w w' := by
  cases o with
  | none =>
    obtain ⟨rfl, rfl⟩ := hG
    exact (same_none bl w).mono fun e w' ⟨h, h2⟩ => ⟨h, by subst h2; exact Below.refl _ _⟩
  | some b =>
    obtain ⟨rfl, hb, hx⟩ := hG
    exact same_some bl b x u zs w hb hl hx hR hc
theorem rfirst_0 (u : Value) (zs : List Int) (sum : Int) (w : World) (hR : Rdz w u zs) (hl : zs.length ≤ 8) (hz : allZ zs = true) :
    Calls Tryd.prog 18 #[u, .int .i64 sum, .int .i64 0] w fun e w' => e = .returned (.int .i64 (orM (fst (bySum zs sum) (2 ^ zs.length)))) ∧ Below w.heap.size w w' := by
  rw [fst_sum]; exact rfirst_any u zs sum 0 w hR hl hz (by omega)
theorem rfirst_1 (u : Value) (zs : List Int) (w : World) (hR : Rdz w u zs) (hl : zs.length ≤ 8) (hz : allZ zs = true) :
    Calls Tryd.prog 18 #[u, .int .i64 0, .int .i64 1] w fun e w' => e = .returned (.int .i64 (orM (fst (byZero zs) (2 ^ zs.length)))) ∧ Below w.heap.size w w' := by
  rw [fst_zero]; exact rfirst_any u zs 0 1 w hR hl hz (by omega)
theorem gpost_fault {w w' : World} {zs : List Int} {o : Option Nat} {e : Ending} (h : gpost w zs o e w') (h0 : fau zs ≠ 0) : e = .returned (.tuple #[.slice none 0 0, .int .i64 (fau zs)]) ∧ Below w.heap.size w w' := ⟨h.2.1 h0, h.1⟩
set_option maxRecDepth 100000 in
set_option maxHeartbeats 4000000 in
theorem finds_walk (u : Value) (zs : List Int) (sum : Int) (w : World) (hR : Rdz w u zs) (hI : I64 sum) (hT : Tab w) :
    Calls Tryd.prog 4 #[u, .int .i64 sum] w fun e w' => e = .returned (.bool true) ∧ Below w.heap.size w w' := by
  obtain ⟨u, hq, rfl, hR⟩ : ∃ u', (∃ q n c, u' = .slice q n c) ∧ u = u' ∧ Rdz w u' zs := ⟨u, (by obtain ⟨q, c, e, -⟩ := hR; exact ⟨q, _, c, e⟩), rfl, hR⟩
  obtain ⟨q, n, cc, rfl⟩ := hq
  have b0 := al1 w (.cells #[.slice q n cc] 22)
  have hR0 := hR.on b0
  have hT0 := hT.on b0
  have c0 : (w.alloc (.cells #[.slice q n cc] 22)).cell? ⟨w.heap.size, 0, none⟩ = some (.slice q n cc) := Has.read (Has.new_ w 22 _) 0
  go_enter Tryd.func4, Tryd.ntmps4
  cases hlo : longB zs.length
  · by_cases h0 : fau zs = 0
    · have hl8 := short_of hlo h0
      have hz := (fau_zero h0).2
      have hL := fun w h => long_any (.slice q n cc) zs w h
      have hG := fun w h => given_any (.slice q n cc) zs w h
      rw [hlo] at hL
      rw [h0] at hG
      have HF := fun w h t => find_good (.slice q n cc) zs sum w h t h0 (by omega)
      have HZ := fun w h t => zero_good (.slice q n cc) zs w h t h0 (by omega)
      have H1 := fun w h => rfirst_0 (.slice q n cc) zs sum w h hl8 hz
      have H2 := fun w h => rfirst_1 (.slice q n cc) zs w h hl8 hz
      have HS := fun bl x c o w => same_good bl x (.slice q n cc) c o zs w (by omega)
      obtain ⟨o1, ho1⟩ : ∃ o, fst (bySum zs sum) (2 ^ zs.length) = o := ⟨_, rfl⟩
      obtain ⟨o2, ho2⟩ : ∃ o, fst (byZero zs) (2 ^ zs.length) = o := ⟨_, rfl⟩
      rw [ho1] at HF H1
      rw [ho2] at HZ H2
      clear ho1 ho2 hlo h0
      go_wp2_with (first
        | (go_at_call 9; (with_reducible refine (awake_any _ hT0).mono ?_); rintro e1 w1 ⟨rfl, b1⟩; have R1 := hR0.on b1; have T1 := hT0.on b1; have c1 := cell_later b1 c0)
        | (go_at_call 10; (with_reducible refine (hL _ R1).mono ?_); rintro e2 w2 ⟨rfl, hw⟩; subst w2)
        | (go_at_call 19; (with_reducible refine (HF _ R1 T1).mono ?_); rintro e3 w3 ⟨x, cx, rfl, g3, b3⟩; have R3 := R1.on b3; have T3 := T1.on b3; have c3 := cell_later b3 c1)
        | (go_at_call 20; (with_reducible refine (HZ _ R3 T3).mono ?_); rintro e4 w4 ⟨z, cz, rfl, g4, b4⟩; have R4 := R3.on b4; have c4 := cell_later b4 c3; have g3 := g3.on b4)
        | (go_at_call 13; (with_reducible refine (hG _ R4).mono ?_); rintro e5 w5 ⟨rfl, hw⟩; subst w5)
        | (go_at_call 18; (with_reducible refine (H1 _ R4).mono ?_); rintro e6 w6 ⟨rfl, b6⟩; have R6 := R4.on b6; have c6 := cell_later b6 c4; have g3 := g3.on b6; have g4 := g4.on b6)
        | (go_at_call 21; (with_reducible refine (HS _ _ _ _ _ g3 R6 c6).mono ?_); rintro e7 w7 ⟨rfl, b7⟩; have R7 := R6.on b7; have c7 := cell_later b7 c6; have g4 := g4.on b7)
        | (go_at_call 18; (with_reducible refine (H2 _ R7).mono ?_); rintro e8 w8 ⟨rfl, b8⟩; have R8 := R7.on b8; have c8 := cell_later b8 c7; have g4 := g4.on b8)
        | (go_at_call 21; (with_reducible refine (HS _ _ _ _ _ g4 R8 c8).mono ?_); rintro e9 w9 ⟨rfl, b9⟩))
      go_ret
      exact ⟨rfl, belows (belows (belows (belows (belows (belows (belows (belows b0 b1) b3) b4) b6) b7) b8) b9) (Below.refl _ _)⟩
    · have hL := fun w h => long_any (.slice q n cc) zs w h
      have hG := fun w h => given_any (.slice q n cc) zs w h
      rw [hlo] at hL
      have HF := fun w h t => (find_any (.slice q n cc) zs sum w h t fun k => absurd k h0).mono fun e w' k => gpost_fault k h0
      have HZ := fun w h t => (zero_any (.slice q n cc) zs w h t fun k => absurd k h0).mono fun e w' k => gpost_fault k h0
      obtain ⟨f, ef⟩ : ∃ f, fau zs = f := ⟨_, rfl⟩
      rw [ef] at hG HF HZ h0
      have g : (f != 0) = true := by simp [h0]
      clear ef hlo h0
      go_wp2_with (first
        | (go_at_call 9; (with_reducible refine (awake_any _ hT0).mono ?_); rintro e1 w1 ⟨rfl, b1⟩; have R1 := hR0.on b1; have T1 := hT0.on b1; have c1 := cell_later b1 c0)
        | (go_at_call 10; (with_reducible refine (hL _ R1).mono ?_); rintro e2 w2 ⟨rfl, hw⟩; subst w2)
        | (go_at_call 19; (with_reducible refine (HF _ R1 T1).mono ?_); rintro e3 w3 ⟨rfl, b3⟩; have R3 := R1.on b3; have T3 := T1.on b3; have c3 := cell_later b3 c1)
        | (go_at_call 20; (with_reducible refine (HZ _ R3 T3).mono ?_); rintro e4 w4 ⟨rfl, b4⟩; have R4 := R3.on b4; have c4 := cell_later b4 c3)
        | (go_at_call 13; (with_reducible refine (hG _ R4).mono ?_); rintro e5 w5 ⟨rfl, hw⟩; subst w5))
      go_ret
      exact ⟨rfl, belows (belows (belows b0 b1) b3) b4⟩
  · have hL := fun w h => long_any (.slice q n cc) zs w h
    rw [hlo] at hL
    go_wp2_with (first
      | (go_at_call 9; (with_reducible refine (awake_any _ hT0).mono ?_); rintro e1 w1 ⟨rfl, b1⟩; have R1 := hR0.on b1; have c1 := cell_later b1 c0)
      | (go_at_call 10; (with_reducible refine (hL _ R1).mono ?_); rintro e2 w2 ⟨rfl, hw⟩; subst w2))
    go_ret
    exact ⟨rfl, belows b0 b1⟩
end Go.Proofs.YtepcokgpepcccaaDoor
