/- The reference's First. -/
import Derived.Test.YtepcokgpepcccaaDoorOrd
namespace Go.Proofs.YtepcokgpepcccaaDoor
open Go.ChangeShapes Go.WideShapes Go.ChangeAt Go.RowKit
set_option linter.unusedVariables false
set_option linter.unusedSimpArgs false

theorem fst_cong {p p' : Nat → Bool} : ∀ n : Nat, (∀ s, s < n → p s = p' s) → fst p n = fst p' n
  | 0, _ => rfl
  | n + 1, h => by
    rw [fst, fst, fst_cong n (fun s hs => h s (by omega))]
    unfold fstep
    rw [h n (by omega)]
/-- Sets of a sum, of so many indices at least. -/
def rby (zs : List Int) (sum : Int) (least s : Nat) : Bool := decide (least ≤ (ixs zs.length s).length) && sm zs s zs.length == sum
def orM : Option Nat → Int
  | none => -1
  | some b => b
theorem rind_rd (u : Value) (zs : List Int) (s : Nat) (X : List Int) (w : World) (hX : X = toZ (ixs zs.length s)) (hR : Rdz w u zs) (hl : zs.length ≤ 10) (hs : s < 1024) :
    Calls Tryd.prog 17 #[u, .int .i64 s] w fun e w' => ∃ q c, e = .returned (.slice q X.length c) ∧ Rdz w' (.slice q X.length c) X ∧ Below w.heap.size w w' := by
  refine (rindices_any u zs s w hR hl hs).mono ?_
  rintro e w' ⟨v, rfl, ho, hb⟩
  rw [← hX] at ho
  obtain ⟨q, c, rfl, k⟩ := ho.cell
  exact ⟨q, c, rfl, ⟨q, c, rfl, k⟩, hb⟩
set_option maxRecDepth 100000 in
set_option maxHeartbeats 8000000 in
theorem rfirst_any (u : Value) (zs : List Int) (sum : Int) (least : Nat) (w : World) (hR : Rdz w u zs) (hl : zs.length ≤ 8) (hz : allZ zs = true) (h2 : least ≤ 1) :
    Calls Tryd.prog 18 #[u, .int .i64 sum, .int .i64 least] w fun e w' => e = .returned (.int .i64 (orM (fst (rby zs sum least) (2 ^ zs.length)))) ∧ Below w.heap.size w w' := by
  have hN2 : 2 ^ zs.length ≤ 256 := Nat.pow_le_pow_right (n := 2) (by omega) hl
  have hcast : (2 : Int) ^ zs.length = ((2 ^ zs.length : Nat) : Int) := by simp
  have hrb := fun s t hs ht => bef_rbf zs.length s t (by omega) hs ht
  obtain ⟨N, hN⟩ : ∃ N, 2 ^ zs.length = N := ⟨_, rfl⟩
  have W0 : wrap64 ((2 : Int) ^ zs.length) = (N : Int) := by rw [hcast, hN]; unfold wrap64; rw [hN] at hN2; omega
  rw [hN] at hN2 hrb ⊢
  have HRB := Lib.hid hrb
  obtain ⟨p, hp⟩ : ∃ p, rby zs sum least = p := ⟨_, rfl⟩
  rw [hp]
  have HPP := Lib.hid hp
  have hRI := fun s X w hX hR hs => rind_rd u zs s X w hX hR (by omega) hs
  have hRS := fun s w h hs => rsum_any u zs s w h (by omega) hz hs
  obtain ⟨q, c, rfl, hq⟩ := hR
  have HR : Hid (Rdz w (.slice q zs.length c) zs) := Lib.hid ⟨q, c, rfl, hq⟩
  clear hq hN hp hcast hrb
  go_enter Tryd.func18, Tryd.ntmps18
  go_wp2
  go_loopw [7, 8] (fun v7 v8 wr => ∃ k : Nat, ∃ o : Option Nat, v8 = .int .i64 k ∧ k ≤ N ∧ v7 = .int .i64 (orM o) ∧ Hid (fst p k = o) ∧ Below w.heap.size w wr) (fun _ v _ => N - (intOf v).toNat)
  case atStart => exact ⟨0, none, rfl, Nat.zero_le _, rfl, Lib.hid rfl, Below.refl _ _⟩
  case round =>
    obtain ⟨k, o, rfl, hk, rfl, hF, hB⟩ := hrel
    by_cases hlt : k < N
    · have g : decide ((k : Int) < (N : Int)) = true := by simp [hlt]
      have W1 : IntKind.i64.wrap ((k : Int) + 1) = ((k + 1 : Nat) : Int) := by rw [IntWalk.i64_in _ (by omega)]; omega
      obtain ⟨X, hX⟩ : ∃ X, X = toZ (ixs zs.length k) := ⟨_, rfl⟩
      have hpk : p k = (decide (least ≤ X.length) && sm zs k zs.length == sum) := by rw [← HPP.out, rby, hX, toZ_len]
      have hI := fun w h => hRI k X w hX h (by omega)
      have hS := fun w h => hRS k w h (by omega)
      obtain ⟨S, hSS⟩ : ∃ S, S = sm zs k zs.length := ⟨_, rfl⟩
      rw [← hSS] at hpk hS
      have HX := Lib.hid hX
      have hst : Hid (fst p (k + 1) = fstep p o k) := Lib.hid (by rw [fst, hF.out])
      have HR1 := Lib.hid (HR.out.on hB)
      have ho := fun t (e : o = some t) => fst_lt p k t (by rw [hF.out, e])
      clear hSS hX
      by_cases c1 : X.length < least
      · have g1 : decide ((X.length : Int) < (least : Int)) = true := by simp; omega
        have E : Hid (fst p (k + 1) = o) := Lib.hid (by rw [hst.out]; unfold fstep; rw [hpk, decide_eq_false (by omega)]; rfl)
        clear hpk
        go_wp2_with (go_at_call 17; (with_reducible refine (hI _ HR1.out).mono ?_); rintro e1 w1 ⟨q1, cc1, rfl, hr1, hb1⟩)
        exact ⟨⟨k + 1, o, rfl, hlt, rfl, E, belows hB hb1⟩, by simp [intOf]; omega⟩
      · have g1 : decide ((X.length : Int) < (least : Int)) = false := by simp; omega
        rw [decide_eq_true (by omega : least ≤ X.length), Bool.true_and] at hpk
        by_cases c2 : S = sum
        · have g2 : (S != sum) = false := by simp [c2]
          rw [show (S == sum) = true from by simp [c2]] at hpk
          have HPK := Lib.hid hpk
          clear hpk c2
          cases o with
          | none =>
            have E : Hid (fst p (k + 1) = some k) := Lib.hid (by rw [hst.out]; unfold fstep; rw [HPK.out])
            go_wp2_with (first
              | (go_at_call 17; (with_reducible refine (hI _ HR1.out).mono ?_); rintro e1 w1 ⟨q1, cc1, rfl, hr1, hb1⟩; have HR2 := Lib.hid (HR1.out.on hb1))
              | (go_at_call 48; (with_reducible refine (hS _ HR2.out).mono ?_); rintro e2 w2 ⟨rfl, hw⟩; subst w2))
            exact ⟨⟨k + 1, some k, rfl, hlt, rfl, E, belows hB hb1⟩, by simp [intOf]; omega⟩
          | some t =>
            have htk := ho t rfl
            obtain ⟨Y, hY⟩ : ∃ Y, Y = toZ (ixs zs.length t) := ⟨_, rfl⟩
            have hJ := fun w h => hRI t Y w hY h (by omega)
            have hbf : bef k t = (decide (X.length < Y.length) || decide (X.length = Y.length) && earl X Y) := by
              rw [HRB.out k t hlt (by omega), rbf, HX.out, hY, toZ_len, toZ_len]
            have E : Hid (fst p (k + 1) = if (decide (X.length < Y.length) || decide (X.length = Y.length) && earl X Y) then some k else some t) := Lib.hid (by rw [hst.out]; unfold fstep; rw [HPK.out, ← hbf])
            have hXl : X.length ≤ 100 := by rw [HX.out, toZ_len]; exact Nat.le_trans (ixs_len _ _) (by omega)
            have hea := fun v v' w a b => earl_any v v' X Y w a b (by omega)
            have gt : decide ((t : Int) < 0) = false := by simp
            have ot : orM (some t) = (t : Int) := rfl
            clear hbf hY
            by_cases c3 : X.length < Y.length
            · have g3 : decide ((X.length : Int) < (Y.length : Int)) = true := by simp [c3]
              have E : Hid (fst p (k + 1) = some k) := Lib.hid (by rw [E.out]; simp [c3])
              go_wp2_with (first
                | (go_at_call 17; (with_reducible refine (hI _ HR1.out).mono ?_); rintro e1 w1 ⟨q1, cc1, rfl, hr1, hb1⟩; have HR2 := Lib.hid (HR1.out.on hb1))
                | (go_at_call 48; (with_reducible refine (hS _ HR2.out).mono ?_); rintro e2 w2 ⟨rfl, hw⟩; subst w2)
                | (go_at_call 17; (with_reducible refine (hJ _ HR2.out).mono ?_); rintro e3 w3 ⟨q3, cc3, rfl, hr3, hb3⟩))
              exact ⟨⟨k + 1, some k, rfl, hlt, rfl, E, belows (belows hB hb1) hb3⟩, by simp [intOf]; omega⟩
            · have g3 : decide ((X.length : Int) < (Y.length : Int)) = false := by simp; omega
              by_cases c4 : X.length = Y.length
              · have g4 : ((X.length : Int) == (Y.length : Int)) = true := by simp; omega
                have E : Hid (fst p (k + 1) = if earl X Y then some k else some t) := Lib.hid (by rw [E.out]; simp [c4])
                have HC := Lib.hid c4
                clear c4
                cases he : earl X Y
                · have E : Hid (fst p (k + 1) = some t) := Lib.hid (by rw [E.out, he]; rfl)
                  rw [he] at hea
                  clear he
                  go_wp2_with (first
                    | (go_at_call 17; (with_reducible refine (hI _ HR1.out).mono ?_); rintro e1 w1 ⟨q1, cc1, rfl, hr1, hb1⟩; have HR2 := Lib.hid (HR1.out.on hb1))
                    | (go_at_call 48; (with_reducible refine (hS _ HR2.out).mono ?_); rintro e2 w2 ⟨rfl, hw⟩; subst w2)
                    | (go_at_call 17; (with_reducible refine (hJ _ HR2.out).mono ?_); rintro e3 w3 ⟨q3, cc3, rfl, hr3, hb3⟩; have HR3 := Lib.hid (HR2.out.on hb3))
                    | (go_at_call 17; (with_reducible refine (hJ _ HR3.out).mono ?_); rintro e4 w4 ⟨q4, cc4, rfl, hr4, hb4⟩; have HR4 := Lib.hid (HR3.out.on hb4))
                    | (go_at_call 17; (with_reducible refine (hJ _ HR4.out).mono ?_); rintro e5 w5 ⟨q5, cc5, rfl, hr5, hb5⟩)
                    | (go_at_call 51; (with_reducible refine (hea _ _ _ (((hr1.on hb3).on hb4).on hb5) hr5).mono ?_); rintro e6 w6 ⟨rfl, n6, rfl⟩))
                  exact ⟨⟨k + 1, some t, rfl, hlt, rfl, E, below_drewN (belows (belows (belows (belows hB hb1) hb3) hb4) hb5) _⟩, by simp [intOf]; omega⟩
                · have E : Hid (fst p (k + 1) = some k) := Lib.hid (by rw [E.out, he]; rfl)
                  rw [he] at hea
                  clear he
                  go_wp2_with (first
                    | (go_at_call 17; (with_reducible refine (hI _ HR1.out).mono ?_); rintro e1 w1 ⟨q1, cc1, rfl, hr1, hb1⟩; have HR2 := Lib.hid (HR1.out.on hb1))
                    | (go_at_call 48; (with_reducible refine (hS _ HR2.out).mono ?_); rintro e2 w2 ⟨rfl, hw⟩; subst w2)
                    | (go_at_call 17; (with_reducible refine (hJ _ HR2.out).mono ?_); rintro e3 w3 ⟨q3, cc3, rfl, hr3, hb3⟩; have HR3 := Lib.hid (HR2.out.on hb3))
                    | (go_at_call 17; (with_reducible refine (hJ _ HR3.out).mono ?_); rintro e4 w4 ⟨q4, cc4, rfl, hr4, hb4⟩; have HR4 := Lib.hid (HR3.out.on hb4))
                    | (go_at_call 17; (with_reducible refine (hJ _ HR4.out).mono ?_); rintro e5 w5 ⟨q5, cc5, rfl, hr5, hb5⟩)
                    | (go_at_call 51; (with_reducible refine (hea _ _ _ (((hr1.on hb3).on hb4).on hb5) hr5).mono ?_); rintro e6 w6 ⟨rfl, n6, rfl⟩))
                  exact ⟨⟨k + 1, some k, rfl, hlt, rfl, E, below_drewN (belows (belows (belows (belows hB hb1) hb3) hb4) hb5) _⟩, by simp [intOf]; omega⟩
              · have g4 : ((X.length : Int) == (Y.length : Int)) = false := by simp; omega
                have E : Hid (fst p (k + 1) = some t) := Lib.hid (by rw [E.out]; simp [c3, c4])
                clear c4
                go_wp2_with (first
                  | (go_at_call 17; (with_reducible refine (hI _ HR1.out).mono ?_); rintro e1 w1 ⟨q1, cc1, rfl, hr1, hb1⟩; have HR2 := Lib.hid (HR1.out.on hb1))
                  | (go_at_call 48; (with_reducible refine (hS _ HR2.out).mono ?_); rintro e2 w2 ⟨rfl, hw⟩; subst w2)
                  | (go_at_call 17; (with_reducible refine (hJ _ HR2.out).mono ?_); rintro e3 w3 ⟨q3, cc3, rfl, hr3, hb3⟩; have HR3 := Lib.hid (HR2.out.on hb3))
                  | (go_at_call 17; (with_reducible refine (hJ _ HR3.out).mono ?_); rintro e4 w4 ⟨q4, cc4, rfl, hr4, hb4⟩))
                exact ⟨⟨k + 1, some t, rfl, hlt, rfl, E, belows (belows (belows hB hb1) hb3) hb4⟩, by simp [intOf]; omega⟩
        · have g2 : (S != sum) = true := by simp [c2]
          have E : Hid (fst p (k + 1) = o) := Lib.hid (by rw [hst.out]; unfold fstep; rw [hpk, show (S == sum) = false from by simp [c2]])
          clear hpk c2
          go_wp2_with (first
            | (go_at_call 17; (with_reducible refine (hI _ HR1.out).mono ?_); rintro e1 w1 ⟨q1, cc1, rfl, hr1, hb1⟩; have HR2 := Lib.hid (HR1.out.on hb1))
            | (go_at_call 48; (with_reducible refine (hS _ HR2.out).mono ?_); rintro e2 w2 ⟨rfl, hw⟩; subst w2))
          exact ⟨⟨k + 1, o, rfl, hlt, rfl, E, belows hB hb1⟩, by simp [intOf]; omega⟩
    · have g : decide ((k : Int) < (N : Int)) = false := by simp; omega
      have e : k = N := by omega
      have HE := Lib.hid e
      clear e
      go_wp2
      go_ret
      exact ⟨by rw [← HE.out, hF.out]; rfl, hB⟩
end Go.Proofs.YtepcokgpepcccaaDoor
