/- DigraphPaths: the walk. -/
import Derived.Test.YteofbbakegcohaaPm
namespace Go.Proofs.Yteofbbakegcohaa
open Go.ChangeShapes Go.WideShapes Go.ChangeAt Go.RowKit
set_option linter.unusedVariables false
set_option linter.unusedSimpArgs false

theorem u8_of_wf {n : Int} (h : (Lit.int .u8 n).wf = true) : 0 ≤ n ∧ n ≤ 255 := by
  simp [Lit.wf, IntKind.min, IntKind.max, IntKind.bits, IntKind.signed] at h
  omega
theorem u16_of_wf {n : Int} (h : (Lit.int .u16 n).wf = true) : 0 ≤ n ∧ n ≤ 65535 := by
  simp [Lit.wf, IntKind.min, IntKind.max, IntKind.bits, IntKind.signed] at h
  omega
theorem lgA_len (l : List (Nat × Nat)) (n : Nat) (ws : List Int) : (lgA l n ws).2.length ≤ n + 1 := by
  rw [lgA_2]
  split
  · simp
  · exact chn_len _ _ _
theorem lgA_bd {l : List (Nat × Nat)} {n : Nat} {ws : List Int} (h2 : ws.any (outN 1073741825) = false) (hn : n ≤ 60) : 0 ≤ (lgA l n ws).1 ∧ (lgA l n ws).1 ≤ 1073741824 * 61 := by
  rw [lgA_1]
  split
  · omega
  · have := lg_bd (adj l) (wtf ws) (wt_bd h2) n (amx (lgS (adj l) (wtf ws) n) n)
    unfold lgS at *
    omega
theorem cast2_snoc (k : List (Nat × Nat)) (a b : Nat) : cast2 k ++ [((a : Int), (b : Int))] = cast2 (k ++ [(a, b)]) := by simp [cast2]
theorem i64_cast (k : List (Nat × Nat)) (n : Nat) (hn : n ≤ 60) (h : ∀ x ∈ k, x.1 < n ∧ x.2 < n) : ∀ x ∈ cast2 k, I64 x.1 ∧ I64 x.2 := by
  intro x hx
  unfold cast2 at hx
  obtain ⟨y, hy, rfl⟩ := List.mem_map.1 hx
  have := h y hy
  unfold I64
  dsimp only
  omega
theorem paths_good (p : Option Addr) (k : List (Nat × Nat)) (cap N : Nat) (q : Option Addr) (os : List Int) (c : Nat) (q2 : Option Addr) (path : List Int) (c2 : Nat) (u v m : Int) (w : World) (hG : Gr w p N k) (hO : Rdz w (.slice q os.length c) os) (hR : Rdz w (.slice q2 path.length c2) path)
    (hlg : lrg N (cast2 k).length = false) (ho : os.length ≤ 100) (hk : path.length ≤ 20) (hu : 0 ≤ u ∧ u ≤ 255) (hv : 0 ≤ v ∧ v ≤ 255) (hm : 0 ≤ m ∧ m ≤ 65535) (he : lgE k N os = 0) :
    Calls Try.prog 5 #[.int .i64 N, .slice p (cast2 k).length cap, .slice q os.length c, .slice q2 path.length c2, .int .u8 u, .int .u8 v, .int .u16 m] w fun e w' => e = .returned (.bool true) ∧ Below w.heap.size w w' := by
  obtain ⟨e1, e2, E, ho2⟩ := lgE_ok he
  obtain ⟨hS, hk1000, hN60, hx⟩ := hG
  obtain ⟨t1, t2, t3⟩ := lgA_pth hx os he
  have hlen := lgA_len k N os
  have hSb := lgA_bd (l := k) e2 hN60
  have hgr : ∀ W, Sl W p (cast2 k) → Gr W p N k := fun W a => ⟨a, hk1000, hN60, hx⟩
  have hwb : ∀ x ∈ os, 0 ≤ x ∧ x ≤ 1073741824 := fun x hx => by
    have := List.any_eq_false.1 e2 _ hx
    simp [outN, wi] at this
    omega
  have hown : wgv N os (cast2 k) (toZ (lgA k N os).2) = .tuple #[.int .i64 (lgA k N os).1, .bool true] := by rw [wgv_own N os k _ e1 t1, t2]
  have hg := wgv_given N os k path hx he
  have hPl : (toZ (lgA k N os).2).length ≤ 1000 := by rw [toZ_len]; omega
  have hpz : (toZ (lgA k N os).2).length = 0 ↔ (N : Int) = 0 := by
    rw [toZ_len]
    constructor
    · intro h; have := t3 (List.length_eq_zero_iff.1 h); omega
    · intro h
      have h' : N = 0 := by omega
      rw [lgA_2, if_pos h']; rfl
  have h20 : ∀ W, Sl W p (cast2 k) → Rdz W (.slice q os.length c) os → Calls Try.prog 20 #[.int .i64 N, .slice p (cast2 k).length cap, .slice q os.length c] W fun e w' => ∃ vp, e = .returned (.tuple #[.int .i64 (lgA k N os).1, vp, .int .i64 0]) ∧ Rdz w' vp (toZ (lgA k N os).2) ∧ Below W.heap.size W w' := fun W a b => by
    rw [cast2_len]
    exact (lon_ok p N k cap W _ os (hgr W a) b (by omega) he).mono fun e w' ⟨vp, h1, h2, h3⟩ => ⟨vp, h1, h2.rd.z, h3⟩
  by_cases hN : N = 0
  · exact paths_zero p (cast2 k) cap N q os c q2 path c2 u v m w hS hO (Lib.hid hR) hlg ho hk (by omega) (by omega) (lgA k N os).1 (toZ (lgA k N os).2) hPl hpz hwb hown hg h20
  · have hll : (cast2 k).length ≤ 60 := by
      rw [cast2_len]
      unfold lrg at hlg
      rw [cast2_len] at hlg
      simp only [Bool.or_eq_false_iff, Bool.and_eq_false_iff, decide_eq_false_iff_not] at hlg
      omega
    have hn20 : (N : Int) ≤ 20 := by
      unfold lrg at hlg
      simp only [Bool.or_eq_false_iff, Bool.and_eq_false_iff, decide_eq_false_iff_not] at hlg
      omega
    obtain ⟨wr, hru⟩ : ∃ wr : Nat, u.tmod N = (wr : Int) := ⟨(u.tmod N).toNat, by have := Int.tmod_nonneg (N : Int) hu.1; omega⟩
    obtain ⟨wv, hrv⟩ : ∃ wv : Nat, v.tmod N = (wv : Int) := ⟨(v.tmod N).toNat, by have := Int.tmod_nonneg (N : Int) hv.1; omega⟩
    have b1 : (wr : Int) < N := by rw [← hru, Int.tmod_eq_emod_of_nonneg hu.1]; exact Int.emod_lt_of_pos _ (by omega)
    have b2 : (wv : Int) < N := by rw [← hrv, Int.tmod_eq_emod_of_nonneg hv.1]; exact Int.emod_lt_of_pos _ (by omega)
    have hwl : wr < os.length := by omega
    have hyb : 0 ≤ os.getD wr 0 ∧ os.getD wr 0 ≤ 1073741824 := wt_bd e2 wr
    have hx' : ∀ x ∈ k ++ [(wr, wv)], x.1 < N ∧ x.2 < N := fun x hm => by
      rcases List.mem_append.1 hm with h | h
      · exact hx x h
      · rw [List.mem_singleton.1 h]; dsimp only; omega
    have hkk : (k ++ [(wr, wv)]).length ≤ 61 := by rw [cast2_len] at hll; simp; omega
    refine paths_main p (cast2 k) cap N q os c q2 path c2 u v m w hS hO (Lib.hid hR) hlg ho hk (by omega) hn20 hu hv hm hll wr (wv : Int) (os.getD wr 0) hru hrv hwl (Lib.hid rfl) hyb (by omega) (lgA k N os).1 (by omega) (toZ (lgA k N os).2) hPl hpz hwb hown hg h20 (fun B v' W a b => ?_) (fun B v' W a b => ?_)
    · rw [cast2_snoc] at a
      obtain ⟨p', c', rfl, hs'⟩ := a.sl (by rw [cast2_len]; omega) (i64_cast _ N hN60 hx')
      have hG' : Gr W p' N (k ++ [(wr, wv)]) := ⟨hs', by omega, hN60, hx'⟩
      rw [cast2_len]
      by_cases he' : lgE (k ++ [(wr, wv)]) N os = 0
      · exact (lon_ok p' N _ c' W _ os hG' b (by omega) he').mono fun e w' ⟨vp, h1, h2, h3⟩ => ⟨_, vp, 0, h1, .inl ⟨rfl, further_ge hx hx' (fun x h => List.mem_append_left _ h) he he'⟩, h3⟩
      · have e23 : lgE (k ++ [(wr, wv)]) N os = 23 := by
          unfold lgE at he' ⊢
          rw [if_neg (by omega), if_neg (by rw [e2]; decide)] at he' ⊢
          split
          · rfl
          · rename_i h; rw [if_neg h] at he'; exact absurd rfl he'
        have k9 := lon_err p' N _ c' W _ os hG' b (by omega) he'
        rw [e23] at k9
        exact k9.mono fun e w' ⟨h1, h3⟩ => ⟨_, _, 23, h1, .inr (.inr rfl), h3⟩
    · have hz := a.rdz
      rw [cast2_len]
      have hlen' : (os.set wr (os.getD wr 0 + m)).length = N := by rw [List.length_set, e1]
      have hwz : wtf (os.set wr (os.getD wr 0 + m)) wr = wtf os wr + m := by
        unfold wtf
        rw [List.getD_eq_getElem?_getD, List.getElem?_set_self hwl]; rfl
      have hwo : ∀ x, x ≠ wr → wtf (os.set wr (os.getD wr 0 + m)) x = wtf os x := fun x hx => by
        unfold wtf
        rw [List.getD_eq_getElem?_getD, List.getElem?_set_ne (by omega), List.getD_eq_getElem?_getD]
      by_cases he' : lgE k N (os.set wr (os.getD wr 0 + m)) = 0
      · have hv9 := heavier hx hm.1 hwz hwo he hN
        exact (lon_ok p N k cap W _ _ (hgr W b) hz (by omega) he').mono fun e w' ⟨vp, h1, h2, h3⟩ => ⟨_, vp, 0, h1, .inr ⟨rfl, hv9.1, hv9.2⟩, h3⟩
      · have e2' : lgE k N (os.set wr (os.getD wr 0 + m)) = 2 := by
          unfold lgE at he' ⊢
          rw [if_neg (by omega)] at he' ⊢
          split
          · rfl
          · rename_i h
            rw [if_neg h, if_neg (by rw [ho2]; simp)] at he'
            exact absurd rfl he'
        have k9 := lon_err p N k cap W _ _ (hgr W b) hz (by omega) he'
        rw [e2'] at k9
        exact k9.mono fun e w' ⟨h1, h3⟩ => ⟨_, _, 2, h1, .inl rfl, h3⟩
theorem paths_walk (n : Int) (p : Option Addr) (l : List (Int × Int)) (cap : Nat) (q : Option Addr) (os : List Int) (c : Nat) (q2 : Option Addr) (path : List Int) (c2 : Nat) (u v m : Int) (w : World) (hS : Sl w p l) (hO : Rdz w (.slice q os.length c) os) (hR : Rdz w (.slice q2 path.length c2) path) (hu : 0 ≤ u ∧ u ≤ 255) (hv : 0 ≤ v ∧ v ≤ 255) (hm : 0 ≤ m ∧ m ≤ 65535) :
    Calls Try.prog 5 #[.int .i64 n, .slice p l.length cap, .slice q os.length c, .slice q2 path.length c2, .int .u8 u, .int .u8 v, .int .u16 m] w fun e w' => e = .returned (.bool true) ∧ Below w.heap.size w w' := by
  cases hlg : lrg n l.length
  · by_cases ho : os.length ≤ 100
    · by_cases hk : path.length ≤ 20
      · cases hvg : vG n l
        · exact paths_err p l cap n q os c q2 path.length c2 u v m w hS hO hlg ho hk 1 (by decide) (fun W a _ => lon_no p n l cap W _ a hvg)
        · obtain ⟨N, k, rfl, rfl, hkl, hG⟩ := gr_of_valid hS hvg
          by_cases he : lgE k N os = 0
          · exact paths_good p k cap N q os c q2 path c2 u v m w hG hO hR hlg ho hk hu hv hm he
          · exact paths_err p (cast2 k) cap N q os c q2 path.length c2 u v m w hS hO hlg ho hk _ he (fun W a b => by
              rw [cast2_len]
              exact lon_err p N k cap W _ os ⟨a, hG.2⟩ b (by omega) he)
      · exact paths_early p l cap n q os c q2 path.length c2 u v m w hS (.inr ⟨hlg, .inr ⟨ho, by omega⟩⟩)
    · exact paths_early p l cap n q os c q2 path.length c2 u v m w hS (.inr ⟨hlg, .inl (by omega)⟩)
  · exact paths_early p l cap n q os c q2 path.length c2 u v m w hS (.inl hlg)
end Go.Proofs.Yteofbbakegcohaa
