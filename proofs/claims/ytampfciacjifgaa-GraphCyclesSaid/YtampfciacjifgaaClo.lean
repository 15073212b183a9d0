/- The closure that walks along the forest. -/
import Derived.Test.YtampfciacjifgaaTwo
namespace Go.Proofs.Ytampfciacjifgaa
open Go.ChangeShapes Go.WideShapes Go.ChangeAt Go.RowKit
set_option linter.unusedVariables false
set_option linter.unusedSimpArgs false

def nx (l : List (Nat × Nat)) (i u : Nat) : Nat := match l[i]? with
  | some x => oth x u
  | none => u
/-- The edges up from both nodes, until they meet. -/
def wk (l : List (Nat × Nat)) (A : Nat → List Nat) (f : Nat → Int) : Nat → Nat → Nat → List Nat × List Nat
  | 0, _, _ => ([], [])
  | k + 1, u, v => if u = v then ([], []) else if f v ≤ f u then
      (match (A u).find? (nr l f u) with
      | some i => (i :: (wk l A f k (nx l i u) v).1, (wk l A f k (nx l i u) v).2)
      | none => ([], []))
    else
      (match (A v).find? (nr l f v) with
      | some i => ((wk l A f k u (nx l i v)).1, i :: (wk l A f k u (nx l i v)).2)
      | none => ([], []))
theorem Fo.near {l : List (Nat × Nat)} {n : Nat} {xs : List Nat} {f : Nat → Int} {ro : Nat → Nat} (hl : ∀ x ∈ l, x.1 < n ∧ x.2 < n ∧ x.1 ≠ x.2) (h : Fo (nbr l n (adj l xs)) n n f ro) {u : Nat} (hu : u < n) (h0 : f u ≠ 0) :
    ∃ k0 i0 x, fst? (nr l f u) (adj l xs u) = some k0 ∧ (adj l xs u)[k0]? = some i0 ∧ i0 ∈ adj l xs u ∧ (adj l xs u).find? (nr l f u) = some i0 ∧ l[i0]? = some x ∧ oth x u < n ∧ f u = f (oth x u) + 1 ∧ 0 ≤ f (oth x u) ∧ ro (oth x u) = ro u := by
  have hup := h.all u hu
  obtain ⟨w, hw, hn, e⟩ := h.par u hup h0
  obtain ⟨-, i, hi, x, hx, rfl⟩ := nbr_symm hl hn
  have hnr : nr l f u i = true := by unfold nr; rw [hx]; simp; omega
  obtain ⟨k0, hk⟩ := fst_some ⟨i, hi, hnr⟩
  obtain ⟨kl, hg, hf⟩ := fst_get hk
  have him : (adj l xs u)[k0] ∈ adj l xs u := List.getElem_mem kl
  obtain ⟨-, y, hy, -⟩ := adj_mem him
  have nb : nbr l n (adj l xs) u (oth y u) := ⟨hu, _, him, y, hy, rfl⟩
  have c1 := h.cl u hup _ nb
  have c2 := h.cl _ c1.1 u (nbr_symm hl nb)
  unfold nr at hg
  rw [hy] at hg
  simp at hg
  exact ⟨k0, _, y, hk, List.getElem?_eq_getElem kl, him, hf, hy, (nbr_symm hl nb).1, by omega, c1.1, h.rn u hup _ nb⟩
set_option maxRecDepth 100000 in
set_option maxHeartbeats 8000000 in
theorem clo_any (p : Option Addr) (l : List (Nat × Nat)) (n : Nat) (xs : List Nat) (A : Nat → List Nat) (hA : A = adj l xs) (hxl : xs.length ≤ 4000) (f : Nat → Int) (ro : Nat → Nat) (D G cap Rb Eb u v : Nat) (w : World) (hG : Gra w p n l A D (.slice (some ⟨G, 0, none⟩) n n)) (hR : Row w D n f)
    (hF : Fo (nbr l n A) n n f ro) (hRb : Has w Rb 76 #[.slice p l.length cap, .slice (some ⟨G, 0, none⟩) n n, .slice (some ⟨D, 0, none⟩) n n]) (hEb : Has w Eb 22 #[.slice p l.length cap]) (hu : u < n) (hv : v < n) (hro : ro u = ro v) :
    Calls Try.prog 66 #[.int .i64 u, .int .i64 v, .pointer (some ⟨Rb, 0, none⟩), .pointer (some ⟨Eb, 0, none⟩)] w fun e w' => ∃ z, e = .returned z ∧ Own w.heap.size w' z ((wk l A f (f u + f v).toNat u v).1 ++ (wk l A f (f u + f v).toNat u v).2.reverse) ∧ Below w.heap.size w w' := by
  have hn := hG.gr.2.2.1
  have hm := hG.gr.2.1
  have hl : ∀ x ∈ l, x.1 < n ∧ x.2 < n ∧ x.1 ≠ x.2 := hG.gr.2.2.2
  have hlen : ∀ v, (A v).length ≤ 4000 := fun v => by rw [hA]; exact Nat.le_trans (adj_len _ _ _) hxl
  have hmem : ∀ v, v < n → ∀ i ∈ A v, ∃ x, l[i]? = some x ∧ (x.1 = v ∨ x.2 = v) := fun v _ i hi => by rw [hA] at hi; exact (adj_mem hi).2
  have near : ∀ u, u < n → f u ≠ 0 → ∃ k0 i0 x, fst? (nr l f u) (A u) = some k0 ∧ (A u)[k0]? = some i0 ∧ i0 ∈ A u ∧ (A u).find? (nr l f u) = some i0 ∧ l[i0]? = some x ∧ oth x u < n ∧ f u = f (oth x u) + 1 ∧ 0 ≤ f (oth x u) ∧ ro (oth x u) = ro u := fun u h1 h2 => by
    subst hA; exact Fo.near hl hF h1 h2
  have hDw : D < w.heap.size := Has.size_ hR
  have hx := hF.x
  have hp0 := hF.all
  have hrz := hF.rz
  obtain ⟨j0, hj, hz0, hz1, hz2'⟩ := info_parts info3
  obtain ⟨U, hU⟩ : ∃ U, U = u := ⟨_, rfl⟩
  obtain ⟨V, hV⟩ : ∃ V, V = v := ⟨_, rfl⟩
  obtain ⟨T1, hT1⟩ : ∃ T, T = (wk l A f (f u + f v).toNat u v).1 := ⟨_, rfl⟩
  obtain ⟨T2, hT2⟩ : ∃ T, T = (wk l A f (f u + f v).toNat u v).2 := ⟨_, rfl⟩
  rw [← hT1, ← hT2]
  obtain ⟨N, hN⟩ : ∃ N, N = (f u + f v).toNat := ⟨_, rfl⟩
  have hNl : N ≤ 2000 := by have := hx u; have := hx v; omega
  have HF := Lib.hid hF
  clear hF hA
  go_enter Try.func66, Try.ntmps66
  go_wp2
  go_loopg [0, 1, 7, 8] N (fun kk v0 v1 v7 v8 wr => ∃ (u v : Nat) (th bk : List Nat), v0 = .int .i64 u ∧ v1 = .int .i64 v ∧ u < n ∧ v < n ∧ Hid (ro u = ro v) ∧ Hid ((f u + f v).toNat ≤ kk) ∧ Hid (th.length + bk.length + (f u + f v).toNat ≤ N) ∧ Hid (Tb w.heap.size wr v7 th v8 bk) ∧ Hid (th ++ (wk l A f (f u + f v).toNat u v).1 = T1) ∧ Hid (bk ++ (wk l A f (f u + f v).toNat u v).2 = T2) ∧ Below w.heap.size w wr)
  case atStart => exact ⟨u, v, [], [], rfl, rfl, hu, hv, Lib.hid hro, Lib.hid (by omega), Lib.hid (by simp; omega), Lib.hid ⟨World.ownsRow_nil _ _ _ _, World.ownsRow_nil _ _ _ _, fun b h => by cases h⟩, Lib.hid (by simp [hT1]), Lib.hid (by simp [hT2]), Below.refl _ _⟩
  case round =>
    clear hu hv hro hT1 hT2 hU hV hN u v U V
    obtain ⟨u, v, th, bk, rfl, rfl, hu, hv, hro, hkk, hL, hT, hE1, hE2, hB⟩ := hrel
    by_cases huv : u = v
    · have t1 : ((u : Int) != (v : Int)) = false := by simp [huv]
      have ez : wk l A f (f u + f v).toNat u v = ([], []) := by
        cases (f u + f v).toNat with
        | zero => rfl
        | succ k => rw [wk, if_pos huv]
      have f1 : th = T1 := by have := hE1.out; rw [ez] at this; simpa using this
      have f2 : bk = T2 := by have := hE2.out; rw [ez] at this; simpa using this
      have F1 := Lib.hid f1
      have F2 := Lib.hid f2
      have HUV := Lib.hid huv
      have hlen2 : th.length + bk.length ≤ 2000 := by have := hL.out; omega
      clear huv ez f1 f2 hE1 hE2 hL
      go_wp2_with (first
        | (go_at_call 67; (with_reducible refine (reverse_rd w.heap.size _ bk _ hT.out.r (by omega)).mono ?_); rintro e w5 ⟨rfl, rd, B5, K5⟩; have O7 := Lib.hid (show Own w.heap.size w5 u7 th from (by
            have hT := hT.out
            obtain ⟨hl, h0 | ⟨g', cap', cur, e, hB', hc, r⟩⟩ := hT.l
            · exact ⟨hl, .inl h0⟩
            · exact ⟨hl, .inr ⟨g', cap', cur, e, hB', by rw [K5 g' (hT.a g' (by rw [e]; rfl))]; exact hc, r⟩⟩)); have RD := Lib.hid rd; clear rd K5)
        | (at_builtin; refine wpList_append_rd rfl _ _ rfl rfl rfl O7.out RD.out (Nat.le_trans hB.size B5.size) (by simp; omega) ?_))
      intro v' w6 O6 g6 _
      have B6 : Below w.heap.size w w6 := (hB.trans B5).grown g6 (Nat.le_trans hB.size B5.size) (fun j hj => (World.ownsRow.lt O7.out _ hj).1)
      have HO6 := Lib.hid O6
      clear O6 g6
      go_wp2
      go_ret
      exact ⟨_, rfl, by rw [← F1.out, ← F2.out]; exact HO6.out, B6⟩
    · have t1 : ((u : Int) != (v : Int)) = true := by simp; omega
      have hu0 := hp0 u hu
      have hv0 := hp0 v hv
      have hz : ¬ (f u = 0 ∧ f v = 0) := fun ⟨a, b⟩ => huv (by rw [← hrz u a, ← hrz v b]; exact hro.out)
      have gw := hG.on (hB.mono (Nat.le_of_lt hDw))
      have H6 := Has.on hRb hB
      have E6 := Has.on hEb hB
      have s0 := H6.read 0
      have s1 := H6.read 1
      have s2 := H6.read 2
      have e0 := E6.read 0
      have R6 := Has.on hR hB
      have cu := Row.read R6 hu
      have cv := Row.read R6 hv
      have q1 : (0 : Int) ≤ (u : Int) := by omega
      have q2 : (u : Int) < (n : Int) := by omega
      have q3 : (0 : Int) ≤ (v : Int) := by omega
      have q4 : (v : Int) < (n : Int) := by omega
      obtain ⟨du, hdu⟩ : ∃ d, d = f u := ⟨_, rfl⟩
      obtain ⟨dv, hdv⟩ : ∃ d, d = f v := ⟨_, rfl⟩
      rw [← hdu] at cu hu0 hz
      rw [← hdv] at cv hv0 hz
      have HDU := Lib.hid hdu
      have HDV := Lib.hid hdv
      clear hdu hdv
      by_cases hle : dv ≤ du
      · have t2 : decide (dv ≤ du) = true := by simp [hle]
        have hne : f u ≠ 0 := by rw [← HDU.out]; omega
        obtain ⟨k0, i0, x, hk, hi1, him, hfind, hx0, hon, hfe, hf0, hr2⟩ := near u hu hne
        have em : (f u + f v).toNat = (f (oth x u) + f v).toNat + 1 := by have := HDU.out; have := HDV.out; omega
        have eg : wk l A f (f u + f v).toNat u v = (i0 :: (wk l A f (f (oth x u) + f v).toNat (oth x u) v).1, (wk l A f (f (oth x u) + f v).toNat (oth x u) v).2) := by
          rw [em, wk, if_neg huv, if_pos (by rw [← HDU.out, ← HDV.out]; exact hle), hfind]
          simp only [nx, hx0]
        have hil : i0 < l.length := (List.getElem?_eq_some_iff.1 hx0).1
        have hxe : l[i0] = x := (List.getElem?_eq_some_iff.1 hx0).2
        have hNr := fun W (bW : Below w.heap.size w W) => nearer_any p l n A f u k0 D D G cap W (hG.on (bW.mono (Nat.le_of_lt hDw))) (Has.on hR bW) (hmem u hu) (hlen u) hu hk hi1
        obtain ⟨a0, rfl, -, -, l1, l2, ne⟩ := hG.gr.at hil
        rw [hxe] at l1 l2 ne
        obtain ⟨x1, x2⟩ := x
        simp only at l1 l2 ne
        have dd : ∀ W, Below w.heap.size w W → (W.cell? (a0.add (i0 * 2)) = some (.int .i64 (x1 : Nat)) ∧ W.cell? ⟨(a0.add (i0 * 2)).block, (a0.add (i0 * 2)).off + 1, none⟩ = some (.int .i64 (x2 : Nat))) ∧ W.cell? ⟨Eb, 0, none⟩ = some (.slice (some a0) l.length cap) := fun W bW => by
          obtain ⟨a1, e1, d0, d1, -⟩ := (hG.gr.on bW).at hil
          cases e1
          rw [hxe] at d0 d1
          exact ⟨⟨d0, d1⟩, (Has.on hEb bW).read 0⟩
        have hFa := fun W => far_any x1 x2 u W
        obtain ⟨z, hz2⟩ : ∃ z, z = oth (x1, x2) u := ⟨_, rfl⟩
        rw [← hz2] at hFa hfe hf0 hr2 hon eg em
        have HK2 : Hid ((f z + f v).toNat < gk) := Lib.hid (by have := hkk.out; omega)
        have hl3 := hL.out
        have HL2 : Hid ((th ++ [i0]).length + bk.length + (f z + f v).toNat ≤ N) := Lib.hid (by simp; omega)
        have HE1 : Hid (th ++ [i0] ++ (wk l A f (f z + f v).toNat z v).1 = T1) := Lib.hid (by have := hE1.out; rw [eg] at this; simpa using this)
        have HE2 : Hid (bk ++ (wk l A f (f z + f v).toNat z v).2 = T2) := Lib.hid (by have := hE2.out; rw [eg] at this; simpa using this)
        have HRo : Hid (ro z = ro v) := Lib.hid (by rw [hr2]; exact hro.out)
        have dl : th.length ≤ 2000 := by omega
        have q5 : (0 : Int) ≤ (i0 : Int) := by omega
        have q6 : (i0 : Int) < (l.length : Int) := by omega
        clear hE1 hE2 hL hl3 hkk hk hi1 him hfind hx0 hfe hf0 hr2 em eg hz2 hne hro H6 E6 R6
        go_wp2_with fail
        go_quiet (fail)
        have B4 := below_drewN hB nq
        have T4 := hT.out.on (below_drewN (Below.refl _ _) nq)
        have HT4 := Lib.hid T4
        clear T4
        generalize wr.drewN nq = w4 at *
        clear s0 s1 s2 e0
        have s0 := (Has.on hRb B4).read 0
        have s1 := (Has.on hRb B4).read 1
        have s2 := (Has.on hRb B4).read 2
        have e0 := (Has.on hEb B4).read 0
        go_wp2_with (first
          | (go_at_call 59; (with_reducible refine (hNr _ B4).mono ?_); rintro e w5 ⟨rfl, hb5⟩; have B5 := belows B4 hb5; have T5 := Lib.hid (HT4.out.on hb5); clear hb5)
          | (at_builtin; refine wpList_append_own_at _ rfl _ _ 29 rfl w.heap.size 3 j0 _ 1 8 Try.underlying29 hj hz0 hz1 hz2' rfl (by decide) _ th.length (ints th) rfl (own_on T5.out.l (al1 _ _)) ⟨_, 0, none⟩ 1 1 [.int .i64 (i0 : Int)] rfl rfl (cell_one_new _ _ _) (by simp [Value.oneCell']) (by unfold maxLen; omega) (by omega) (Nat.le_trans B5.size (al1 _ _).size) ?_))
        intro v' w6 o1 o2 o3 o4
        have O6 : Own w.heap.size w6 v' (th ++ [i0]) := by
          unfold Own
          rw [ints_app, List.length_append]
          exact o1
        have T6 := (T5.out.on (al1 _ (.cells #[.int .i64 (i0 : Int)] 3))).left O6 o2 (by simpa using o4)
        have B6 : Below w.heap.size w w6 := (B5.alloc B5.size _).grown o2 (Nat.le_trans B5.size (al1 _ _).size) (fun j hj => (World.ownsRow.lt T5.out.l _ hj).1)
        have HT6 := Lib.hid T6
        obtain ⟨⟨d0, d1⟩, d2⟩ := dd w6 B6
        clear o1 o2 o3 o4 O6 T6 s0 s1 s2 e0
        go_wp2_with (go_at_call 55; (with_reducible refine (hFa _).mono ?_); rintro e w7 ⟨rfl, hb7⟩)
        go_roundg (f z + f v).toNat
        case measure => exact HK2.out
        case rel => exact ⟨z, v, th ++ [i0], bk, rfl, rfl, hon, hv, HRo, Lib.hid (Nat.le_refl _), HL2, Lib.hid (HT6.out.on hb7), HE1, HE2, belows B6 hb7⟩
      · have t2 : decide (dv ≤ du) = false := by simp; omega
        have hne : f v ≠ 0 := by rw [← HDV.out]; omega
        obtain ⟨k0, i0, x, hk, hi1, him, hfind, hx0, hon, hfe, hf0, hr2⟩ := near v hv hne
        have em : (f u + f v).toNat = (f u + f (oth x v)).toNat + 1 := by have := HDU.out; have := HDV.out; omega
        have eg : wk l A f (f u + f v).toNat u v = ((wk l A f (f u + f (oth x v)).toNat u (oth x v)).1, i0 :: (wk l A f (f u + f (oth x v)).toNat u (oth x v)).2) := by
          rw [em, wk, if_neg huv, if_neg (by rw [← HDU.out, ← HDV.out]; exact hle), hfind]
          simp only [nx, hx0]
        have hil : i0 < l.length := (List.getElem?_eq_some_iff.1 hx0).1
        have hxe : l[i0] = x := (List.getElem?_eq_some_iff.1 hx0).2
        have hNr := fun W (bW : Below w.heap.size w W) => nearer_any p l n A f v k0 D D G cap W (hG.on (bW.mono (Nat.le_of_lt hDw))) (Has.on hR bW) (hmem v hv) (hlen v) hv hk hi1
        obtain ⟨a0, rfl, -, -, l1, l2, ne⟩ := hG.gr.at hil
        rw [hxe] at l1 l2 ne
        obtain ⟨x1, x2⟩ := x
        simp only at l1 l2 ne
        have dd : ∀ W, Below w.heap.size w W → (W.cell? (a0.add (i0 * 2)) = some (.int .i64 (x1 : Nat)) ∧ W.cell? ⟨(a0.add (i0 * 2)).block, (a0.add (i0 * 2)).off + 1, none⟩ = some (.int .i64 (x2 : Nat))) ∧ W.cell? ⟨Eb, 0, none⟩ = some (.slice (some a0) l.length cap) := fun W bW => by
          obtain ⟨a1, e1, d0, d1, -⟩ := (hG.gr.on bW).at hil
          cases e1
          rw [hxe] at d0 d1
          exact ⟨⟨d0, d1⟩, (Has.on hEb bW).read 0⟩
        have hFa := fun W => far_any x1 x2 v W
        obtain ⟨z, hz2⟩ : ∃ z, z = oth (x1, x2) v := ⟨_, rfl⟩
        rw [← hz2] at hFa hfe hf0 hr2 hon eg em
        have HK2 : Hid ((f u + f z).toNat < gk) := Lib.hid (by have := hkk.out; omega)
        have hl3 := hL.out
        have HL2 : Hid (th.length + (bk ++ [i0]).length + (f u + f z).toNat ≤ N) := Lib.hid (by simp; omega)
        have HE1 : Hid (th ++ (wk l A f (f u + f z).toNat u z).1 = T1) := Lib.hid (by have := hE1.out; rw [eg] at this; simpa using this)
        have HE2 : Hid (bk ++ [i0] ++ (wk l A f (f u + f z).toNat u z).2 = T2) := Lib.hid (by have := hE2.out; rw [eg] at this; simpa using this)
        have HRo : Hid (ro u = ro z) := Lib.hid (by rw [hr2]; exact hro.out)
        have dl : bk.length ≤ 2000 := by omega
        have q5 : (0 : Int) ≤ (i0 : Int) := by omega
        have q6 : (i0 : Int) < (l.length : Int) := by omega
        clear hE1 hE2 hL hl3 hkk hk hi1 him hfind hx0 hfe hf0 hr2 em eg hz2 hne hro H6 E6 R6
        go_wp2_with fail
        go_quiet (fail)
        have B4 := below_drewN hB nq
        have T4 := hT.out.on (below_drewN (Below.refl _ _) nq)
        have HT4 := Lib.hid T4
        clear T4
        generalize wr.drewN nq = w4 at *
        clear s0 s1 s2 e0
        have s0 := (Has.on hRb B4).read 0
        have s1 := (Has.on hRb B4).read 1
        have s2 := (Has.on hRb B4).read 2
        have e0 := (Has.on hEb B4).read 0
        go_wp2_with (first
          | (go_at_call 59; (with_reducible refine (hNr _ B4).mono ?_); rintro e w5 ⟨rfl, hb5⟩; have B5 := belows B4 hb5; have T5 := Lib.hid (HT4.out.on hb5); clear hb5)
          | (at_builtin; refine wpList_append_own_at _ rfl _ _ 29 rfl w.heap.size 3 j0 _ 1 8 Try.underlying29 hj hz0 hz1 hz2' rfl (by decide) _ bk.length (ints bk) rfl (own_on T5.out.r (al1 _ _)) ⟨_, 0, none⟩ 1 1 [.int .i64 (i0 : Int)] rfl rfl (cell_one_new _ _ _) (by simp [Value.oneCell']) (by unfold maxLen; omega) (by omega) (Nat.le_trans B5.size (al1 _ _).size) ?_))
        intro v' w6 o1 o2 o3 o4
        have O6 : Own w.heap.size w6 v' (bk ++ [i0]) := by
          unfold Own
          rw [ints_app, List.length_append]
          exact o1
        have T6 := ((T5.out.on (al1 _ (.cells #[.int .i64 (i0 : Int)] 3))).symm.left O6 o2 (by simpa using o4)).symm
        have B6 : Below w.heap.size w w6 := (B5.alloc B5.size _).grown o2 (Nat.le_trans B5.size (al1 _ _).size) (fun j hj => (World.ownsRow.lt T5.out.r _ hj).1)
        have HT6 := Lib.hid T6
        obtain ⟨⟨d0, d1⟩, d2⟩ := dd w6 B6
        clear o1 o2 o3 o4 O6 T6 s0 s1 s2 e0
        go_wp2_with (go_at_call 55; (with_reducible refine (hFa _).mono ?_); rintro e w7 ⟨rfl, hb7⟩)
        go_roundg (f u + f z).toNat
        case measure => exact HK2.out
        case rel => exact ⟨u, z, th, bk ++ [i0], rfl, rfl, hu, hon, HRo, Lib.hid (Nat.le_refl _), HL2, Lib.hid (HT6.out.on hb7), HE1, HE2, belows B6 hb7⟩
end Go.Proofs.Ytampfciacjifgaa
