/- The reference's Way. -/
import Derived.Test.YtampfciacjifgaaFar2
import Derived.Deep.LoopGhost
namespace Go.Proofs.Ytampfciacjifgaa
open Go.ChangeShapes Go.WideShapes Go.ChangeAt Go.RowKit
set_option linter.unusedVariables false
set_option linter.unusedSimpArgs false

theorem fst_before {g : Nat → Bool} : ∀ {xs : List Nat} {k : Nat}, fst? g xs = some k → ∀ j (h : j < k) (hl : j < xs.length), g xs[j] = false
  | [], _, h, _, _, hl => absurd hl (Nat.not_lt_zero _)
  | x :: t, k, h, j, hj, hl => by
    unfold fst? at h
    cases hx : g x
    · rw [hx] at h
      simp at h
      obtain ⟨k1, h1, rfl⟩ := h
      rcases j with _ | j
      · simpa using hx
      · simpa using fst_before h1 j (by omega) (by simpa using hl)
    · rw [hx] at h
      simp at h
      omega
/-- The other end of an edge; -1 if it does not end at the node. -/
def ot (a b v : Nat) : Int := if a = v then (b : Int) else if b = v then (a : Int) else -1
theorem other_any (a b v : Nat) (w : World) :
    Calls Try.prog 70 #[.agg #[.int .i64 a, .int .i64 b], .int .i64 v] w fun e w' => e = .returned (.int .i64 (ot a b v)) ∧ Below w.heap.size w w' := by
  have C := Has.new_ w 46 #[.int .i64 a, .int .i64 b]
  have C0 := C.read 0
  have C1 := C.read 1
  by_cases h1 : a = v
  · have t1 : ((a : Int) == (v : Int)) = true := by simp [h1]
    have e : ot a b v = (b : Int) := if_pos h1
    rw [e]
    go_enter Try.func70, Try.ntmps70
    go_wp2
    go_ret
    exact ⟨rfl, al1 _ _⟩
  · have t1 : ((a : Int) == (v : Int)) = false := by simp; omega
    by_cases h2 : b = v
    · have t2 : ((b : Int) == (v : Int)) = true := by simp [h2]
      have e : ot a b v = (a : Int) := by unfold ot; rw [if_neg h1, if_pos h2]
      rw [e]
      clear h1
      go_enter Try.func70, Try.ntmps70
      go_wp2
      go_ret
      exact ⟨rfl, al1 _ _⟩
    · have t2 : ((b : Int) == (v : Int)) = false := by simp; omega
      have e : ot a b v = -1 := by unfold ot; rw [if_neg h1, if_neg h2]
      rw [e]
      clear h1 h2
      go_enter Try.func70, Try.ntmps70
      go_wp2
      go_ret
      exact ⟨rfl, al1 _ _⟩
theorem ot_in {a b v : Nat} (h : a = v ∨ b = v) : ot a b v = ((oth (a, b) v : Nat) : Int) := by
  unfold ot oth
  rcases h with h | h
  · rw [if_pos h, if_pos h]
  · by_cases e : a = v
    · rw [if_pos e, if_pos e]
    · rw [if_neg e, if_pos h, if_neg e]
theorem ot_out {a b v : Nat} (h : ¬ (a = v ∨ b = v)) : ot a b v = -1 := by
  unfold ot; rw [if_neg (fun e => h (.inl e)), if_neg (fun e => h (.inr e))]
/-- Whether edge i leads from v nearer. -/
def tq (l : List (Nat × Nat)) (g : Nat → Int) (v i : Nat) : Bool := inc l v i && nr l g v i
theorem tq_find (l : List (Nat × Nat)) (g : Nat → Int) (v : Nat) (xs : List Nat) : xs.find? (tq l g v) = (adj l xs v).find? (nr l g v) := by
  unfold adj tq
  rw [List.find?_filter]
  congr 1
  funext a
  simp
set_option maxRecDepth 100000 in
set_option maxHeartbeats 8000000 in
theorem way_any (p : Option Addr) (n : Nat) (l : List (Nat × Nat)) (cap : Nat) (u : Value) (xs : List Nat) (A0 S : Nat) (w : World) (hG : Gr w p n l) (hR : Rdl w u xs) (hx : ∀ i ∈ xs, i < l.length) (hxl : xs.length ≤ 4000) (hA : A0 < n) (hS : S < n) :
    Calls Try.prog 50 #[.int .i64 n, .slice p l.length cap, u, .int .i64 A0, .int .i64 S] w fun e w' => ∃ g, Sp (nbr l n (adj l xs)) minus1 g S ∧ Below w.heap.size w w' ∧
      (g A0 < 0 → e = .returned (.tuple #[.slice none 0 0, .bool false])) ∧ (0 ≤ g A0 → ∃ v, e = .returned (.tuple #[v, .bool true]) ∧ Own w.heap.size w' v (gp l (adj l xs) g (g A0).toNat A0)) := by
  have hn := hG.2.2.1
  have hm := hG.2.1
  have hl : ∀ x ∈ l, x.1 < n ∧ x.2 < n ∧ x.1 ≠ x.2 := hG.2.2.2
  have q1 : (0 : Int) ≤ (A0 : Int) := by omega
  have q2 : (A0 : Int) < (n : Int) := by omega
  go_enter Try.func50, Try.ntmps50
  go_upto_region 2 with (go_at_call 69; (with_reducible refine (rfar_any p n l cap u xs S _ hG hR hx hxl hS).mono ?_); rintro e w1 ⟨g, rfl, R1, S1, b1⟩; have cA := R1.read hA)
  have hG1 := hG.on b1
  have hR1 := hR.on b1
  obtain ⟨q, c, rfl, hq⟩ := hR1
  have HQ := Lib.hid hq
  clear hq hG hR
  by_cases hneg : g A0 < 0
  · go_wp2
    exact bodyPost_ret (v := .tuple #[.slice none 0 0, .bool false]) (by simp [results, Try.results50, go_sem]) rfl ⟨g, S1, b1, fun _ => rfl, fun h => absurd hneg (by omega)⟩
  · have hpos : 0 ≤ g A0 := by omega
    have hgn : ∀ v, v < n → g v < (n : Int) := fun v hv => sp_small hl S1 hv
    go_wp2
    go_loopg [13, 14] (g A0).toNat (fun kk v13 v14 wr => ∃ (v : Nat) (ds : List Nat), v14 = .int .i64 v ∧ v < n ∧ Hid (New minus1 g v) ∧ Hid ((g v).toNat ≤ kk) ∧ Hid (Own w1.heap.size wr v13 ds) ∧ Hid (ds ++ gp l (adj l xs) g (g v).toNat v = gp l (adj l xs) g (g A0).toNat A0) ∧ Hid (ds.length + (g v).toNat ≤ (g A0).toNat) ∧ Below w1.heap.size w1 wr)
    case atStart => exact ⟨A0, [], rfl, hA, Lib.hid (new_iff hpos), Lib.hid (Nat.le_refl _), Lib.hid (World.ownsRow_nil _ _ _ _), Lib.hid rfl, Lib.hid (by simp), Below.refl _ _⟩
    case round =>
      obtain ⟨v, ds, rfl, hv, hN, hkk, hO, hE, hL, hB⟩ := hrel
      by_cases hvb : v = S
      · have t1 : ((v : Int) != (S : Int)) = false := by simp [hvb]
        have ez : g v = 0 := by rw [hvb]; exact S1.s
        have hfin : ds = gp l (adj l xs) g (g A0).toNat A0 := by
          have := hE.out
          rw [ez] at this
          simpa [gp] using this
        have HF := Lib.hid hfin
        clear hvb ez hfin
        go_wp2
        refine bodyPost_ret (v := .tuple #[_, .bool true]) (by simp [results, Try.results50, go_sem]; rfl) rfl ⟨g, S1, b1.trans (hB.mono b1.size), fun h => absurd h (by omega), fun _ => ⟨_, rfl, ?_⟩⟩
        rw [← HF.out]
        exact hO.out.mono b1.size
      · have t1 : ((v : Int) != (S : Int)) = true := by simp; omega
        obtain ⟨iz, hiz, hnz⟩ := sp_near hl S1 hN.out hvb
        have hex : ∃ i ∈ xs, tq l g v i = true := ⟨iz, (adj_mem hiz).1, by
          unfold tq; rw [hnz, (List.mem_filter.1 hiz).2]; rfl⟩
        obtain ⟨k0, hk⟩ := fst_some hex
        obtain ⟨kl, hg, hfind⟩ := fst_get hk
        have hbef := fst_before hk
        rw [tq_find] at hfind
        obtain ⟨i0, hi0⟩ : ∃ i0, i0 = xs[k0] := ⟨_, rfl⟩
        have hx0 := hx _ (List.getElem_mem kl)
        rw [← hi0] at hg hfind hx0
        obtain ⟨x, hx'⟩ : ∃ x, l[i0]? = some x := ⟨_, List.getElem?_eq_getElem hx0⟩
        have him : i0 ∈ adj l xs v := List.mem_of_find?_eq_some hfind
        have hnr : nr l g v i0 = true := List.find?_some hfind
        have step := sp_step hl (fun v u _ _ => by simp [minus1]) S1 hN.out hv him hx' hnr
        have hfe := step.2.1
        have hf0 := step.1.2
        have em : (g v).toNat = (g (oth x v)).toNat + 1 := by omega
        have eg : gp l (adj l xs) g (g v).toNat v = i0 :: gp l (adj l xs) g (g (oth x v)).toNat (oth x v) := by
          rw [em, gp, hfind]
          simp only [hx']
        obtain ⟨u, hu⟩ : ∃ u, u = oth x v := ⟨_, rfl⟩
        have hun : u < n := by rw [hu]; exact step.2.2
        have hNu : Hid (New minus1 g u) := Lib.hid (by rw [hu]; exact step.1)
        have HK2 : Hid ((g u).toNat < gk) := Lib.hid (by have := hkk.out; rw [hu]; omega)
        have HE2 : Hid (ds ++ [i0] ++ gp l (adj l xs) g (g u).toNat u = gp l (adj l xs) g (g A0).toNat A0) := Lib.hid (by have := hE.out; rw [eg] at this; rw [hu]; simpa using this)
        have HL2 : Hid ((ds ++ [i0]).length + (g u).toNat ≤ (g A0).toNat) := Lib.hid (by have := hL.out; rw [List.length_append, hu]; simp; omega)
        have dl : ds.length ≤ 1000 := by
          have h1 := hL.out
          have h2 := hgn A0 hA
          omega
        -- what an edge of the list gives
        have hT : ∀ k (hk : k < xs.length), k ≤ k0 → ∃ i x1 x2, i = xs[k] ∧ i < l.length ∧ l[i]? = some (x1, x2) ∧ ((ot x1 x2 v = -1 ∧ k ≠ k0) ∨ (∃ y : Nat, ot x1 x2 v = (y : Int) ∧ y < n ∧ ((k = k0 ∧ y = u ∧ i = i0 ∧ g y = g v - 1) ∨ (k ≠ k0 ∧ g y ≠ g v - 1)))) := by
          intro k hk2 hle
          have hik := hx _ (List.getElem_mem hk2)
          have hxe : l[xs[k]]? = some l[xs[k]] := List.getElem?_eq_getElem hik
          refine ⟨xs[k], l[xs[k]].1, l[xs[k]].2, rfl, hik, hxe, ?_⟩
          by_cases hinc : l[xs[k]].1 = v ∨ l[xs[k]].2 = v
          · right
            have hia : xs[k] ∈ adj l xs v := List.mem_filter.2 ⟨List.getElem_mem hk2, by unfold inc; rw [hxe]; simpa using hinc⟩
            have hnb : nbr l n (adj l xs) v (oth l[xs[k]] v) := ⟨hv, _, hia, _, hxe, rfl⟩
            have hon := (nbr_symm hl hnb).1
            refine ⟨oth l[xs[k]] v, ot_in hinc, hon, ?_⟩
            by_cases e : k = k0
            · subst e
              left
              have ex : x = l[xs[k]] := by rw [hi0, hxe] at hx'; exact (Option.some.inj hx').symm
              refine ⟨rfl, by rw [hu, ex], hi0.symm, ?_⟩
              rw [← ex]; omega
            · right
              refine ⟨e, fun e2 => ?_⟩
              have := hbef k (by omega) hk2
              unfold tq at this
              have h1 : inc l v xs[k] = true := (List.mem_filter.1 hia).2
              rw [h1, Bool.true_and] at this
              unfold nr at this
              rw [hxe] at this
              simp at this
              omega
          · left
            refine ⟨ot_out hinc, fun e => ?_⟩
            subst e
            rw [hi0] at hg
            unfold tq inc at hg
            rw [hxe] at hg
            simp at hg
            exact hinc hg.1
        have HT := Lib.hid hT
        have hgv0 : 0 ≤ g v := hN.out.2
        clear hT hex hk hg hfind hbef hx' him hnr step hfe hf0 em eg hu hiz hnz hE hkk hN hL hi0
        obtain ⟨j0, hj, hz0, hz1, hz2⟩ := info_parts info3
        obtain ⟨q13, c13, e13, -⟩ := own_form hO.out
        subst e13
        have HV := Lib.hid hvb
        clear hvb
        go_wp2
        go_loopw [13, 14, 15] (fun v13 v14 v15 wr2 => ∃ k : Nat, v15 = .int .i64 k ∧ Hid ((k ≤ k0 ∧ v13 = .slice q13 ds.length c13 ∧ v14 = .int .i64 v ∧ Own w1.heap.size wr2 v13 ds) ∨ (k = xs.length + 1 ∧ v14 = .int .i64 u ∧ Own w1.heap.size wr2 v13 (ds ++ [i0]))) ∧ Below w1.heap.size w1 wr2) (fun _ _ v _ => xs.length + 1 - (intOf v).toNat)
        case atStart => exact ⟨0, rfl, Lib.hid (.inl ⟨Nat.zero_le _, rfl, rfl, hO.out⟩), hB⟩
        case round =>
          obtain ⟨k, rfl, hC, hB2⟩ := hrel
          clear hB
          have hB := hB2
          clear hB2
          rcases hC.out with ⟨hk, rfl, rfl, hO⟩ | ⟨rfl, rfl, hO⟩
          · have hlt : k < xs.length := by omega
            have g1 : decide ((k : Int) < (xs.length : Int)) = true := by simp [hlt]
            obtain ⟨i, x1, x2, hi, hil, hxe, hcs⟩ := HT.out k hlt hk
            have HO := Lib.hid hO
            have HK := Lib.hid hk
            clear hO hC hk
            have W1 : IntKind.i64.wrap ((k : Int) + 1) = ((k + 1 : Nat) : Int) := by rw [IntWalk.i64_in _ (by omega)]; omega
            have WL : IntKind.i64.wrap ((xs.length : Int) + 1) = ((xs.length + 1 : Nat) : Int) := by rw [IntWalk.i64_in _ (by omega)]; omega
            obtain ⟨g2, rfl, cj⟩ := HQ.out k hlt
            have cj0 := cell_later hB cj
            rw [← hi] at cj0
            have hxk := (List.getElem?_eq_some_iff.1 hxe).2
            obtain ⟨a, rfl, d0, d1, -⟩ := (hG1.on hB).at hil
            rw [hxk] at d0 d1
            simp only [] at d0 d1
            have q3 : (0 : Int) ≤ (k : Int) := by omega
            have q4 : (k : Int) < (xs.length : Int) := by omega
            have q5 : (0 : Int) ≤ (i : Int) := by omega
            have q6 : (i : Int) < (l.length : Int) := by omega
            have hOt := fun W => other_any x1 x2 v W
            clear hxk hxe hi cj
            rcases hcs with ⟨e, hne⟩ | ⟨y, e, hyn, hcs⟩
            · rw [e] at hOt
              clear e
              go_wp2_with (go_at_call 70; (with_reducible refine (hOt _).mono ?_); rintro e w5 ⟨rfl, hb5⟩)
              have HO5 := Lib.hid (own_on HO.out hb5)
              have hB5 := belows hB hb5
              have c5 := cell_later hb5 cj0
              clear HO hB hb5 cj0
              go_quiet (fail)
              go_wp2
              exact ⟨⟨k + 1, rfl, Lib.hid (.inl ⟨by have := HK.out; omega, rfl, rfl, HO5.out⟩), below_drewN hB5 _⟩, by simp [intOf]; omega⟩
            · rw [e] at hOt
              clear e
              have hgv := hgn v hv
              have hgy := hgn y hyn
              have WG : IntKind.i64.wrap (g v - 1) = g v - 1 := by rw [IntWalk.i64_in _ (by omega)]
              have p1 : (0 : Int) ≤ (y : Int) := by omega
              have p2 : (y : Int) < (n : Int) := by omega
              have p3 : (0 : Int) ≤ (v : Int) := by omega
              have p4 : (v : Int) < (n : Int) := by omega
              have p5 : decide ((0 : Int) ≤ (y : Int)) = true := decide_eq_true p1
              obtain ⟨gv, hgve⟩ : ∃ z, z = g v := ⟨_, rfl⟩
              obtain ⟨gy, hgye⟩ : ∃ z, z = g y := ⟨_, rfl⟩
              have cRow : ∀ W, Below w1.heap.size w1 W → W.cell? ⟨w.heap.size, v, none⟩ = some (.int .i64 gv) ∧ W.cell? ⟨w.heap.size, y, none⟩ = some (.int .i64 gy) := fun W hW => by
                have R := Row.below R1 hW
                rw [hgve, hgye]
                exact ⟨R.read hv, R.read hyn⟩
              rw [← hgve] at WG
              rw [← hgve, ← hgye] at hcs
              clear hgve hgye hgv hgy
              go_wp2_with (go_at_call 70; (with_reducible refine (hOt _).mono ?_); rintro e w5 ⟨rfl, hb5⟩)
              have HO5 := Lib.hid (own_on HO.out hb5)
              have hB5 := belows hB hb5
              have c5 := cell_later hb5 cj0
              obtain ⟨cv, cy⟩ := cRow w5 hB5
              clear HO hB hb5 cj0 d0 d1
              rcases hcs with ⟨rfl, rfl, rfl, e⟩ | ⟨hne, e⟩
              · have t2 : (gy == gv - 1) = true := by simp [e]
                clear e
                go_quiet (fail)
                have hB6 := below_drewN hB5 nq
                have HO6 := Lib.hid (own_on HO5.out (below_drewN (Below.refl _ _) nq))
                have c6 := cell_later (below_drewN (Below.refl _ _) nq) c5
                clear cv cy hB5 HO5 cRow c5
                generalize w5.drewN nq = W6 at *
                go_wp2_with (at_builtin; refine wpList_append_own_at _ rfl _ _ 29 rfl w1.heap.size 3 j0 _ 1 8 Try.underlying29 hj hz0 hz1 hz2 rfl (by decide) _ ds.length (ints ds) rfl (own_on HO6.out (al1 _ _)) ⟨_, 0, none⟩ 1 1 [.int .i64 (i : Int)] rfl rfl (cell_one_new _ _ _) (by simp [Value.oneCell']) (by unfold maxLen; omega) (by omega) (Nat.le_trans hB6.size (al1 _ _).size) ?_)
                intro v' w6 o1 o2 o3 o4
                have O6 : Own w1.heap.size w6 v' (ds ++ [i]) := by
                  unfold Own
                  rw [ints_app, List.length_append]
                  exact o1
                have B6 : Below w1.heap.size w1 w6 := (hB6.alloc hB6.size _).grown o2 (Nat.le_trans hB6.size (al1 _ _).size) (fun j hj => (World.ownsRow.lt HO6.out _ hj).1)
                have HO7 := Lib.hid O6
                clear o1 o2 o3 o4 O6 HO6 hB6
                go_wp2
                exact ⟨⟨xs.length + 1, rfl, Lib.hid (.inr ⟨rfl, rfl, HO7.out⟩), B6⟩, by simp [intOf]; omega⟩
              · have t2 : (gy == gv - 1) = false := by simp; omega
                clear e
                go_quiet (fail)
                go_wp2
                exact ⟨⟨k + 1, rfl, Lib.hid (.inl ⟨by have := HK.out; omega, rfl, rfl, HO5.out⟩), below_drewN hB5 _⟩, by simp [intOf]; omega⟩
          · have g1 : decide (((xs.length + 1 : Nat) : Int) < (xs.length : Int)) = false := by simp; omega
            have HO := Lib.hid hO
            clear hO hC
            go_wp2
            go_roundg (g u).toNat
            case measure => exact HK2.out
            case rel => exact ⟨u, ds ++ [i0], rfl, hun, hNu, Lib.hid (Nat.le_refl _), HO, HE2, HL2, hB⟩
end Go.Proofs.Ytampfciacjifgaa
