/- holders: the walk. covers: whether boxes cover a box. Covers. -/
import Derived.Test.YtkgaahmehmbfjaaZ2
namespace Go.Proofs.Ytkgaahmehmbfjaa
open Go.ChangeShapes Go.WideShapes Go.ChangeAt Go.RowKit
set_option linter.unusedVariables false
set_option linter.unusedSimpArgs false

set_option maxHeartbeats 8000000 in
set_option maxRecDepth 100000 in
theorem holders_any (p : Option Addr) (l : List Bx) (cap : Nat) (b : Bx) (w : World) (hS : Sl w p l) (hl : l.length ≤ 40) :
    Calls Try.prog 98 #[.slice p l.length cap, b.val] w fun e w' => ∃ v0 v1 v2, e = .returned (.agg #[v0, v1, v2]) ∧ Rd uc 1 w' v0 (hold l b 0) ∧ Rd uc 1 w' v1 (hold l b 1) ∧ Rd uc 1 w' v2 (hold l b 2) ∧ Below w.heap.size w w' := by
  obtain ⟨j0, hj, hy0, hy1, hy2⟩ := info_parts info67
  obtain ⟨t0, ht, ht0, ht1, ht2⟩ := info_parts info68
  obtain ⟨q0, hw, hw0, hw1, hw2⟩ := info_parts info94
  unfold Bx.val
  have hN := (Has.new_ w 30 #[.int .i64 b.a, .int .i64 b.b, .int .i64 b.c, .int .i64 b.d, .int .i64 b.e, .int .i64 b.f]).on (al1 _ (.cells #[.slice none 0 0, .slice none 0 0, .slice none 0 0] 137))
  have hR := Has.new_ (w.alloc (.cells #[.int .i64 b.a, .int .i64 b.b, .int .i64 b.c, .int .i64 b.d, .int .i64 b.e, .int .i64 b.f] 30)) 137 #[.slice none 0 0, .slice none 0 0, .slice none 0 0]
  have hB0 := al (al1 w (.cells #[.int .i64 b.a, .int .i64 b.b, .int .i64 b.c, .int .i64 b.d, .int .i64 b.e, .int .i64 b.f] 30)) (.cells #[.slice none 0 0, .slice none 0 0, .slice none 0 0] 137)
  have hs0 : ((w.alloc (.cells #[.int .i64 b.a, .int .i64 b.b, .int .i64 b.c, .int .i64 b.d, .int .i64 b.e, .int .i64 b.f] 30)).alloc (.cells #[.slice none 0 0, .slice none 0 0, .slice none 0 0] 137)).heap.size = w.heap.size + 1 + 1 := by simp
  rw [show (w.alloc (.cells #[.int .i64 b.a, .int .i64 b.b, .int .i64 b.c, .int .i64 b.d, .int .i64 b.e, .int .i64 b.f] 30)).heap.size = w.heap.size + 1 by simp] at hR
  go_enter Try.func98, Try.ntmps98
  go_wp2_with (at_make; refine wpList_make_own _ rfl _ _ 150 rfl (w.heap.size + 1 + 1) 97 t0 _ 6 Try.underlying150 ht ht0 ht1 _ _ _ l.length rfl rfl rfl (by rw [ht2]; omega) (by unfold maxLen; omega) (by simp) ?_; intro w3 r1 r2)
  have b3 := (Below.refl _ ((w.alloc (.cells #[.int .i64 b.a, .int .i64 b.b, .int .i64 b.c, .int .i64 b.d, .int .i64 b.e, .int .i64 b.f] 30)).alloc (.cells #[.slice none 0 0, .slice none 0 0, .slice none 0 0] 137))).grown r2 (Nat.le_refl _) (fun k hk => by cases hk)
  have hN3 := hN.on b3
  have hR3 := hR.on b3
  have hB3 := belows hB0 b3
  have r3 : Own tc 97 6 (w.heap.size + 1 + 1) w3 (.slice (some ⟨w.heap.size + 1 + 1, 0, none⟩) 0 l.length) (l.take 0) := by simpa [Own] using r1
  have hz3 : w.heap.size + 1 + 1 ≤ w3.heap.size := by have := b3.size; omega
  clear hN hR hB0 b3 r1 r2 hs0
  go_loopw [5, 21] (fun v5 v21 wr => ∃ k : Nat, v21 = .int .i64 (k : Int) ∧ k ≤ l.length ∧ Own tc 97 6 (w.heap.size + 1 + 1) wr v5 (l.take k) ∧ Has wr w.heap.size 30 #[.int .i64 b.a, .int .i64 b.b, .int .i64 b.c, .int .i64 b.d, .int .i64 b.e, .int .i64 b.f] ∧ Has wr (w.heap.size + 1) 137 #[.slice none 0 0, .slice none 0 0, .slice none 0 0] ∧ Below w.heap.size w wr ∧ w.heap.size + 1 + 1 ≤ wr.heap.size) (fun _ v _ => l.length - (intOf v).toNat)
  case atStart => exact ⟨0, rfl, Nat.zero_le _, r3, hN3, hR3, hB3, hz3⟩
  case round =>
    clear r3 hN3 hR3 hB3 hz3
    obtain ⟨k, rfl, hk, hO, hN, hR, hB, hz⟩ := hrel
    by_cases hlt : k < l.length
    · have g1 : decide ((k : Int) < (l.length : Int)) = true := by simp [hlt]
      obtain ⟨a, rfl, c0, c1, c2, c3, c4, c5⟩ := (hS.on hB).at hlt
      have W1 : IntKind.i64.wrap ((k : Int) + 1) = ((k + 1 : Nat) : Int) := by rw [IntWalk.i64_in _ (by omega)]; omega
      have h := fun W => sides_any l[k].a l[k].b l[k].c l[k].d l[k].e l[k].f W
      have ob := al1 wr (.cells #[.int .i64 l[k].a, .int .i64 l[k].b, .int .i64 l[k].c, .int .i64 l[k].d, .int .i64 l[k].e, .int .i64 l[k].f] 30)
      have hpl : (l.take k).length = k := by rw [List.length_take]; omega
      have hpi : l.take (k + 1) = l.take k ++ [l[k]] := List.take_succ_eq_append_getElem hlt
      generalize l.take k = Q at *
      go_wp2_with (first
        | (go_at_call 66; (with_reducible refine (h _).mono ?_); rintro X w1 ⟨rfl, hb⟩; replace ob := belows ob hb)
        | (at_builtin; refine wpList_append_own_at _ rfl _ _ 150 rfl (w.heap.size + 1 + 1) 97 t0 _ 6 48 Try.underlying150 ht ht0 ht1 ht2 rfl (by decide) _ Q.length (Q.flatMap tc) rfl (own_on hO (ob.alloc ob.size _)) ⟨_, 0, none⟩ 1 1 (tc l[k]) rfl rfl (World.news_of_block (cs := #[.int .i64 l[k].a, .int .i64 l[k].d, .int .i64 l[k].b, .int .i64 l[k].e, .int .i64 l[k].c, .int .i64 l[k].f]) (t := 97) (fr := (0, 0)) (heap_alloc_new w1 _)) (by simp [tc, Value.oneCell']) (by unfold maxLen; omega) (by omega) (by have := ob.size; simp; omega) ?_))
      intro v' w4 o1 o2 o3 o4
      have oc := ob.alloc ob.size (.cells #[.int .i64 l[k].a, .int .i64 l[k].d, .int .i64 l[k].b, .int .i64 l[k].e, .int .i64 l[k].c, .int .i64 l[k].f] 97)
      have O4 : Own tc 97 6 (w.heap.size + 1 + 1) w4 v' (Q ++ [l[k]]) := by
        unfold Own
        rw [List.flatMap_append, List.length_append, hpl, show [l[k]].flatMap tc = tc l[k] by simp]
        exact o1
      rw [← hpi] at O4
      have hN4 := Has.grown_ (hN.on oc) o2 (fun e => by have := (World.ownsRow.lt hO _ e.symm).1; omega)
      have hR4 := Has.grown_ (hR.on oc) o2 (fun e => by have := (World.ownsRow.lt hO _ e.symm).1; omega)
      have hB4 : Below w.heap.size w w4 := (hB.trans (oc.mono hB.size)).grown o2 (by have := oc.size; have := hB.size; omega) (fun j hj => by have := (World.ownsRow.lt hO _ hj).1; omega)
      have hz4 : w.heap.size + 1 + 1 ≤ w4.heap.size := Nat.le_trans hz (Nat.le_trans oc.size o2.size)
      clear o1 o2 o3 o4 oc ob hO hN hR hB c0 c1 c2 c3 c4 c5
      go_wp2
      exact ⟨⟨k + 1, rfl, hlt, O4, hN4, hR4, hB4, hz4⟩, by simp [intOf]; omega⟩
    · have g1 : decide ((k : Int) < (l.length : Int)) = false := by simp; omega
      have e : k = l.length := by omega
      subst e
      rw [List.take_length] at hO
      obtain ⟨wa, hwa⟩ : ∃ x, x = wr := ⟨_, rfl⟩
      subst wr
      have hn1 : ¬ w.heap.size = wa.heap.size := by omega
      have hn2 : ¬ w.heap.size + 1 = wa.heap.size := by omega
      have hn3 : w.heap.size < wa.heap.size := by omega
      have hn4 : ¬ wa.heap.size = w.heap.size := by omega
      have hA := Has.new_ wa 137 #[.slice none 0 0, .slice none 0 0, .slice none 0 0]
      have ob := al1 wa (.cells #[.slice none 0 0, .slice none 0 0, .slice none 0 0] 137)
      have cN := hN.cells6
      have hNa := hN.on ob
      have hRa := hR.on ob
      have hBa := hB.trans (ob.mono hB.size)
      have hT := (Own.rd tl hO).on tl ob
      have hTu : Apt (wa.heap.size + 1) wa.heap.size u5 := fun g e => by have := World.ownsRow.lt hO g e; omega
      obtain ⟨qt, ct, rfl, -⟩ := hT.t
      have h := fun W => sides_any b.a b.b b.c b.d b.e b.f W
      have hsz : (wa.alloc (.cells #[.slice none 0 0, .slice none 0 0, .slice none 0 0] 137)).heap.size = wa.heap.size + 1 := by simp
      clear hO hN hR hB ob
      go_wp2_with (go_at_call 66; (with_reducible refine (h _).mono ?_); rintro X w5 ⟨rfl, hb⟩)
      have hA5 := hA.on hb
      have hN5 := hNa.on hb
      have hR5 := hRa.on hb
      have hB5 := hBa.trans (hb.mono hBa.size)
      have hT5 := hT.on tl hb
      have hz5 : wa.heap.size + 1 ≤ w5.heap.size := by have := hb.size; omega
      clear hA hNa hRa hBa hT hb h cN hsz
      go_loopw [33] (fun v wr => ((v = .int .i64 0 ∧ Has wr wa.heap.size 137 #[.slice none 0 0, .slice none 0 0, .slice none 0 0]) ∨ (v = .int .i64 1 ∧ ∃ U0 : Value, Has wr wa.heap.size 137 #[U0, .slice none 0 0, .slice none 0 0] ∧ Rd uc 1 wr U0 (hold l b 0) ∧ UB wa.heap.size wr U0) ∨ (v = .int .i64 2 ∧ ∃ U0 U1 : Value, Has wr wa.heap.size 137 #[U0, U1, .slice none 0 0] ∧ Rd uc 1 wr U0 (hold l b 0) ∧ UB wa.heap.size wr U0 ∧ Rd uc 1 wr U1 (hold l b 1) ∧ UB wa.heap.size wr U1) ∨ (v = .int .i64 3 ∧ ∃ U0 U1 U2 : Value, Has wr wa.heap.size 137 #[U0, U1, U2] ∧ Rd uc 1 wr U0 (hold l b 0) ∧ UB wa.heap.size wr U0 ∧ Rd uc 1 wr U1 (hold l b 1) ∧ UB wa.heap.size wr U1 ∧ Rd uc 1 wr U2 (hold l b 2) ∧ UB wa.heap.size wr U2)) ∧ Has wr w.heap.size 30 #[.int .i64 b.a, .int .i64 b.b, .int .i64 b.c, .int .i64 b.d, .int .i64 b.e, .int .i64 b.f] ∧ Has wr (w.heap.size + 1) 137 #[.slice none 0 0, .slice none 0 0, .slice none 0 0] ∧ Below w.heap.size w wr ∧ Rd tc 6 wr (.slice qt l.length ct) l ∧ wa.heap.size + 1 ≤ wr.heap.size) (fun v _ => 3 - (intOf v).toNat)
      case atStart => exact ⟨.inl ⟨rfl, hA5⟩, hN5, hR5, hB5, hT5, hz5⟩
      case round =>
      clear hA5 hN5 hR5 hB5 hT5 hz5
      obtain ⟨hI, hN, hR, hB, hT, hza⟩ := hrel
      obtain ⟨qt', ct', et, hCt⟩ := hT.t
      cases et
      rcases hI with ⟨rfl, hA⟩ | ⟨rfl, U0, hA, hu0, hb0⟩ | ⟨rfl, U0, U1, hA, hu0, hb0, hu1, hb1⟩ | ⟨rfl, U0, U1, U2, hA, hu0, hb0, hu1, hb1, hu2, hb2⟩
      · obtain ⟨wb, hwb⟩ : ∃ x, x = wr := ⟨_, rfl⟩
        subst wr
        have ix := fun W => six0 b.a b.d b.b b.e b.c b.f W
        have ob := al1 wb (.cells #[.int .i64 b.a, .int .i64 b.d] 96)
        have hK := Has.new_ wb 96 #[.int .i64 b.a, .int .i64 b.d]
        go_wp2_with (at_make; refine wpList_make_own _ rfl _ _ 151 rfl (wb.heap.size + 1) 96 j0 _ 2 Try.underlying151 hj hy0 hy1 _ _ _ l.length rfl rfl rfl (by rw [hy2]; omega) (by unfold maxLen; omega) (by simp) ?_; intro w3 r1 r2)
        have b3 := (Below.refl _ (wb.alloc (.cells #[.int .i64 b.a, .int .i64 b.d] 96))).grown r2 (Nat.le_refl _) (fun k hk => by cases hk)
        have hK3 := hK.on b3
        have hB3 := belows ob b3
        have r3 : Own sc 96 2 (wb.heap.size + 1) w3 (.slice (some ⟨wb.heap.size + 1, 0, none⟩) 0 l.length) ((sds l 0).take 0) := by simpa [Own] using r1
        have hz3 : wb.heap.size + 1 ≤ w3.heap.size := by have := b3.size; simp at this; omega
        clear hK ob b3 r1 r2
        go_loopw [11, 42] (fun v11 v42 wr => ∃ k : Nat, v42 = .int .i64 (k : Int) ∧ k ≤ l.length ∧ Own sc 96 2 (wb.heap.size + 1) wr v11 ((sds l 0).take k) ∧ Has wr wb.heap.size 96 #[.int .i64 b.a, .int .i64 b.d] ∧ Below wb.heap.size wb wr ∧ wb.heap.size + 1 ≤ wr.heap.size) (fun _ v _ => l.length - (intOf v).toNat)
        case atStart => exact ⟨0, rfl, Nat.zero_le _, r3, hK3, hB3, hz3⟩
        case round =>
          clear r3 hK3 hB3 hz3
          obtain ⟨k, rfl, hk, hO, hK, hBb, hz⟩ := hrel
          by_cases hlt : k < l.length
          · have g1 : decide ((k : Int) < (l.length : Int)) = true := by simp [hlt]
            obtain ⟨g, rfl, e0, e1, e2, e3, e4, e5⟩ := hCt k hlt
            have c0 := cell_later hBb e0
            have c1 := cell_later hBb e1
            have c2 := cell_later hBb e2
            have c3 := cell_later hBb e3
            have c4 := cell_later hBb e4
            have c5 := cell_later hBb e5
            clear e0 e1 e2 e3 e4 e5
            have W1 : IntKind.i64.wrap ((k : Int) + 1) = ((k + 1 : Nat) : Int) := by rw [IntWalk.i64_in _ (by omega)]; omega
            have ob := al1 wr (.cells #[.int .i64 l[k].a, .int .i64 l[k].d, .int .i64 l[k].b, .int .i64 l[k].e, .int .i64 l[k].c, .int .i64 l[k].f] 97)
            have hnw : ((wr.alloc (.cells #[.int .i64 l[k].a, .int .i64 l[k].d, .int .i64 l[k].b, .int .i64 l[k].e, .int .i64 l[k].c, .int .i64 l[k].f] 97)).alloc (.cells #[.int .i64 l[k].a, .int .i64 l[k].d] 96)).heap[wr.heap.size + 1]? = some (.cells #[.int .i64 l[k].a, .int .i64 l[k].d] 96 (0, 0)) := by
              have := heap_alloc_new (wr.alloc (.cells #[.int .i64 l[k].a, .int .i64 l[k].d, .int .i64 l[k].b, .int .i64 l[k].e, .int .i64 l[k].c, .int .i64 l[k].f] 97)) (.cells #[.int .i64 l[k].a, .int .i64 l[k].d] 96)
              rwa [show (wr.alloc (.cells #[.int .i64 l[k].a, .int .i64 l[k].d, .int .i64 l[k].b, .int .i64 l[k].e, .int .i64 l[k].c, .int .i64 l[k].f] 97)).heap.size = wr.heap.size + 1 by simp] at this
            have hpl : ((sds l 0).take k).length = k := by rw [List.length_take]; simp [sds]; omega
            have hpi : (sds l 0).take (k + 1) = (sds l 0).take k ++ [(l[k].a, l[k].d)] := by
              rw [List.take_succ_eq_append_getElem (by simp [sds]; omega)]; simp [sds, Bx.side]
            generalize (sds l 0).take k = Q at *
            go_wp2_with (at_builtin; refine wpList_append_own_at _ rfl _ _ 151 rfl (wb.heap.size + 1) 96 j0 _ 2 16 Try.underlying151 hj hy0 hy1 hy2 rfl (by decide) _ Q.length (Q.flatMap sc) rfl (own_on hO (ob.alloc ob.size _)) ⟨wr.heap.size + 1, 0, none⟩ 1 1 (sc (l[k].a, l[k].d)) rfl rfl (World.news_of_block (cs := #[.int .i64 l[k].a, .int .i64 l[k].d]) (t := 96) (fr := (0, 0)) hnw) (by simp [sc, Value.oneCell']) (by unfold maxLen; omega) (by omega) (by have := ob.size; simp; omega) ?_)
            intro v' w4 o1 o2 o3 o4
            have oc := ob.alloc ob.size (.cells #[.int .i64 l[k].a, .int .i64 l[k].d] 96)
            have O4 : Own sc 96 2 (wb.heap.size + 1) w4 v' (Q ++ [(l[k].a, l[k].d)]) := by
              unfold Own
              rw [List.flatMap_append, List.length_append, hpl, show [(l[k].a, l[k].d)].flatMap sc = sc (l[k].a, l[k].d) by simp]
              exact o1
            rw [← hpi] at O4
            have hK4 := Has.grown_ (hK.on oc) o2 (fun e => by have := (World.ownsRow.lt hO _ e.symm).1; omega)
            have hB4 : Below wb.heap.size wb w4 := (hBb.trans (oc.mono hBb.size)).grown o2 (by have := oc.size; have := hBb.size; omega) (fun j hj => by have := (World.ownsRow.lt hO _ hj).1; omega)
            have hz4 : wb.heap.size + 1 ≤ w4.heap.size := Nat.le_trans hz (Nat.le_trans oc.size o2.size)
            clear o1 o2 o3 o4 oc ob hO hK hBb c0 c1 c2 c3 c4 c5
            go_wp2
            exact ⟨⟨k + 1, rfl, hlt, O4, hK4, hB4, hz4⟩, by simp [intOf]; omega⟩
          · have g1 : decide ((k : Int) < (l.length : Int)) = false := by simp; omega
            have e : k = l.length := by omega
            subst e
            rw [show (sds l 0).take l.length = sds l 0 from List.take_of_length_le (by simp [sds])] at hO
            obtain ⟨wc, hwc⟩ : ∃ x, x = wr := ⟨_, rfl⟩
            subst wr
            have hS2 := Own.rd sl hO
            have hSl := Lib.hid (show (sds l 0).length = l.length by simp [sds])
            have hSn := Lib.hid (show (sds l 0).length ≤ 40 by rw [hSl.out]; exact hl)
            have hSu : ∀ g, u11.ownBlock = some g → wb.heap.size + 1 ≤ g ∧ g < wc.heap.size := fun g e => World.ownsRow.lt hO g e
            obtain ⟨q2, c2, rfl, -⟩ := hS2.s
            have k0 := hK.read 0
            have k1 := hK.read 1
            simp at k0 k1
            have h := cut_any _ b.a b.d (sds l 0) wc hS2 hSn.out
            have hp : hold l b 0 = (cutS b.a b.d (sds l 0)).map fun p => hmk (sds l 0) p (sds l 0).length := rfl
            have hcl := cutS_len b.a b.d (sds l 0)
            rw [hSl.out] at hcl
            generalize cutS b.a b.d (sds l 0) = ps at h hp hcl
            have hAc := hA.on hBb
            have hNc := hN.on hBb
            have hRc := hR.on hBb
            have hBc := hB.trans (hBb.mono hB.size)
            have hTc := hT.on tl hBb
            have hzc := hBb.size
            clear hA hN hR hB hT hBb hO hK hCt
            go_wp2_with (go_at_call 112; (with_reducible refine h.mono ?_); rintro X wd ⟨u, rfl, hU, hb⟩; obtain ⟨q3, c3, rfl, hC3⟩ := (Own.rd sl hU).s)
            have hAd := hAc.on hb
            have hNd := hNc.on hb
            have hRd := hRc.on hb
            have hBd := hBc.trans (hb.mono hBc.size)
            have hTd := hTc.on tl hb
            have hSd := hS2.on sl hb
            have hzd := hb.size
            have hUl : ∀ g, q3 = some ⟨g, 0, none⟩ → wc.heap.size ≤ g ∧ g < wd.heap.size := fun g e => World.ownsRow.lt hU g (by rw [e]; rfl)
            clear hAc hNc hRc hBc hTc hS2 h hU hb k0 k1
            go_loopw [57] (fun v57 wr => ∃ (k : Nat) (x : Value), v57 = .int .i64 (k : Int) ∧ k ≤ ps.length ∧ Own uc 139 1 wd.heap.size wr x ((hold l b 0).take k) ∧ Has wr wa.heap.size 137 #[x, .slice none 0 0, .slice none 0 0] ∧ Far wd.heap.size wa.heap.size wd wr ∧ Below w.heap.size w wr ∧ wd.heap.size ≤ wr.heap.size) (fun v _ => ps.length - (intOf v).toNat)
            case atStart => exact ⟨0, _, rfl, Nat.zero_le _, World.ownsRow_nil _ _ _ _, hAd, Far.refl _ _ _, hBd, Nat.le_refl _⟩
            case round =>
              clear hAd hBd
              obtain ⟨k, x, rfl, hk, hO, hA, hF, hB, hz⟩ := hrel
              by_cases hlt : k < ps.length
              · have g1 : decide ((k : Int) < (ps.length : Int)) = true := by simp [hlt]
                obtain ⟨g3, rfl, e0, e1⟩ := hC3 k hlt
                have hg3 := hUl g3 rfl
                have c0 := (World.cell?_of_block (hF g3 hg3.2 (by omega)) (a := ⟨g3, k * 2, none⟩)).trans e0
                have c1 := (World.cell?_of_block (hF g3 hg3.2 (by omega)) (a := ⟨g3, k * 2 + 1, none⟩)).trans e1
                have W1 : IntKind.i64.wrap ((k : Int) + 1) = ((k + 1 : Nat) : Int) := by rw [IntWalk.i64_in _ (by omega)]; omega
                have hSr : Rd sc 2 wr (.slice q2 (sds l 0).length c2) (sds l 0) := Far.rd sl hSd hF (fun g e => by have := hSu g e; omega)
                have hpl : ((hold l b 0).take k).length = k := by rw [List.length_take, hp]; simp; omega
                have hpi : (hold l b 0).take (k + 1) = (hold l b 0).take k ++ [hmk (sds l 0) ps[k] (sds l 0).length] := by
                  rw [List.take_succ_eq_append_getElem (by rw [hp]; simp; omega)]; simp [hp]
                have hh := fun W hr => holding_any (.slice q2 (sds l 0).length c2) (sds l 0) ps[k] W hr hSn.out
                generalize (hold l b 0).take k = Q at *
                generalize hmk (sds l 0) ps[k] (sds l 0).length = H at *
                have hne : ∀ g, x.ownBlock = some g → wd.heap.size ≤ g ∧ g < wr.heap.size := fun g e => World.ownsRow.lt hO g e
                have hneA : some wa.heap.size ≠ x.ownBlock := fun e => by have := hne _ e.symm; omega
                go_wp2_with fail
                clear c0 c1 e0 e1
                have C0 := Has.new_ wr 96 #[.int .i64 ps[k].1, .int .i64 ps[k].2]
                have ob := al1 wr (.cells #[.int .i64 ps[k].1, .int .i64 ps[k].2] 96)
                have hzp : wr.heap.size + 1 ≤ (wr.alloc (.cells #[.int .i64 ps[k].1, .int .i64 ps[k].2] 96)).heap.size := by simp
                have p0 := C0.read 0
                have p1 := C0.read 1
                simp only [List.getElem?_toArray, List.getElem?_cons_zero, List.getElem?_cons_succ] at p0 p1
                have hAp := hA.on ob
                have a0 := hAp.read 0
                have a1 := hAp.open_ 0
                simp only [List.getElem?_toArray, List.getElem?_cons_zero, List.getElem?_cons_succ] at a0
                have hOp := Own.on hO ob
                have hSp := hSr.on sl ob
                generalize hW : wr.alloc (.cells #[.int .i64 ps[k].1, .int .i64 ps[k].2] 96) = wp at *
                have HW := Lib.hid hW
                clear hW C0 hA hO
                go_region_law (first
                  | (go_simp; go_at_call 113; (first | refine (hh wp.drew hSp).mono ?_ | refine (hh wp hSp).mono ?_); rintro X w1 ⟨rfl, hb⟩; have hb' : Below wp.heap.size wp w1 := ((Below.drew (Below.refl _ wp)).trans hb); have hA1 := hAp.on hb'; have a2 := hA1.read 0; have a3 := hA1.open_ 0; simp only [List.getElem?_toArray, List.getElem?_cons_zero, List.getElem?_cons_succ] at a2; have hO1 := Own.on hOp hb'; have hz1 : wa.heap.size < w1.heap.size := (by have := hb'.size; omega); have hz2 : ¬ wa.heap.size = w1.heap.size := (by omega); have hz3 : ¬ w1.heap.size = wa.heap.size := (by omega); have p2 := (cell_later hb' p0); have p3 := (cell_later hb' p1); have hz4 : wr.heap.size < w1.heap.size := (by have := hb'.size; omega); have hz5 : ¬ wr.heap.size = w1.heap.size := (by omega); clear hb)
                  | (refine step_append_lies _ rfl _ _ _ rfl wd.heap.size 139 q0 _ 1 8 Try.underlying136 hw hw0 hw1 hw2 rfl (by omega) x Q.length (Q.flatMap uc) (by simp [Act.eval, Act.put]) (by first | exact own_on hO1 (al1 w1 _) | exact own_on hO1 (Below.drew (al1 w1 _))) ⟨w1.heap.size, 0, none⟩ 1 1 [.int .u64 (H : Int)] (by simp [Act.eval, Act.put]) rfl (World.news_of_block (cs := #[.int .u64 (H : Int)]) (t := 139) (fr := (0, 0)) (heap_alloc_new w1 _)) (by simp [Value.oneCell']) (by omega) (by unfold maxLen; omega) (by omega) (by have := hb'.size; simp; omega) (w1.heap.size + 1) (by simp) ?_; intro gg cap2 w2 hown1 hgrow hat hlt2; have hA2 : Has w2 wa.heap.size 137 #[x, .slice none 0 0, .slice none 0 0] := (by refine Has.grown_ ?_ hgrow hneA; exact hA1.on (al1 w1 _)); have a4 := hA2.read 0; have a5 := hA2.open_ 0; simp only [List.getElem?_toArray, List.getElem?_cons_zero, List.getElem?_cons_succ] at a4))
                all_goals (
                  have ob1 := al1 w1 (.cells #[.int .u64 (H : Int)] 139)
                  have hO4 : Own uc 139 1 wd.heap.size w2 (.slice (some ⟨gg, 0, none⟩) (k + 1) cap2) (Q ++ [H]) := (by
                    unfold Own
                    rw [List.flatMap_append, List.length_append, hpl, show [H].flatMap uc = [.int .u64 (H : Int)] from rfl]
                    rw [hpl] at hown1
                    exact hown1)
                  have hgA : (Value.slice (some ⟨gg, 0, none⟩) (k + 1) cap2).ownBlock ≠ some wa.heap.size := (by
                    rcases hat with e | rfl
                    · have := hne gg e; simp [Value.ownBlock]; omega
                    · simp [Value.ownBlock]; omega)
                  have hO5 := own_at hO4 ((At.refl wa.heap.size w2).put 0 (.slice (some ⟨gg, 0, none⟩) (k + 1) cap2)) hgA
                  have hA5 := hA2.put_ 0 (.slice (some ⟨gg, 0, none⟩) (k + 1) cap2)
                  have hF1 : Far wd.heap.size wa.heap.size wd w1 := (hF.trans (Far.below ob (by omega))).trans (Far.below hb' (by have := ob.size; omega))
                  have hF2 : Far wd.heap.size wa.heap.size w1 w2 := fun j h1 h2 => (hgrow.block j (by have := ob1.size; have := hb'.size; omega) (fun e => by have := hne j e.symm; omega)).trans (ob1.block j (by have := hb'.size; omega))
                  have hF3 := (hF1.trans hF2).trans (Far.set (i := 0) (u := .slice (some ⟨gg, 0, none⟩) (k + 1) cap2) w2)
                  have hB1 : Below w.heap.size w w1 := (hB.trans (ob.mono hB.size)).trans (hb'.mono (by have := hB.size; have := ob.size; omega))
                  have hB2 : Below w.heap.size w w2 := (hB1.trans (ob1.mono hB1.size)).grown hgrow (by have := hB1.size; have := ob1.size; omega) (fun j e => by have := hne j e; omega)
                  have hB3 : Below w.heap.size w (w2.setCell ⟨wa.heap.size, 0, none⟩ (.slice (some ⟨gg, 0, none⟩) (k + 1) cap2)) := hB2.setCell (by dsimp only; omega) _
                  have hz9 : wd.heap.size ≤ (w2.setCell ⟨wa.heap.size, 0, none⟩ (.slice (some ⟨gg, 0, none⟩) (k + 1) cap2)).heap.size := (by have h1 : (w1.alloc (.cells #[.int .u64 (H : Int)] 139)).heap.size ≤ w2.heap.size := hgrow.size; have h2 := ob1.size; have h3 := hb'.size; have h4 : (w2.setCell ⟨wa.heap.size, 0, none⟩ (.slice (some ⟨gg, 0, none⟩) (k + 1) cap2)).heap.size = w2.heap.size := (by simp [World.setCell]); omega)
                  rw [← hpi] at hO5
                  clear hgrow hown1 hat hA2 hF1 hF2 hB1 hB2 hF hB hA1 hO1 hOp hAp hO4
                  go_wp2
                  exact ⟨⟨k + 1, _, rfl, hlt, hO5, by simpa using hA5, hF3, hB3, hz9⟩, by simp [intOf]; omega⟩)
              · have g1 : decide ((k : Int) < (ps.length : Int)) = false := by simp; omega
                have e : (hold l b 0).take k = hold l b 0 := List.take_of_length_le (by rw [hp]; simp; omega)
                rw [e] at hO
                have hNr := Far.has hNd hF (by omega) hn1
                have hRr := Far.has hRd hF (by omega) hn2
                have hTr := Far.rd tl hTd hF (fun g e => by have := hTu g e; omega)
                have hUn := Own.rd ul hO
                have hUb : UB wa.heap.size wr x := Own.ub hO (by omega)
                clear hTd hNd hRd hF hSd hC3
                go_wp2
                exact ⟨⟨.inr (.inl ⟨rfl, _, hA, hUn, hUb⟩), hNr, hRr, hB, hTr, by omega⟩, by simp [intOf]⟩
      · obtain ⟨wb, hwb⟩ : ∃ x, x = wr := ⟨_, rfl⟩
        subst wr
        have ix := fun W => six1 b.a b.d b.b b.e b.c b.f W
        have ob := al1 wb (.cells #[.int .i64 b.b, .int .i64 b.e] 96)
        have hK := Has.new_ wb 96 #[.int .i64 b.b, .int .i64 b.e]
        go_wp2_with (at_make; refine wpList_make_own _ rfl _ _ 151 rfl (wb.heap.size + 1) 96 j0 _ 2 Try.underlying151 hj hy0 hy1 _ _ _ l.length rfl rfl rfl (by rw [hy2]; omega) (by unfold maxLen; omega) (by simp) ?_; intro w3 r1 r2)
        have b3 := (Below.refl _ (wb.alloc (.cells #[.int .i64 b.b, .int .i64 b.e] 96))).grown r2 (Nat.le_refl _) (fun k hk => by cases hk)
        have hK3 := hK.on b3
        have hB3 := belows ob b3
        have r3 : Own sc 96 2 (wb.heap.size + 1) w3 (.slice (some ⟨wb.heap.size + 1, 0, none⟩) 0 l.length) ((sds l 1).take 0) := by simpa [Own] using r1
        have hz3 : wb.heap.size + 1 ≤ w3.heap.size := by have := b3.size; simp at this; omega
        clear hK ob b3 r1 r2
        go_loopw [11, 42] (fun v11 v42 wr => ∃ k : Nat, v42 = .int .i64 (k : Int) ∧ k ≤ l.length ∧ Own sc 96 2 (wb.heap.size + 1) wr v11 ((sds l 1).take k) ∧ Has wr wb.heap.size 96 #[.int .i64 b.b, .int .i64 b.e] ∧ Below wb.heap.size wb wr ∧ wb.heap.size + 1 ≤ wr.heap.size) (fun _ v _ => l.length - (intOf v).toNat)
        case atStart => exact ⟨0, rfl, Nat.zero_le _, r3, hK3, hB3, hz3⟩
        case round =>
          clear r3 hK3 hB3 hz3
          obtain ⟨k, rfl, hk, hO, hK, hBb, hz⟩ := hrel
          by_cases hlt : k < l.length
          · have g1 : decide ((k : Int) < (l.length : Int)) = true := by simp [hlt]
            obtain ⟨g, rfl, e0, e1, e2, e3, e4, e5⟩ := hCt k hlt
            have c0 := cell_later hBb e0
            have c1 := cell_later hBb e1
            have c2 := cell_later hBb e2
            have c3 := cell_later hBb e3
            have c4 := cell_later hBb e4
            have c5 := cell_later hBb e5
            clear e0 e1 e2 e3 e4 e5
            have W1 : IntKind.i64.wrap ((k : Int) + 1) = ((k + 1 : Nat) : Int) := by rw [IntWalk.i64_in _ (by omega)]; omega
            have ob := al1 wr (.cells #[.int .i64 l[k].a, .int .i64 l[k].d, .int .i64 l[k].b, .int .i64 l[k].e, .int .i64 l[k].c, .int .i64 l[k].f] 97)
            have hnw : ((wr.alloc (.cells #[.int .i64 l[k].a, .int .i64 l[k].d, .int .i64 l[k].b, .int .i64 l[k].e, .int .i64 l[k].c, .int .i64 l[k].f] 97)).alloc (.cells #[.int .i64 l[k].b, .int .i64 l[k].e] 96)).heap[wr.heap.size + 1]? = some (.cells #[.int .i64 l[k].b, .int .i64 l[k].e] 96 (0, 0)) := by
              have := heap_alloc_new (wr.alloc (.cells #[.int .i64 l[k].a, .int .i64 l[k].d, .int .i64 l[k].b, .int .i64 l[k].e, .int .i64 l[k].c, .int .i64 l[k].f] 97)) (.cells #[.int .i64 l[k].b, .int .i64 l[k].e] 96)
              rwa [show (wr.alloc (.cells #[.int .i64 l[k].a, .int .i64 l[k].d, .int .i64 l[k].b, .int .i64 l[k].e, .int .i64 l[k].c, .int .i64 l[k].f] 97)).heap.size = wr.heap.size + 1 by simp] at this
            have hpl : ((sds l 1).take k).length = k := by rw [List.length_take]; simp [sds]; omega
            have hpi : (sds l 1).take (k + 1) = (sds l 1).take k ++ [(l[k].b, l[k].e)] := by
              rw [List.take_succ_eq_append_getElem (by simp [sds]; omega)]; simp [sds, Bx.side]
            generalize (sds l 1).take k = Q at *
            go_wp2_with (at_builtin; refine wpList_append_own_at _ rfl _ _ 151 rfl (wb.heap.size + 1) 96 j0 _ 2 16 Try.underlying151 hj hy0 hy1 hy2 rfl (by decide) _ Q.length (Q.flatMap sc) rfl (own_on hO (ob.alloc ob.size _)) ⟨wr.heap.size + 1, 0, none⟩ 1 1 (sc (l[k].b, l[k].e)) rfl rfl (World.news_of_block (cs := #[.int .i64 l[k].b, .int .i64 l[k].e]) (t := 96) (fr := (0, 0)) hnw) (by simp [sc, Value.oneCell']) (by unfold maxLen; omega) (by omega) (by have := ob.size; simp; omega) ?_)
            intro v' w4 o1 o2 o3 o4
            have oc := ob.alloc ob.size (.cells #[.int .i64 l[k].b, .int .i64 l[k].e] 96)
            have O4 : Own sc 96 2 (wb.heap.size + 1) w4 v' (Q ++ [(l[k].b, l[k].e)]) := by
              unfold Own
              rw [List.flatMap_append, List.length_append, hpl, show [(l[k].b, l[k].e)].flatMap sc = sc (l[k].b, l[k].e) by simp]
              exact o1
            rw [← hpi] at O4
            have hK4 := Has.grown_ (hK.on oc) o2 (fun e => by have := (World.ownsRow.lt hO _ e.symm).1; omega)
            have hB4 : Below wb.heap.size wb w4 := (hBb.trans (oc.mono hBb.size)).grown o2 (by have := oc.size; have := hBb.size; omega) (fun j hj => by have := (World.ownsRow.lt hO _ hj).1; omega)
            have hz4 : wb.heap.size + 1 ≤ w4.heap.size := Nat.le_trans hz (Nat.le_trans oc.size o2.size)
            clear o1 o2 o3 o4 oc ob hO hK hBb c0 c1 c2 c3 c4 c5
            go_wp2
            exact ⟨⟨k + 1, rfl, hlt, O4, hK4, hB4, hz4⟩, by simp [intOf]; omega⟩
          · have g1 : decide ((k : Int) < (l.length : Int)) = false := by simp; omega
            have e : k = l.length := by omega
            subst e
            rw [show (sds l 1).take l.length = sds l 1 from List.take_of_length_le (by simp [sds])] at hO
            obtain ⟨wc, hwc⟩ : ∃ x, x = wr := ⟨_, rfl⟩
            subst wr
            have hS2 := Own.rd sl hO
            have hSl := Lib.hid (show (sds l 1).length = l.length by simp [sds])
            have hSn := Lib.hid (show (sds l 1).length ≤ 40 by rw [hSl.out]; exact hl)
            have hSu : ∀ g, u11.ownBlock = some g → wb.heap.size + 1 ≤ g ∧ g < wc.heap.size := fun g e => World.ownsRow.lt hO g e
            obtain ⟨q2, c2, rfl, -⟩ := hS2.s
            have k0 := hK.read 0
            have k1 := hK.read 1
            simp at k0 k1
            have h := cut_any _ b.b b.e (sds l 1) wc hS2 hSn.out
            have hp : hold l b 1 = (cutS b.b b.e (sds l 1)).map fun p => hmk (sds l 1) p (sds l 1).length := rfl
            have hcl := cutS_len b.b b.e (sds l 1)
            rw [hSl.out] at hcl
            generalize cutS b.b b.e (sds l 1) = ps at h hp hcl
            have hAc := hA.on hBb
            have hNc := hN.on hBb
            have hRc := hR.on hBb
            have hBc := hB.trans (hBb.mono hB.size)
            have hTc := hT.on tl hBb
            have hu0c := hu0.on ul hBb
            have hb0c := hb0.up hBb.size
            have hzc := hBb.size
            clear hA hN hR hB hT hBb hO hK hCt
            go_wp2_with (go_at_call 112; (with_reducible refine h.mono ?_); rintro X wd ⟨u, rfl, hU, hb⟩; obtain ⟨q3, c3, rfl, hC3⟩ := (Own.rd sl hU).s)
            have hAd := hAc.on hb
            have hNd := hNc.on hb
            have hRd := hRc.on hb
            have hBd := hBc.trans (hb.mono hBc.size)
            have hTd := hTc.on tl hb
            have hSd := hS2.on sl hb
            have hu0d := hu0c.on ul hb
            have hb0d := hb0c.up hb.size
            have hzd := hb.size
            have hUl : ∀ g, q3 = some ⟨g, 0, none⟩ → wc.heap.size ≤ g ∧ g < wd.heap.size := fun g e => World.ownsRow.lt hU g (by rw [e]; rfl)
            clear hAc hNc hRc hBc hTc hS2 h hU hb k0 k1 hu0c hb0c
            go_loopw [57] (fun v57 wr => ∃ (k : Nat) (x : Value), v57 = .int .i64 (k : Int) ∧ k ≤ ps.length ∧ Own uc 139 1 wd.heap.size wr x ((hold l b 1).take k) ∧ Has wr wa.heap.size 137 #[U0, x, .slice none 0 0] ∧ Far wd.heap.size wa.heap.size wd wr ∧ Below w.heap.size w wr ∧ wd.heap.size ≤ wr.heap.size) (fun v _ => ps.length - (intOf v).toNat)
            case atStart => exact ⟨0, _, rfl, Nat.zero_le _, World.ownsRow_nil _ _ _ _, hAd, Far.refl _ _ _, hBd, Nat.le_refl _⟩
            case round =>
              clear hAd hBd
              obtain ⟨k, x, rfl, hk, hO, hA, hF, hB, hz⟩ := hrel
              by_cases hlt : k < ps.length
              · have g1 : decide ((k : Int) < (ps.length : Int)) = true := by simp [hlt]
                obtain ⟨g3, rfl, e0, e1⟩ := hC3 k hlt
                have hg3 := hUl g3 rfl
                have c0 := (World.cell?_of_block (hF g3 hg3.2 (by omega)) (a := ⟨g3, k * 2, none⟩)).trans e0
                have c1 := (World.cell?_of_block (hF g3 hg3.2 (by omega)) (a := ⟨g3, k * 2 + 1, none⟩)).trans e1
                have W1 : IntKind.i64.wrap ((k : Int) + 1) = ((k + 1 : Nat) : Int) := by rw [IntWalk.i64_in _ (by omega)]; omega
                have hSr : Rd sc 2 wr (.slice q2 (sds l 1).length c2) (sds l 1) := Far.rd sl hSd hF (fun g e => by have := hSu g e; omega)
                have hpl : ((hold l b 1).take k).length = k := by rw [List.length_take, hp]; simp; omega
                have hpi : (hold l b 1).take (k + 1) = (hold l b 1).take k ++ [hmk (sds l 1) ps[k] (sds l 1).length] := by
                  rw [List.take_succ_eq_append_getElem (by rw [hp]; simp; omega)]; simp [hp]
                have hh := fun W hr => holding_any (.slice q2 (sds l 1).length c2) (sds l 1) ps[k] W hr hSn.out
                generalize (hold l b 1).take k = Q at *
                generalize hmk (sds l 1) ps[k] (sds l 1).length = H at *
                have hne : ∀ g, x.ownBlock = some g → wd.heap.size ≤ g ∧ g < wr.heap.size := fun g e => World.ownsRow.lt hO g e
                have hneA : some wa.heap.size ≠ x.ownBlock := fun e => by have := hne _ e.symm; omega
                go_wp2_with fail
                clear c0 c1 e0 e1
                have C0 := Has.new_ wr 96 #[.int .i64 ps[k].1, .int .i64 ps[k].2]
                have ob := al1 wr (.cells #[.int .i64 ps[k].1, .int .i64 ps[k].2] 96)
                have hzp : wr.heap.size + 1 ≤ (wr.alloc (.cells #[.int .i64 ps[k].1, .int .i64 ps[k].2] 96)).heap.size := by simp
                have p0 := C0.read 0
                have p1 := C0.read 1
                simp only [List.getElem?_toArray, List.getElem?_cons_zero, List.getElem?_cons_succ] at p0 p1
                have hAp := hA.on ob
                have a0 := hAp.read 1
                have a1 := hAp.open_ 1
                simp only [List.getElem?_toArray, List.getElem?_cons_zero, List.getElem?_cons_succ] at a0
                have hOp := Own.on hO ob
                have hSp := hSr.on sl ob
                generalize hW : wr.alloc (.cells #[.int .i64 ps[k].1, .int .i64 ps[k].2] 96) = wp at *
                have HW := Lib.hid hW
                clear hW C0 hA hO
                go_region_law (first
                  | (go_simp; go_at_call 113; (first | refine (hh wp.drew hSp).mono ?_ | refine (hh wp hSp).mono ?_); rintro X w1 ⟨rfl, hb⟩; have hb' : Below wp.heap.size wp w1 := ((Below.drew (Below.refl _ wp)).trans hb); have hA1 := hAp.on hb'; have a2 := hA1.read 1; have a3 := hA1.open_ 1; simp only [List.getElem?_toArray, List.getElem?_cons_zero, List.getElem?_cons_succ] at a2; have hO1 := Own.on hOp hb'; have hz1 : wa.heap.size < w1.heap.size := (by have := hb'.size; omega); have hz2 : ¬ wa.heap.size = w1.heap.size := (by omega); have hz3 : ¬ w1.heap.size = wa.heap.size := (by omega); have p2 := (cell_later hb' p0); have p3 := (cell_later hb' p1); have hz4 : wr.heap.size < w1.heap.size := (by have := hb'.size; omega); have hz5 : ¬ wr.heap.size = w1.heap.size := (by omega); clear hb)
                  | (refine step_append_lies _ rfl _ _ _ rfl wd.heap.size 139 q0 _ 1 8 Try.underlying136 hw hw0 hw1 hw2 rfl (by omega) x Q.length (Q.flatMap uc) (by simp [Act.eval, Act.put]) (by first | exact own_on hO1 (al1 w1 _) | exact own_on hO1 (Below.drew (al1 w1 _))) ⟨w1.heap.size, 0, none⟩ 1 1 [.int .u64 (H : Int)] (by simp [Act.eval, Act.put]) rfl (World.news_of_block (cs := #[.int .u64 (H : Int)]) (t := 139) (fr := (0, 0)) (heap_alloc_new w1 _)) (by simp [Value.oneCell']) (by omega) (by unfold maxLen; omega) (by omega) (by have := hb'.size; simp; omega) (w1.heap.size + 1) (by simp) ?_; intro gg cap2 w2 hown1 hgrow hat hlt2; have hA2 : Has w2 wa.heap.size 137 #[U0, x, .slice none 0 0] := (by refine Has.grown_ ?_ hgrow hneA; exact hA1.on (al1 w1 _)); have a4 := hA2.read 1; have a5 := hA2.open_ 1; simp only [List.getElem?_toArray, List.getElem?_cons_zero, List.getElem?_cons_succ] at a4))
                all_goals (
                  have ob1 := al1 w1 (.cells #[.int .u64 (H : Int)] 139)
                  have hO4 : Own uc 139 1 wd.heap.size w2 (.slice (some ⟨gg, 0, none⟩) (k + 1) cap2) (Q ++ [H]) := (by
                    unfold Own
                    rw [List.flatMap_append, List.length_append, hpl, show [H].flatMap uc = [.int .u64 (H : Int)] from rfl]
                    rw [hpl] at hown1
                    exact hown1)
                  have hgA : (Value.slice (some ⟨gg, 0, none⟩) (k + 1) cap2).ownBlock ≠ some wa.heap.size := (by
                    rcases hat with e | rfl
                    · have := hne gg e; simp [Value.ownBlock]; omega
                    · simp [Value.ownBlock]; omega)
                  have hO5 := own_at hO4 ((At.refl wa.heap.size w2).put 1 (.slice (some ⟨gg, 0, none⟩) (k + 1) cap2)) hgA
                  have hA5 := hA2.put_ 1 (.slice (some ⟨gg, 0, none⟩) (k + 1) cap2)
                  have hF1 : Far wd.heap.size wa.heap.size wd w1 := (hF.trans (Far.below ob (by omega))).trans (Far.below hb' (by have := ob.size; omega))
                  have hF2 : Far wd.heap.size wa.heap.size w1 w2 := fun j h1 h2 => (hgrow.block j (by have := ob1.size; have := hb'.size; omega) (fun e => by have := hne j e.symm; omega)).trans (ob1.block j (by have := hb'.size; omega))
                  have hF3 := (hF1.trans hF2).trans (Far.set (i := 1) (u := .slice (some ⟨gg, 0, none⟩) (k + 1) cap2) w2)
                  have hB1 : Below w.heap.size w w1 := (hB.trans (ob.mono hB.size)).trans (hb'.mono (by have := hB.size; have := ob.size; omega))
                  have hB2 : Below w.heap.size w w2 := (hB1.trans (ob1.mono hB1.size)).grown hgrow (by have := hB1.size; have := ob1.size; omega) (fun j e => by have := hne j e; omega)
                  have hB3 : Below w.heap.size w (w2.setCell ⟨wa.heap.size, 1, none⟩ (.slice (some ⟨gg, 0, none⟩) (k + 1) cap2)) := hB2.setCell (by dsimp only; omega) _
                  have hz9 : wd.heap.size ≤ (w2.setCell ⟨wa.heap.size, 1, none⟩ (.slice (some ⟨gg, 0, none⟩) (k + 1) cap2)).heap.size := (by have h1 : (w1.alloc (.cells #[.int .u64 (H : Int)] 139)).heap.size ≤ w2.heap.size := hgrow.size; have h2 := ob1.size; have h3 := hb'.size; have h4 : (w2.setCell ⟨wa.heap.size, 1, none⟩ (.slice (some ⟨gg, 0, none⟩) (k + 1) cap2)).heap.size = w2.heap.size := (by simp [World.setCell]); omega)
                  rw [← hpi] at hO5
                  clear hgrow hown1 hat hA2 hF1 hF2 hB1 hB2 hF hB hA1 hO1 hOp hAp hO4
                  go_wp2
                  exact ⟨⟨k + 1, _, rfl, hlt, hO5, by simpa using hA5, hF3, hB3, hz9⟩, by simp [intOf]; omega⟩)
              · have g1 : decide ((k : Int) < (ps.length : Int)) = false := by simp; omega
                have e : (hold l b 1).take k = hold l b 1 := List.take_of_length_le (by rw [hp]; simp; omega)
                rw [e] at hO
                have hNr := Far.has hNd hF (by omega) hn1
                have hRr := Far.has hRd hF (by omega) hn2
                have hTr := Far.rd tl hTd hF (fun g e => by have := hTu g e; omega)
                have hUn := Own.rd ul hO
                have hUb : UB wa.heap.size wr x := Own.ub hO (by omega)
                have hu0r := Far.rd ul hu0d hF hb0d.apt
                have hb0r := hb0d.up hz
                clear hTd hNd hRd hF hSd hC3
                go_wp2
                exact ⟨⟨.inr (.inr (.inl ⟨rfl, _, _, hA, hu0r, hb0r, hUn, hUb⟩)), hNr, hRr, hB, hTr, by omega⟩, by simp [intOf]⟩
      · obtain ⟨wb, hwb⟩ : ∃ x, x = wr := ⟨_, rfl⟩
        subst wr
        have ix := fun W => six2 b.a b.d b.b b.e b.c b.f W
        have ob := al1 wb (.cells #[.int .i64 b.c, .int .i64 b.f] 96)
        have hK := Has.new_ wb 96 #[.int .i64 b.c, .int .i64 b.f]
        go_wp2_with (at_make; refine wpList_make_own _ rfl _ _ 151 rfl (wb.heap.size + 1) 96 j0 _ 2 Try.underlying151 hj hy0 hy1 _ _ _ l.length rfl rfl rfl (by rw [hy2]; omega) (by unfold maxLen; omega) (by simp) ?_; intro w3 r1 r2)
        have b3 := (Below.refl _ (wb.alloc (.cells #[.int .i64 b.c, .int .i64 b.f] 96))).grown r2 (Nat.le_refl _) (fun k hk => by cases hk)
        have hK3 := hK.on b3
        have hB3 := belows ob b3
        have r3 : Own sc 96 2 (wb.heap.size + 1) w3 (.slice (some ⟨wb.heap.size + 1, 0, none⟩) 0 l.length) ((sds l 2).take 0) := by simpa [Own] using r1
        have hz3 : wb.heap.size + 1 ≤ w3.heap.size := by have := b3.size; simp at this; omega
        clear hK ob b3 r1 r2
        go_loopw [11, 42] (fun v11 v42 wr => ∃ k : Nat, v42 = .int .i64 (k : Int) ∧ k ≤ l.length ∧ Own sc 96 2 (wb.heap.size + 1) wr v11 ((sds l 2).take k) ∧ Has wr wb.heap.size 96 #[.int .i64 b.c, .int .i64 b.f] ∧ Below wb.heap.size wb wr ∧ wb.heap.size + 1 ≤ wr.heap.size) (fun _ v _ => l.length - (intOf v).toNat)
        case atStart => exact ⟨0, rfl, Nat.zero_le _, r3, hK3, hB3, hz3⟩
        case round =>
          clear r3 hK3 hB3 hz3
          obtain ⟨k, rfl, hk, hO, hK, hBb, hz⟩ := hrel
          by_cases hlt : k < l.length
          · have g1 : decide ((k : Int) < (l.length : Int)) = true := by simp [hlt]
            obtain ⟨g, rfl, e0, e1, e2, e3, e4, e5⟩ := hCt k hlt
            have c0 := cell_later hBb e0
            have c1 := cell_later hBb e1
            have c2 := cell_later hBb e2
            have c3 := cell_later hBb e3
            have c4 := cell_later hBb e4
            have c5 := cell_later hBb e5
            clear e0 e1 e2 e3 e4 e5
            have W1 : IntKind.i64.wrap ((k : Int) + 1) = ((k + 1 : Nat) : Int) := by rw [IntWalk.i64_in _ (by omega)]; omega
            have ob := al1 wr (.cells #[.int .i64 l[k].a, .int .i64 l[k].d, .int .i64 l[k].b, .int .i64 l[k].e, .int .i64 l[k].c, .int .i64 l[k].f] 97)
            have hnw : ((wr.alloc (.cells #[.int .i64 l[k].a, .int .i64 l[k].d, .int .i64 l[k].b, .int .i64 l[k].e, .int .i64 l[k].c, .int .i64 l[k].f] 97)).alloc (.cells #[.int .i64 l[k].c, .int .i64 l[k].f] 96)).heap[wr.heap.size + 1]? = some (.cells #[.int .i64 l[k].c, .int .i64 l[k].f] 96 (0, 0)) := by
              have := heap_alloc_new (wr.alloc (.cells #[.int .i64 l[k].a, .int .i64 l[k].d, .int .i64 l[k].b, .int .i64 l[k].e, .int .i64 l[k].c, .int .i64 l[k].f] 97)) (.cells #[.int .i64 l[k].c, .int .i64 l[k].f] 96)
              rwa [show (wr.alloc (.cells #[.int .i64 l[k].a, .int .i64 l[k].d, .int .i64 l[k].b, .int .i64 l[k].e, .int .i64 l[k].c, .int .i64 l[k].f] 97)).heap.size = wr.heap.size + 1 by simp] at this
            have hpl : ((sds l 2).take k).length = k := by rw [List.length_take]; simp [sds]; omega
            have hpi : (sds l 2).take (k + 1) = (sds l 2).take k ++ [(l[k].c, l[k].f)] := by
              rw [List.take_succ_eq_append_getElem (by simp [sds]; omega)]; simp [sds, Bx.side]
            generalize (sds l 2).take k = Q at *
            go_wp2_with (at_builtin; refine wpList_append_own_at _ rfl _ _ 151 rfl (wb.heap.size + 1) 96 j0 _ 2 16 Try.underlying151 hj hy0 hy1 hy2 rfl (by decide) _ Q.length (Q.flatMap sc) rfl (own_on hO (ob.alloc ob.size _)) ⟨wr.heap.size + 1, 0, none⟩ 1 1 (sc (l[k].c, l[k].f)) rfl rfl (World.news_of_block (cs := #[.int .i64 l[k].c, .int .i64 l[k].f]) (t := 96) (fr := (0, 0)) hnw) (by simp [sc, Value.oneCell']) (by unfold maxLen; omega) (by omega) (by have := ob.size; simp; omega) ?_)
            intro v' w4 o1 o2 o3 o4
            have oc := ob.alloc ob.size (.cells #[.int .i64 l[k].c, .int .i64 l[k].f] 96)
            have O4 : Own sc 96 2 (wb.heap.size + 1) w4 v' (Q ++ [(l[k].c, l[k].f)]) := by
              unfold Own
              rw [List.flatMap_append, List.length_append, hpl, show [(l[k].c, l[k].f)].flatMap sc = sc (l[k].c, l[k].f) by simp]
              exact o1
            rw [← hpi] at O4
            have hK4 := Has.grown_ (hK.on oc) o2 (fun e => by have := (World.ownsRow.lt hO _ e.symm).1; omega)
            have hB4 : Below wb.heap.size wb w4 := (hBb.trans (oc.mono hBb.size)).grown o2 (by have := oc.size; have := hBb.size; omega) (fun j hj => by have := (World.ownsRow.lt hO _ hj).1; omega)
            have hz4 : wb.heap.size + 1 ≤ w4.heap.size := Nat.le_trans hz (Nat.le_trans oc.size o2.size)
            clear o1 o2 o3 o4 oc ob hO hK hBb c0 c1 c2 c3 c4 c5
            go_wp2
            exact ⟨⟨k + 1, rfl, hlt, O4, hK4, hB4, hz4⟩, by simp [intOf]; omega⟩
          · have g1 : decide ((k : Int) < (l.length : Int)) = false := by simp; omega
            have e : k = l.length := by omega
            subst e
            rw [show (sds l 2).take l.length = sds l 2 from List.take_of_length_le (by simp [sds])] at hO
            obtain ⟨wc, hwc⟩ : ∃ x, x = wr := ⟨_, rfl⟩
            subst wr
            have hS2 := Own.rd sl hO
            have hSl := Lib.hid (show (sds l 2).length = l.length by simp [sds])
            have hSn := Lib.hid (show (sds l 2).length ≤ 40 by rw [hSl.out]; exact hl)
            have hSu : ∀ g, u11.ownBlock = some g → wb.heap.size + 1 ≤ g ∧ g < wc.heap.size := fun g e => World.ownsRow.lt hO g e
            obtain ⟨q2, c2, rfl, -⟩ := hS2.s
            have k0 := hK.read 0
            have k1 := hK.read 1
            simp at k0 k1
            have h := cut_any _ b.c b.f (sds l 2) wc hS2 hSn.out
            have hp : hold l b 2 = (cutS b.c b.f (sds l 2)).map fun p => hmk (sds l 2) p (sds l 2).length := rfl
            have hcl := cutS_len b.c b.f (sds l 2)
            rw [hSl.out] at hcl
            generalize cutS b.c b.f (sds l 2) = ps at h hp hcl
            have hAc := hA.on hBb
            have hNc := hN.on hBb
            have hRc := hR.on hBb
            have hBc := hB.trans (hBb.mono hB.size)
            have hTc := hT.on tl hBb
            have hu0c := hu0.on ul hBb
            have hb0c := hb0.up hBb.size
            have hu1c := hu1.on ul hBb
            have hb1c := hb1.up hBb.size
            have hzc := hBb.size
            clear hA hN hR hB hT hBb hO hK hCt
            go_wp2_with (go_at_call 112; (with_reducible refine h.mono ?_); rintro X wd ⟨u, rfl, hU, hb⟩; obtain ⟨q3, c3, rfl, hC3⟩ := (Own.rd sl hU).s)
            have hAd := hAc.on hb
            have hNd := hNc.on hb
            have hRd := hRc.on hb
            have hBd := hBc.trans (hb.mono hBc.size)
            have hTd := hTc.on tl hb
            have hSd := hS2.on sl hb
            have hu0d := hu0c.on ul hb
            have hb0d := hb0c.up hb.size
            have hu1d := hu1c.on ul hb
            have hb1d := hb1c.up hb.size
            have hzd := hb.size
            have hUl : ∀ g, q3 = some ⟨g, 0, none⟩ → wc.heap.size ≤ g ∧ g < wd.heap.size := fun g e => World.ownsRow.lt hU g (by rw [e]; rfl)
            clear hAc hNc hRc hBc hTc hS2 h hU hb k0 k1 hu0c hb0c hu1c hb1c
            go_loopw [57] (fun v57 wr => ∃ (k : Nat) (x : Value), v57 = .int .i64 (k : Int) ∧ k ≤ ps.length ∧ Own uc 139 1 wd.heap.size wr x ((hold l b 2).take k) ∧ Has wr wa.heap.size 137 #[U0, U1, x] ∧ Far wd.heap.size wa.heap.size wd wr ∧ Below w.heap.size w wr ∧ wd.heap.size ≤ wr.heap.size) (fun v _ => ps.length - (intOf v).toNat)
            case atStart => exact ⟨0, _, rfl, Nat.zero_le _, World.ownsRow_nil _ _ _ _, hAd, Far.refl _ _ _, hBd, Nat.le_refl _⟩
            case round =>
              clear hAd hBd
              obtain ⟨k, x, rfl, hk, hO, hA, hF, hB, hz⟩ := hrel
              by_cases hlt : k < ps.length
              · have g1 : decide ((k : Int) < (ps.length : Int)) = true := by simp [hlt]
                obtain ⟨g3, rfl, e0, e1⟩ := hC3 k hlt
                have hg3 := hUl g3 rfl
                have c0 := (World.cell?_of_block (hF g3 hg3.2 (by omega)) (a := ⟨g3, k * 2, none⟩)).trans e0
                have c1 := (World.cell?_of_block (hF g3 hg3.2 (by omega)) (a := ⟨g3, k * 2 + 1, none⟩)).trans e1
                have W1 : IntKind.i64.wrap ((k : Int) + 1) = ((k + 1 : Nat) : Int) := by rw [IntWalk.i64_in _ (by omega)]; omega
                have hSr : Rd sc 2 wr (.slice q2 (sds l 2).length c2) (sds l 2) := Far.rd sl hSd hF (fun g e => by have := hSu g e; omega)
                have hpl : ((hold l b 2).take k).length = k := by rw [List.length_take, hp]; simp; omega
                have hpi : (hold l b 2).take (k + 1) = (hold l b 2).take k ++ [hmk (sds l 2) ps[k] (sds l 2).length] := by
                  rw [List.take_succ_eq_append_getElem (by rw [hp]; simp; omega)]; simp [hp]
                have hh := fun W hr => holding_any (.slice q2 (sds l 2).length c2) (sds l 2) ps[k] W hr hSn.out
                generalize (hold l b 2).take k = Q at *
                generalize hmk (sds l 2) ps[k] (sds l 2).length = H at *
                have hne : ∀ g, x.ownBlock = some g → wd.heap.size ≤ g ∧ g < wr.heap.size := fun g e => World.ownsRow.lt hO g e
                have hneA : some wa.heap.size ≠ x.ownBlock := fun e => by have := hne _ e.symm; omega
                go_wp2_with fail
                clear c0 c1 e0 e1
                have C0 := Has.new_ wr 96 #[.int .i64 ps[k].1, .int .i64 ps[k].2]
                have ob := al1 wr (.cells #[.int .i64 ps[k].1, .int .i64 ps[k].2] 96)
                have hzp : wr.heap.size + 1 ≤ (wr.alloc (.cells #[.int .i64 ps[k].1, .int .i64 ps[k].2] 96)).heap.size := by simp
                have p0 := C0.read 0
                have p1 := C0.read 1
                simp only [List.getElem?_toArray, List.getElem?_cons_zero, List.getElem?_cons_succ] at p0 p1
                have hAp := hA.on ob
                have a0 := hAp.read 2
                have a1 := hAp.open_ 2
                simp only [List.getElem?_toArray, List.getElem?_cons_zero, List.getElem?_cons_succ] at a0
                have hOp := Own.on hO ob
                have hSp := hSr.on sl ob
                generalize hW : wr.alloc (.cells #[.int .i64 ps[k].1, .int .i64 ps[k].2] 96) = wp at *
                have HW := Lib.hid hW
                clear hW C0 hA hO
                go_region_law (first
                  | (go_simp; go_at_call 113; (first | refine (hh wp.drew hSp).mono ?_ | refine (hh wp hSp).mono ?_); rintro X w1 ⟨rfl, hb⟩; have hb' : Below wp.heap.size wp w1 := ((Below.drew (Below.refl _ wp)).trans hb); have hA1 := hAp.on hb'; have a2 := hA1.read 2; have a3 := hA1.open_ 2; simp only [List.getElem?_toArray, List.getElem?_cons_zero, List.getElem?_cons_succ] at a2; have hO1 := Own.on hOp hb'; have hz1 : wa.heap.size < w1.heap.size := (by have := hb'.size; omega); have hz2 : ¬ wa.heap.size = w1.heap.size := (by omega); have hz3 : ¬ w1.heap.size = wa.heap.size := (by omega); have p2 := (cell_later hb' p0); have p3 := (cell_later hb' p1); have hz4 : wr.heap.size < w1.heap.size := (by have := hb'.size; omega); have hz5 : ¬ wr.heap.size = w1.heap.size := (by omega); clear hb)
                  | (refine step_append_lies _ rfl _ _ _ rfl wd.heap.size 139 q0 _ 1 8 Try.underlying136 hw hw0 hw1 hw2 rfl (by omega) x Q.length (Q.flatMap uc) (by simp [Act.eval, Act.put]) (by first | exact own_on hO1 (al1 w1 _) | exact own_on hO1 (Below.drew (al1 w1 _))) ⟨w1.heap.size, 0, none⟩ 1 1 [.int .u64 (H : Int)] (by simp [Act.eval, Act.put]) rfl (World.news_of_block (cs := #[.int .u64 (H : Int)]) (t := 139) (fr := (0, 0)) (heap_alloc_new w1 _)) (by simp [Value.oneCell']) (by omega) (by unfold maxLen; omega) (by omega) (by have := hb'.size; simp; omega) (w1.heap.size + 1) (by simp) ?_; intro gg cap2 w2 hown1 hgrow hat hlt2; have hA2 : Has w2 wa.heap.size 137 #[U0, U1, x] := (by refine Has.grown_ ?_ hgrow hneA; exact hA1.on (al1 w1 _)); have a4 := hA2.read 2; have a5 := hA2.open_ 2; simp only [List.getElem?_toArray, List.getElem?_cons_zero, List.getElem?_cons_succ] at a4))
                all_goals (
                  have ob1 := al1 w1 (.cells #[.int .u64 (H : Int)] 139)
                  have hO4 : Own uc 139 1 wd.heap.size w2 (.slice (some ⟨gg, 0, none⟩) (k + 1) cap2) (Q ++ [H]) := (by
                    unfold Own
                    rw [List.flatMap_append, List.length_append, hpl, show [H].flatMap uc = [.int .u64 (H : Int)] from rfl]
                    rw [hpl] at hown1
                    exact hown1)
                  have hgA : (Value.slice (some ⟨gg, 0, none⟩) (k + 1) cap2).ownBlock ≠ some wa.heap.size := (by
                    rcases hat with e | rfl
                    · have := hne gg e; simp [Value.ownBlock]; omega
                    · simp [Value.ownBlock]; omega)
                  have hO5 := own_at hO4 ((At.refl wa.heap.size w2).put 2 (.slice (some ⟨gg, 0, none⟩) (k + 1) cap2)) hgA
                  have hA5 := hA2.put_ 2 (.slice (some ⟨gg, 0, none⟩) (k + 1) cap2)
                  have hF1 : Far wd.heap.size wa.heap.size wd w1 := (hF.trans (Far.below ob (by omega))).trans (Far.below hb' (by have := ob.size; omega))
                  have hF2 : Far wd.heap.size wa.heap.size w1 w2 := fun j h1 h2 => (hgrow.block j (by have := ob1.size; have := hb'.size; omega) (fun e => by have := hne j e.symm; omega)).trans (ob1.block j (by have := hb'.size; omega))
                  have hF3 := (hF1.trans hF2).trans (Far.set (i := 2) (u := .slice (some ⟨gg, 0, none⟩) (k + 1) cap2) w2)
                  have hB1 : Below w.heap.size w w1 := (hB.trans (ob.mono hB.size)).trans (hb'.mono (by have := hB.size; have := ob.size; omega))
                  have hB2 : Below w.heap.size w w2 := (hB1.trans (ob1.mono hB1.size)).grown hgrow (by have := hB1.size; have := ob1.size; omega) (fun j e => by have := hne j e; omega)
                  have hB3 : Below w.heap.size w (w2.setCell ⟨wa.heap.size, 2, none⟩ (.slice (some ⟨gg, 0, none⟩) (k + 1) cap2)) := hB2.setCell (by dsimp only; omega) _
                  have hz9 : wd.heap.size ≤ (w2.setCell ⟨wa.heap.size, 2, none⟩ (.slice (some ⟨gg, 0, none⟩) (k + 1) cap2)).heap.size := (by have h1 : (w1.alloc (.cells #[.int .u64 (H : Int)] 139)).heap.size ≤ w2.heap.size := hgrow.size; have h2 := ob1.size; have h3 := hb'.size; have h4 : (w2.setCell ⟨wa.heap.size, 2, none⟩ (.slice (some ⟨gg, 0, none⟩) (k + 1) cap2)).heap.size = w2.heap.size := (by simp [World.setCell]); omega)
                  rw [← hpi] at hO5
                  clear hgrow hown1 hat hA2 hF1 hF2 hB1 hB2 hF hB hA1 hO1 hOp hAp hO4
                  go_wp2
                  exact ⟨⟨k + 1, _, rfl, hlt, hO5, by simpa using hA5, hF3, hB3, hz9⟩, by simp [intOf]; omega⟩)
              · have g1 : decide ((k : Int) < (ps.length : Int)) = false := by simp; omega
                have e : (hold l b 2).take k = hold l b 2 := List.take_of_length_le (by rw [hp]; simp; omega)
                rw [e] at hO
                have hNr := Far.has hNd hF (by omega) hn1
                have hRr := Far.has hRd hF (by omega) hn2
                have hTr := Far.rd tl hTd hF (fun g e => by have := hTu g e; omega)
                have hUn := Own.rd ul hO
                have hUb : UB wa.heap.size wr x := Own.ub hO (by omega)
                have hu0r := Far.rd ul hu0d hF hb0d.apt
                have hb0r := hb0d.up hz
                have hu1r := Far.rd ul hu1d hF hb1d.apt
                have hb1r := hb1d.up hz
                clear hTd hNd hRd hF hSd hC3
                go_wp2
                exact ⟨⟨.inr (.inr (.inr (⟨rfl, _, _, _, hA, hu0r, hb0r, hu1r, hb1r, hUn, hUb⟩))), hNr, hRr, hB, hTr, by omega⟩, by simp [intOf]⟩
      · have hu0' := hu0
        have hu1' := hu1
        have hu2' := hu2
        obtain ⟨qa, ca, rfl, -⟩ := hu0'
        obtain ⟨qb, cb, rfl, -⟩ := hu1'
        obtain ⟨qc, cc, rfl, -⟩ := hu2'
        have a0 := hA.read 0
        have a1 := hA.read 1
        have a2 := hA.read 2
        have r0 := hR.read 0
        have r1 := hR.read 1
        have r2 := hR.read 2
        simp only [List.getElem?_toArray, List.getElem?_cons_zero, List.getElem?_cons_succ] at a0 a1 a2 r0 r1 r2
        have f0 := hR.open_ 0
        have f1 := hR.open_ 1
        have f2 := hR.open_ 2
        have hfar : ∀ u v x, Far wr.heap.size (w.heap.size + 1) wr (((wr.setCell ⟨w.heap.size + 1, 0, none⟩ u).setCell ⟨w.heap.size + 1, 1, none⟩ v).setCell ⟨w.heap.size + 1, 2, none⟩ x) := fun u v x => ((Far.set wr).trans (Far.set _)).trans (Far.set _)
        have hb : ∀ u v x, Below w.heap.size w (((wr.setCell ⟨w.heap.size + 1, 0, none⟩ u).setCell ⟨w.heap.size + 1, 1, none⟩ v).setCell ⟨w.heap.size + 1, 2, none⟩ x) := fun u v x => ((hB.setCell (by dsimp only; omega) _).setCell (by dsimp only; omega) _).setCell (by dsimp only; omega) _
        have m0 := fun u v x => Far.rd ul hu0 (hfar u v x) (fun g e => by have := hb0 g e; omega)
        have m1 := fun u v x => Far.rd ul hu1 (hfar u v x) (fun g e => by have := hb1 g e; omega)
        have m2 := fun u v x => Far.rd ul hu2 (hfar u v x) (fun g e => by have := hb2 g e; omega)
        clear hA hR hfar hN hT hCt
        go_wp2
        refine bodyPost_ret (v := .agg #[.slice qa (hold l b 0).length ca, .slice qb (hold l b 1).length cb, .slice qc (hold l b 2).length cc]) (by simp [results, Try.results98, go_sem, r0, r1, r2, f0, f1, f2, a0, a1, a2]) rfl ?_
        exact ⟨_, _, _, rfl, m0 _ _ _, m1 _ _ _, m2 _ _ _, hb _ _ _⟩
end Go.Proofs.Ytkgaahmehmbfjaa
namespace Go.Proofs.Ytkgaahmehmbfjaa
open Go.ChangeShapes Go.WideShapes Go.ChangeAt Go.RowKit
set_option linter.unusedVariables false
set_option linter.unusedSimpArgs false

def cov3 (A B C : List Nat) : Bool := A.all fun x => B.all fun y => C.all fun z => (x &&& y &&& z) != 0
def covB (l : List Bx) (b : Bx) : Bool := cov3 (hold l b 0) (hold l b 1) (hold l b 2)
theorem hold_small (l : List Bx) (b : Bx) (i : Nat) (hl : l.length ≤ 40) : ∀ n ∈ hold l b i, n < 18446744073709551616 := by
  intro n hn
  obtain ⟨p, -, rfl⟩ := List.mem_map.1 hn
  exact hmk_small _ _ (by simp [sds]; exact hl)
theorem hold_len (l : List Bx) (b : Bx) (i : Nat) (hl : l.length ≤ 40) : (hold l b i).length ≤ 82 := by
  have := cutS_len (b.side i).1 (b.side i).2 (sds l i)
  simp [hold, sds] at *
  omega
theorem all_next {α : Type} {l : List α} {f : α → Bool} {k : Nat} (h : k < l.length) (ha : (l.take k).all f = true) (hf : f l[k] = true) : (l.take (k + 1)).all f = true := by
  rw [List.take_succ_eq_append_getElem h, List.all_append, ha]; simp [hf]
theorem all_not {α : Type} {l : List α} {f : α → Bool} {k : Nat} (h : k < l.length) (hf : f l[k] = false) : l.all f = false := List.all_eq_false.2 ⟨_, List.getElem_mem h, by simp [hf]⟩
set_option maxHeartbeats 8000000 in
set_option maxRecDepth 100000 in
theorem covers_any (p : Option Addr) (l : List Bx) (cap : Nat) (b : Bx) (w : World) (hS : Sl w p l) (hl : l.length ≤ 40) :
    Calls Try.prog 73 #[.slice p l.length cap, b.val] w fun e w' => e = .returned (.bool (covB l b)) ∧ Below w.heap.size w w' := by
  have hh := fun W h => holders_any p l cap b W h hl
  have hS1 := hS.on (al1 w (.cells #[.int .i64 b.a, .int .i64 b.b, .int .i64 b.c, .int .i64 b.d, .int .i64 b.e, .int .i64 b.f] 30))
  have hB0 := al1 w (.cells #[.int .i64 b.a, .int .i64 b.b, .int .i64 b.c, .int .i64 b.d, .int .i64 b.e, .int .i64 b.f] 30)
  unfold covB
  have n0 := hold_small l b 0 hl
  have n1 := hold_small l b 1 hl
  have n2 := hold_small l b 2 hl
  have m0 := hold_len l b 0 hl
  have m1 := hold_len l b 1 hl
  have m2 := hold_len l b 2 hl
  obtain ⟨RES, hRES⟩ : ∃ R, R = cov3 (hold l b 0) (hold l b 1) (hold l b 2) := ⟨_, rfl⟩
  rw [← hRES]
  have HR := Lib.hid hRES
  clear hRES
  generalize hold l b 0 = A at *
  generalize hold l b 1 = B at *
  generalize hold l b 2 = C at *
  unfold Bx.val at *
  go_enter Try.func73, Try.ntmps73
  go_wp2_with (go_at_call 98; (with_reducible refine (hh _ hS1).mono ?_); rintro X w1 ⟨v0, v1, v2, rfl, hA, hB, hC, hb⟩; obtain ⟨qa, ca, rfl, kA⟩ := hA.u; obtain ⟨qb, cb, rfl, kB⟩ := hB.u; obtain ⟨qc, cc, rfl, kC⟩ := hC.u)
  have hN := Has.new_ w1 137 #[.slice qa A.length ca, .slice qb B.length cb, .slice qc C.length cc]
  have hB2 := al (belows hB0 hb) (.cells #[.slice qa A.length ca, .slice qb B.length cb, .slice qc C.length cc] 137)
  have ob := al1 w1 (.cells #[.slice qa A.length ca, .slice qb B.length cb, .slice qc C.length cc] 137)
  generalize hW : w1.alloc (.cells #[.slice qa A.length ca, .slice qb B.length cb, .slice qc C.length cc] 137) = W at *
  have a0 := hN.read 0
  have a1 := hN.read 1
  have a2 := hN.read 2
  simp only [List.getElem?_toArray, List.getElem?_cons_zero, List.getElem?_cons_succ] at a0 a1 a2
  clear hA
  have hA : ∀ k (h : k < A.length), ∃ g, qa = some ⟨g, 0, none⟩ ∧ W.cell? ⟨g, k, none⟩ = some (.int .u64 (A[k] : Nat)) := fun k h => by
    obtain ⟨g, e, c⟩ := kA k h; exact ⟨g, e, cell_later ob c⟩
  clear hB
  have hB : ∀ k (h : k < B.length), ∃ g, qb = some ⟨g, 0, none⟩ ∧ W.cell? ⟨g, k, none⟩ = some (.int .u64 (B[k] : Nat)) := fun k h => by
    obtain ⟨g, e, c⟩ := kB k h; exact ⟨g, e, cell_later ob c⟩
  clear hC
  have hC : ∀ k (h : k < C.length), ∃ g, qc = some ⟨g, 0, none⟩ ∧ W.cell? ⟨g, k, none⟩ = some (.int .u64 (C[k] : Nat)) := fun k h => by
    obtain ⟨g, e, c⟩ := kC k h; exact ⟨g, e, cell_later ob c⟩
  clear hN hS1 hS hh hB0 ob hW
  go_wp2
  go_loopw [18] (fun v wr => ∃ i : Nat, v = .int .i64 (i : Int) ∧ i ≤ A.length ∧ Hid ((A.take i).all (fun x => B.all fun y => C.all fun z => (x &&& y &&& z) != 0) = true) ∧ W = wr) (fun v _ => A.length - (intOf v).toNat)
  case atStart => exact ⟨0, rfl, Nat.zero_le _, Lib.hid rfl, rfl⟩
  case round =>
    obtain ⟨i, rfl, hi, hH, rfl⟩ := hrel
    by_cases li : i < A.length
    · have g1 : decide ((i : Int) < (A.length : Int)) = true := by simp [li]
      obtain ⟨ga, rfl, ea⟩ := hA i li
      have W1 : IntKind.i64.wrap ((i : Int) + 1) = ((i + 1 : Nat) : Int) := by rw [IntWalk.i64_in _ (by omega)]; omega
      have x1 := n0 _ (List.getElem_mem li)
      go_wp2
      go_loopw [25] (fun v wr => ∃ j : Nat, v = .int .i64 (j : Int) ∧ j ≤ B.length ∧ Hid ((B.take j).all (fun y => C.all fun z => (A[i] &&& y &&& z) != 0) = true) ∧ W = wr) (fun v _ => B.length - (intOf v).toNat)
      case atStart => exact ⟨0, rfl, Nat.zero_le _, Lib.hid rfl, rfl⟩
      case round =>
        obtain ⟨j, rfl, hj, hJ, rfl⟩ := hrel
        by_cases lj : j < B.length
        · have g2 : decide ((j : Int) < (B.length : Int)) = true := by simp [lj]
          obtain ⟨gb, rfl, eb⟩ := hB j lj
          have W2 : IntKind.i64.wrap ((j : Int) + 1) = ((j + 1 : Nat) : Int) := by rw [IntWalk.i64_in _ (by omega)]; omega
          have x2 := n1 _ (List.getElem_mem lj)
          have xa : A[i] &&& B[j] < 18446744073709551616 := Nat.lt_of_le_of_lt Nat.and_le_left x1
          have X1 := bits_and_u64_nat A[i] B[j] x1 x2
          go_wp2
          go_loopw [32] (fun v wr => ∃ k : Nat, v = .int .i64 (k : Int) ∧ k ≤ C.length ∧ Hid ((C.take k).all (fun z => (A[i] &&& B[j] &&& z) != 0) = true) ∧ W = wr) (fun v _ => C.length - (intOf v).toNat)
          case atStart => exact ⟨0, rfl, Nat.zero_le _, Lib.hid rfl, rfl⟩
          case round =>
            obtain ⟨k, rfl, hk, hK, rfl⟩ := hrel
            by_cases lk : k < C.length
            · have g3 : decide ((k : Int) < (C.length : Int)) = true := by simp [lk]
              obtain ⟨gc, rfl, ec⟩ := hC k lk
              have W3 : IntKind.i64.wrap ((k : Int) + 1) = ((k + 1 : Nat) : Int) := by rw [IntWalk.i64_in _ (by omega)]; omega
              have x3 := n2 _ (List.getElem_mem lk)
              have X2 := bits_and_u64_nat (A[i] &&& B[j]) C[k] xa x3
              by_cases hz : A[i] &&& B[j] &&& C[k] = 0
              · have e : RES = false := by
                  rw [HR.out]
                  exact all_not li (all_not lj (all_not lk (by simp [hz])))
                subst e
                rw [hz] at X2
                go_wp2
                go_ret
                exact ⟨rfl, hB2⟩
              · have hz1 : ¬ ((A[i] &&& B[j] &&& C[k] : Nat) : Int) = 0 := by omega
                have hz2 : (((A[i] &&& B[j] &&& C[k] : Nat) : Int) == 0) = false := beq_eq_false_iff_ne.2 hz1
                have hz3 : decide (((A[i] &&& B[j] &&& C[k] : Nat) : Int) = 0) = false := by simp only [decide_eq_false_iff_not]; exact hz1
                go_wp2
                exact ⟨⟨k + 1, rfl, lk, Lib.hid (all_next lk hK.out (by simp [hz])), trivial⟩, by simp [intOf]; omega⟩
            · have g3 : decide ((k : Int) < (C.length : Int)) = false := by simp; omega
              have hf := hK.out
              rw [List.take_of_length_le (by omega)] at hf
              go_wp2
              exact ⟨⟨j + 1, rfl, lj, Lib.hid (all_next lj hJ.out hf), trivial⟩, by simp [intOf]; omega⟩
        · have g2 : decide ((j : Int) < (B.length : Int)) = false := by simp; omega
          have hf := hJ.out
          rw [List.take_of_length_le (by omega)] at hf
          go_wp2
          exact ⟨⟨i + 1, rfl, li, Lib.hid (all_next li hH.out hf), trivial⟩, by simp [intOf]; omega⟩
    · have g1 : decide ((i : Int) < (A.length : Int)) = false := by simp; omega
      have hf := hH.out
      rw [List.take_of_length_le (by omega)] at hf
      have e : RES = true := by rw [HR.out]; exact hf
      subst e
      go_wp2
      go_ret
      exact ⟨rfl, hB2⟩
end Go.Proofs.Ytkgaahmehmbfjaa
namespace Go.Proofs.Ytkgaahmehmbfjaa
open Go.ChangeShapes Go.WideShapes Go.ChangeAt Go.RowKit
set_option linter.unusedVariables false
set_option linter.unusedSimpArgs false

set_option maxRecDepth 100000 in
theorem Covers_arg (p : Option Addr) (l : List Bx) (cap : Nat) (b : Bx) (w : World) (hS : Sl w p l) (h : b.ok = false ∨ l.all Bx.ok = false) :
    Calls Try.prog 47 #[.slice p l.length cap, b.val] w fun e w' => e = .returned (.tuple #[.bool false, .int .i64 1]) ∧ Below w.heap.size w w' := by
  have hh := fun W => valid_any b.a b.b b.c b.d b.e b.f W
  have hS1 := hS.on (al1 w (.cells #[.int .i64 b.a, .int .i64 b.b, .int .i64 b.c, .int .i64 b.d, .int .i64 b.e, .int .i64 b.f] 30))
  have hB0 := al1 w (.cells #[.int .i64 b.a, .int .i64 b.b, .int .i64 b.c, .int .i64 b.d, .int .i64 b.e, .int .i64 b.f] 30)
  have hm := hS.2.2
  unfold maxLen at hm
  have hN := (Has.new_ w 30 #[.int .i64 b.a, .int .i64 b.b, .int .i64 b.c, .int .i64 b.d, .int .i64 b.e, .int .i64 b.f]).cells6
  unfold Bx.val
  cases hv : b.ok
  · unfold Bx.ok at hv
    rw [hv] at hh
    go_enter Try.func47, Try.ntmps47
    go_wp2_with (first
    | (go_at_call 46; (with_reducible refine (hh _).mono ?_); rintro X w1 ⟨rfl, hb⟩; have hS2 := hS1.on hb; have hB1 := belows hB0 hb; have hN1 := ((Has.new_ w 30 #[.int .i64 b.a, .int .i64 b.b, .int .i64 b.c, .int .i64 b.d, .int .i64 b.e, .int .i64 b.f]).on hb).cells6)
    | (go_at_call 69; (with_reducible refine (allvalid_any p l cap _ hS2).mono ?_); rintro X w2 ⟨rfl, hb2⟩; have hS3 := hS2.on hb2; have hB2 := belows hB1 hb2; have hN2 := (((Has.new_ w 30 #[.int .i64 b.a, .int .i64 b.b, .int .i64 b.c, .int .i64 b.d, .int .i64 b.e, .int .i64 b.f]).on hb).on hb2).cells6)
    | (go_at_call 73; refine (covers_any p l cap b _ hS3 hl).mono ?_; rintro X w3 ⟨rfl, hb3⟩))
    refine bodyPost_ret (v := .tuple #[.bool false, .int .i64 1]) (by simp [results, Try.results47, go_sem]) rfl ⟨rfl, hB1⟩
  · have hl : l.all Bx.ok = false := by rcases h with h | h; rw [hv] at h; cases h; exact h
    unfold Bx.ok at hv
    rw [hv] at hh
    have h49 := fun W h => allvalid_any p l cap W h
    rw [hl] at h49
    go_enter Try.func47, Try.ntmps47
    go_wp2_with (first
    | (go_at_call 46; (with_reducible refine (hh _).mono ?_); rintro X w1 ⟨rfl, hb⟩; have hS2 := hS1.on hb; have hB1 := belows hB0 hb; have hN1 := ((Has.new_ w 30 #[.int .i64 b.a, .int .i64 b.b, .int .i64 b.c, .int .i64 b.d, .int .i64 b.e, .int .i64 b.f]).on hb).cells6)
    | (go_at_call 69; (with_reducible refine (h49 _ hS2).mono ?_); rintro X w2 ⟨rfl, hb2⟩; have hS3 := hS2.on hb2; have hB2 := belows hB1 hb2; have hN2 := (((Has.new_ w 30 #[.int .i64 b.a, .int .i64 b.b, .int .i64 b.c, .int .i64 b.d, .int .i64 b.e, .int .i64 b.f]).on hb).on hb2).cells6)
    | (go_at_call 73; refine (covers_any p l cap b _ hS3 hl).mono ?_; rintro X w3 ⟨rfl, hb3⟩))
    refine bodyPost_ret (v := .tuple #[.bool false, .int .i64 1]) (by simp [results, Try.results47, go_sem]) rfl ⟨rfl, hB2⟩
set_option maxRecDepth 100000 in
theorem Covers_full (p : Option Addr) (l : List Bx) (cap : Nat) (b : Bx) (w : World) (hS : Sl w p l) (hv : b.ok = true) (hl : l.all Bx.ok = true) (h40 : 40 < l.length) :
    Calls Try.prog 47 #[.slice p l.length cap, b.val] w fun e w' => e = .returned (.tuple #[.bool false, .int .i64 4]) ∧ Below w.heap.size w w' := by
  have hh := fun W => valid_any b.a b.b b.c b.d b.e b.f W
  have hS1 := hS.on (al1 w (.cells #[.int .i64 b.a, .int .i64 b.b, .int .i64 b.c, .int .i64 b.d, .int .i64 b.e, .int .i64 b.f] 30))
  have hB0 := al1 w (.cells #[.int .i64 b.a, .int .i64 b.b, .int .i64 b.c, .int .i64 b.d, .int .i64 b.e, .int .i64 b.f] 30)
  have hm := hS.2.2
  unfold maxLen at hm
  have hN := (Has.new_ w 30 #[.int .i64 b.a, .int .i64 b.b, .int .i64 b.c, .int .i64 b.d, .int .i64 b.e, .int .i64 b.f]).cells6
  unfold Bx.val
  unfold Bx.ok at hv
  rw [hv] at hh
  have h49 := fun W h => allvalid_any p l cap W h
  rw [hl] at h49
  have g : decide ((40 : Int) < (l.length : Int)) = true := by simp; omega
  go_enter Try.func47, Try.ntmps47
  go_wp2_with (first
    | (go_at_call 46; (with_reducible refine (hh _).mono ?_); rintro X w1 ⟨rfl, hb⟩; have hS2 := hS1.on hb; have hB1 := belows hB0 hb; have hN1 := ((Has.new_ w 30 #[.int .i64 b.a, .int .i64 b.b, .int .i64 b.c, .int .i64 b.d, .int .i64 b.e, .int .i64 b.f]).on hb).cells6)
    | (go_at_call 69; (with_reducible refine (h49 _ hS2).mono ?_); rintro X w2 ⟨rfl, hb2⟩; have hS3 := hS2.on hb2; have hB2 := belows hB1 hb2; have hN2 := (((Has.new_ w 30 #[.int .i64 b.a, .int .i64 b.b, .int .i64 b.c, .int .i64 b.d, .int .i64 b.e, .int .i64 b.f]).on hb).on hb2).cells6)
    | (go_at_call 73; refine (covers_any p l cap b _ hS3 hl).mono ?_; rintro X w3 ⟨rfl, hb3⟩))
  refine bodyPost_ret (v := .tuple #[.bool false, .int .i64 4]) (by simp [results, Try.results47, go_sem]) rfl ⟨rfl, hB2⟩
set_option maxRecDepth 100000 in
theorem Covers_ok (p : Option Addr) (l : List Bx) (cap : Nat) (b : Bx) (w : World) (hS : Sl w p l) (hv : b.ok = true) (hl' : l.all Bx.ok = true) (hl : l.length ≤ 40) :
    Calls Try.prog 47 #[.slice p l.length cap, b.val] w fun e w' => e = .returned (.tuple #[.bool (covB l b), .int .i64 0]) ∧ Below w.heap.size w w' := by
  have hh := fun W => valid_any b.a b.b b.c b.d b.e b.f W
  have hS1 := hS.on (al1 w (.cells #[.int .i64 b.a, .int .i64 b.b, .int .i64 b.c, .int .i64 b.d, .int .i64 b.e, .int .i64 b.f] 30))
  have hB0 := al1 w (.cells #[.int .i64 b.a, .int .i64 b.b, .int .i64 b.c, .int .i64 b.d, .int .i64 b.e, .int .i64 b.f] 30)
  have hm := hS.2.2
  unfold maxLen at hm
  have hN := (Has.new_ w 30 #[.int .i64 b.a, .int .i64 b.b, .int .i64 b.c, .int .i64 b.d, .int .i64 b.e, .int .i64 b.f]).cells6
  have h56 := fun W h => covers_any p l cap b W h hl
  unfold Bx.val at *
  unfold Bx.ok at hv
  rw [hv] at hh
  have h49 := fun W h => allvalid_any p l cap W h
  rw [hl'] at h49
  have g : decide ((40 : Int) < (l.length : Int)) = false := by simp; omega
  go_enter Try.func47, Try.ntmps47
  go_wp2_with (first
    | (go_at_call 46; (with_reducible refine (hh _).mono ?_); rintro X w1 ⟨rfl, hb⟩; have hS2 := hS1.on hb; have hB1 := belows hB0 hb; have hN1 := ((Has.new_ w 30 #[.int .i64 b.a, .int .i64 b.b, .int .i64 b.c, .int .i64 b.d, .int .i64 b.e, .int .i64 b.f]).on hb).cells6)
    | (go_at_call 69; (with_reducible refine (h49 _ hS2).mono ?_); rintro X w2 ⟨rfl, hb2⟩; have hS3 := hS2.on hb2; have hB2 := belows hB1 hb2; have hN2 := (((Has.new_ w 30 #[.int .i64 b.a, .int .i64 b.b, .int .i64 b.c, .int .i64 b.d, .int .i64 b.e, .int .i64 b.f]).on hb).on hb2).cells6)
    | (go_at_call 73; (with_reducible refine (h56 _ hS3).mono ?_); rintro X w3 ⟨rfl, hb3⟩))
  refine bodyPost_ret (v := .tuple #[.bool (covB l b), .int .i64 0]) (by simp [results, Try.results47, go_sem]) rfl ⟨rfl, belows hB2 hb3⟩
def xA : Bx := ⟨0, 0, 0, 10, 10, 10⟩
def xB : Bx := ⟨13, 14, 5, 20, 20, 20⟩
def xC : Bx := ⟨0, 0, 0, 4, 10, 10⟩
def xD : Bx := ⟨4, 0, 0, 11, 10, 10⟩
theorem ex_cov : covB [xC, xD] xA = true := by
  have s1 : ([0, 10, 4, 4] : List Int).mergeSort (fun x y => decide (x ≤ y)) = [0, 4, 4, 10] := by simp [List.mergeSort, List.MergeSort.Internal.splitInTwo, List.merge]
  have s2 : ([0, 10] : List Int).mergeSort (fun x y => decide (x ≤ y)) = [0, 10] := by simp [List.mergeSort, List.MergeSort.Internal.splitInTwo, List.merge]
  have e0 : ends 0 10 [(0, 4), (4, 11)] = [0, 10, 4, 4] := by decide
  have e1 : ends 0 10 [(0, 10), (0, 10)] = [0, 10] := by decide
  have h0 : hold [xC, xD] xA 0 = [1, 2] := by
    simp only [hold, sds, Bx.side, xA, xC, xD, List.map_cons, List.map_nil, cutS, srt, e0, s1]
    decide
  have h1 : hold [xC, xD] xA 1 = [3] := by
    simp only [hold, sds, Bx.side, xA, xC, xD, List.map_cons, List.map_nil, cutS, srt, e1, s2]
    decide
  have h2 : hold [xC, xD] xA 2 = [3] := by
    simp only [hold, sds, Bx.side, xA, xC, xD, List.map_cons, List.map_nil, cutS, srt, e1, s2]
    decide
  unfold covB
  rw [h0, h1, h2]
  decide
end Go.Proofs.Ytkgaahmehmbfjaa
