/- Images. -/
import Derived.Test.YtmfclelnaceonaaB
import Derived.Test.YtmfclelnaceonaaPl3
namespace Go.Proofs.Ytmfclelnaceonaa
open Go.ChangeShapes Go.WideShapes Go.ChangeAt Go.RowKit
set_option linter.unusedVariables false
set_option linter.unusedSimpArgs false

theorem U_bd {n : Int} (h : axB n = true) : (U n).bd 1 := by
  rcases ax_or h with rfl | rfl | rfl | rfl | rfl | rfl <;> (unfold Pt.bd; decide)
theorem cr_bd {p q : Pt} (h1 : p.bd 1) (h2 : q.bd 1) : (cr p q).bd 2 := by
  obtain ⟨ha, hb, hc⟩ := h1
  obtain ⟨hx, hy, hz⟩ := h2
  have m0 := mulb hb hz
  have m1 := mulb hc hy
  have m2 := mulb hc hx
  have m3 := mulb ha hz
  have m4 := mulb ha hy
  have m5 := mulb hb hx
  unfold Pt.bd cr
  dsimp only
  omega
theorem sc_bd {p : Pt} {n A B : Int} (h : p.bd A) (hn : -B ≤ n ∧ n ≤ B) : (sc p n).bd (A * B) := by
  obtain ⟨ha, hb, hc⟩ := h
  exact ⟨mulb ha hn, mulb hb hn, mulb hc hn⟩
theorem bd_mono {p : Pt} {A B : Int} (h : p.bd A) (hAB : A ≤ B) : p.bd B := by unfold Pt.bd at *; omega
theorem bd_ok {p : Pt} {A : Int} (h : p.bd A) (hA : A ≤ 1000000000000) : I64 p.x ∧ I64 p.y ∧ I64 p.z := by unfold Pt.bd at h; unfold I64; omega
theorem vT_ax {t : Tn} (h : vT t = true) : axB t.x = true ∧ axB t.y = true := by
  simp only [vT, Bool.and_eq_true] at h
  exact h.1.1
theorem s_im {w0 w : World} {g h k : Nat} {a b c d e f : Value} {cs : Array Value} (E : Env w0 w [⟨k, 37, #[d, e, f]⟩, ⟨h, 37, #[a, b, c]⟩, ⟨g, 23, cs⟩]) : Env w0 w [⟨k, 37, #[d, e, f]⟩, ⟨h, 37, #[a, b, c]⟩, ⟨g, 23, cs⟩] := E
theorem s_i1 {w0 w : World} {g : Nat} {x y : Value} {l : List Fb} {b c : Fb} (E : Env w0 w (b :: c :: ⟨g, 23, #[x, y]⟩ :: l)) : Env w0 w (b :: c :: ⟨g, 23, #[x, y]⟩ :: l) ∧ w.cell? ⟨g, 0, none⟩ = some x ∧ w.cell? ⟨g, 1, none⟩ = some y := by
  have C := E.cells
  simp [BC, CF] at C
  exact ⟨E, C.2.2.1.2.1.1, C.2.2.1.2.2.1⟩
theorem s_i2 {w0 w : World} {g1 g2 g4 : Nat} {a0 a1 a2 b0 b1 b2 d0 d1 d2 : Value} {c : Fb} {l : List Fb} (E : Env w0 w (⟨g1, 37, #[a0, a1, a2]⟩ :: ⟨g2, 37, #[b0, b1, b2]⟩ :: c :: ⟨g4, 37, #[d0, d1, d2]⟩ :: l)) : Env w0 w (⟨g1, 37, #[a0, a1, a2]⟩ :: ⟨g2, 37, #[b0, b1, b2]⟩ :: c :: ⟨g4, 37, #[d0, d1, d2]⟩ :: l) ∧
    w.cell? ⟨g1, 0, none⟩ = some a0 ∧ w.cell? ⟨g1, 1, none⟩ = some a1 ∧ w.cell? ⟨g1, 2, none⟩ = some a2 ∧ w.cell? ⟨g2, 0, none⟩ = some b0 ∧ w.cell? ⟨g2, 1, none⟩ = some b1 ∧ w.cell? ⟨g2, 2, none⟩ = some b2 ∧ w.cell? ⟨g4, 0, none⟩ = some d0 ∧ w.cell? ⟨g4, 1, none⟩ = some d1 ∧ w.cell? ⟨g4, 2, none⟩ = some d2 := by
  have C := E.cells
  simp [BC, CF] at C
  exact ⟨E, C.1.2.1.1, C.1.2.2.1.1, C.1.2.2.2.1, C.2.1.2.1.1, C.2.1.2.2.1.1, C.2.1.2.2.2.1, C.2.2.2.1.2.1.1, C.2.2.2.1.2.2.1.1, C.2.2.2.1.2.2.2.1⟩
set_option maxHeartbeats 8000000 in
set_option maxRecDepth 100000 in
theorem image_44 (t : Tn) (p : Pt) (w : World) (ht : vT t = true) (hp : p.bd 4194304) : Calls Try.prog 44 #[t.val, p.val] w fun e w' => e = .returned (img t p).val ∧ Below w.heap.size w w' := by
  obtain ⟨hx, hy⟩ := vT_ax ht
  have hu := fun W => unit_58 t.x hx W
  have hv := fun W => unit_58 t.y hy W
  have bu := U_bd hx
  have bv := U_bd hy
  have bc := cr_bd bu bv
  obtain ⟨⟨u0, u1, u2⟩, eu⟩ : ∃ q, Hid (U t.x = q) := ⟨_, Lib.hid rfl⟩
  obtain ⟨⟨v0, v1, v2⟩, ev⟩ : ∃ q, Hid (U t.y = q) := ⟨_, Lib.hid rfl⟩
  have HI : Hid (img t p = sm [sc (U t.x) p.x, sc (U t.y) p.y, sc (cr (U t.x) (U t.y)) p.z]) := Lib.hid (by simp [sm, img, ad])
  rw [eu.out, ev.out] at HI
  rw [eu.out] at hu bu bc
  rw [ev.out] at hv bv bc
  rw [HI.out]
  obtain ⟨p, q, r⟩ := p
  obtain ⟨x, y⟩ := t
  clear HI eu ev ht hx hy
  dsimp only [Tn.val, Pt.val, Pt.bd] at hp hu hv ⊢
  obtain ⟨hp0, hp1, hp2⟩ := hp
  have k1 := sc_bd bu (n := p) (B := 4194304) hp0
  have k2 := sc_bd bv (n := q) (B := 4194304) hp1
  have k3 := sc_bd bc (n := r) (B := 4194304) hp2
  have o1 := bd_ok k1 (by decide)
  have o2 := bd_ok k2 (by decide)
  have o3 := bd_ok k3 (by decide)
  have h1 := fun W => times_59 u0 u1 u2 p o1.1 o1.2.1 o1.2.2 W
  have h2 := fun W => times_59 v0 v1 v2 q o2.1 o2.2.1 o2.2.2 W
  have h3 := fun W => cross_60 u0 u1 u2 v0 v1 v2 bu bv W
  have h4 := fun W => times_59 (u1 * v2 - u2 * v1) (u2 * v0 - u0 * v2) (u0 * v1 - u1 * v0) r o3.1 o3.2.1 o3.2.2 W
  have hs := fun g W (hS : Sl W (some ⟨g, 0, none⟩) [sc ⟨u0, u1, u2⟩ p, sc ⟨v0, v1, v2⟩ q, sc (cr ⟨u0, u1, u2⟩ ⟨v0, v1, v2⟩) r]) => sum_any (some ⟨g, 0, none⟩) _ 3 W hS (by
    simp only [List.mem_cons, List.not_mem_nil, or_false, forall_eq_or_imp, forall_eq]
    exact ⟨bd_mono k1 (by decide), bd_mono k2 (by decide), bd_mono k3 (by decide)⟩) (Nat.le_refl 3)
  have HL : Hid (pcells [sc ⟨u0, u1, u2⟩ p, sc ⟨v0, v1, v2⟩ q, sc (cr ⟨u0, u1, u2⟩ ⟨v0, v1, v2⟩) r] = [.int .i64 (u0 * p), .int .i64 (u1 * p), .int .i64 (u2 * p), .int .i64 (v0 * q), .int .i64 (v1 * q), .int .i64 (v2 * q), .int .i64 ((u1 * v2 - u2 * v1) * r), .int .i64 ((u2 * v0 - u0 * v2) * r), .int .i64 ((u0 * v1 - u1 * v0) * r)]) := Lib.hid rfl
  simp only [List.length_cons, List.length_nil, Nat.zero_add, Nat.reduceAdd] at hs
  obtain ⟨L, hL⟩ : ∃ L, L = [sc ⟨u0, u1, u2⟩ p, sc ⟨v0, v1, v2⟩ q, sc (cr ⟨u0, u1, u2⟩ ⟨v0, v1, v2⟩) r] := ⟨_, rfl⟩
  rw [← hL] at hs HL ⊢
  have hLl : Hid (L.length ≤ maxLen) := Lib.hid (by rw [hL]; show 3 ≤ maxLen; decide)
  clear hL k1 k2 k3 o1 o2 o3 bu bv bc hp0 hp1 hp2
  obtain ⟨⟨t0, t1, t2⟩, et⟩ : ∃ q, Hid (sm L = q) := ⟨_, Lib.hid rfl⟩
  rw [et.out] at hs ⊢
  clear et
  unfold pv Pt.val at *
  have E := (((Env.nil w).add w.heap.size 23 #[.int .i64 x, .int .i64 y] rfl).add (w.heap.size + 1) 37 #[.int .i64 p, .int .i64 q, .int .i64 r] (by simp)).add (w.heap.size + 2) 37 #[.int .i64 0, .int .i64 0, .int .i64 0] (by simp)
  have C := E.cells
  simp [BC, CF] at C
  go_enter Try.func44, Try.ntmps44
  go_upto_region 1 with fail
  refine wp_region_free 8 [(0, true), (1, true), (3, true), (4, true), (2, false), (5, false)] [6, 7] (fun _ => (37, #[.int .i64 0, .int .i64 0, .int .i64 0])) (w.heap.size + 3) (fun W' => Env w W' [⟨w.heap.size + 2, 37, #[.int .i64 0, .int .i64 0, .int .i64 0]⟩, ⟨w.heap.size + 1, 37, #[.int .i64 p, .int .i64 q, .int .i64 r]⟩, ⟨w.heap.size, 23, #[.int .i64 x, .int .i64 y]⟩] ∧ W'.cell? ⟨w.heap.size, 0, none⟩ = some (.int .i64 x) ∧ W'.cell? ⟨w.heap.size, 1, none⟩ = some (.int .i64 y)) (by kernel_rfl) (by kernel_rfl) (fun _ _ d _ _ => by cases d <;> exact Iff.rfl) (by
      simp only [List.mem_cons, List.not_mem_nil, or_false, forall_eq_or_imp, forall_eq]
      refine ⟨?_, ?_⟩ <;> (intro o ho; cases ho; exact ⟨fun _ => rfl, fun a w => by first | rfl | (simp [go_sem]; done) | (go_simp; rfl)⟩)) (fun W1 W2 h hb => s_i1 ((h.1).on hb)) (fun W h => h.1.lt 0 (by simp)) (s_i1 E.drw) ?_
  simp only [List.filterMap_cons, List.filterMap_nil, List.getElem?_cons_zero, List.getElem?_cons_succ, Option.map_some, List.drop_succ_cons, List.drop_zero]
  iterate 4 (first | (refine wpFree_still (v := ?_) (Or.inl ⟨by rfl, ?_⟩) ?_; rotate_left; (focus (intro W hW; (try dsimp only at hW); go_split_ands; go_simp; try with_reducible rfl)); try simp only [Act.put, List.setIfInBounds_toArray, List.set_cons_zero, List.set_cons_succ]) | (refine wpFree_still (Or.inr ⟨by rfl, rfl⟩) ?_; try simp only [Act.put, List.setIfInBounds_toArray, List.set_cons_zero, List.set_cons_succ]))
  refine wpFree_only (fun W hS K hK => ?_)
  try go_simp
  (go_at_call 58; (with_reducible refine (hu W).mono ?_); rintro X wq ⟨rfl, hb⟩)
  refine hK.out _ _ hb ?_
  clear hb hS hK K
  try simp only [Act.put, List.setIfInBounds_toArray, List.set_cons_zero, List.set_cons_succ]
  refine wpFree_only (fun W hS K hK => ?_)
  try go_simp
  (go_at_call 58; (with_reducible refine (hv W).mono ?_); rintro X wq ⟨rfl, hb⟩)
  refine hK.out _ _ hb ?_
  clear hb hS hK K
  try simp only [Act.put, List.setIfInBounds_toArray, List.set_cons_zero, List.set_cons_succ]
  refine wpFree_end (fun G W hG hS hL => ?_)
  obtain ⟨gx, gy, eG1, eG2, hN1, hN2, hNe⟩ := hL.two hG (by decide)
  simp only [putA, eG1, eG2, List.getElem?_toArray, List.getElem?_cons_succ, List.getElem?_cons_zero]
  clear eG1 eG2 hL hG G
  try simp only [Act.put, List.setIfInBounds_toArray, List.set_cons_zero, List.set_cons_succ]
  replace E := hS.1.glue2 (B := w.heap.size + 3) (by omega) (by simp) hN1 hN2 hNe
  clear hS hN1 hN2
  have hNe2 : gy ≠ gx := Ne.symm hNe
  replace C := E.cells
  simp [BC, CF] at C
  go_upto_region 2 with fail
  replace E := (E.three (.int .i64 u0) (.int .i64 u1) (.int .i64 u2) 0 rfl).three (.int .i64 v0) (.int .i64 v1) (.int .i64 v2) 1 rfl
  replace E : Env w ((((((W.setCell ⟨gx, 0, none⟩ (.int .i64 u0)).setCell ⟨gx, 1, none⟩ (.int .i64 u1)).setCell ⟨gx, 2, none⟩ (.int .i64 u2)).setCell ⟨gy, 0, none⟩ (.int .i64 v0)).setCell ⟨gy, 1, none⟩ (.int .i64 v1)).setCell ⟨gy, 2, none⟩ (.int .i64 v2)) [⟨gx, 37, #[.int .i64 u0, .int .i64 u1, .int .i64 u2]⟩, ⟨gy, 37, #[.int .i64 v0, .int .i64 v1, .int .i64 v2]⟩, ⟨w.heap.size + 2, 37, #[.int .i64 0, .int .i64 0, .int .i64 0]⟩, ⟨w.heap.size + 1, 37, #[.int .i64 p, .int .i64 q, .int .i64 r]⟩, ⟨w.heap.size, 23, #[.int .i64 x, .int .i64 y]⟩] := E
  generalize ((((((W.setCell ⟨gx, 0, none⟩ (.int .i64 u0)).setCell ⟨gx, 1, none⟩ (.int .i64 u1)).setCell ⟨gx, 2, none⟩ (.int .i64 u2)).setCell ⟨gy, 0, none⟩ (.int .i64 v0)).setCell ⟨gy, 1, none⟩ (.int .i64 v1)).setCell ⟨gy, 2, none⟩ (.int .i64 v2)) = w2 at *
  refine wp_region_plan 16 [(0, true), (1, true), (2, true), (4, true), (5, true), (6, true), (8, true), (9, true), (11, true), (12, true), (3, false), (7, false), (10, false), (13, false), (14, false), (15, false)] (fun W' => Env w W' [⟨gx, 37, #[.int .i64 u0, .int .i64 u1, .int .i64 u2]⟩, ⟨gy, 37, #[.int .i64 v0, .int .i64 v1, .int .i64 v2]⟩, ⟨w.heap.size + 2, 37, #[.int .i64 0, .int .i64 0, .int .i64 0]⟩, ⟨w.heap.size + 1, 37, #[.int .i64 p, .int .i64 q, .int .i64 r]⟩, ⟨w.heap.size, 23, #[.int .i64 x, .int .i64 y]⟩] ∧ W'.cell? ⟨gx, 0, none⟩ = some (.int .i64 u0) ∧ W'.cell? ⟨gx, 1, none⟩ = some (.int .i64 u1) ∧ W'.cell? ⟨gx, 2, none⟩ = some (.int .i64 u2) ∧ W'.cell? ⟨gy, 0, none⟩ = some (.int .i64 v0) ∧ W'.cell? ⟨gy, 1, none⟩ = some (.int .i64 v1) ∧ W'.cell? ⟨gy, 2, none⟩ = some (.int .i64 v2) ∧ W'.cell? ⟨w.heap.size + 1, 0, none⟩ = some (.int .i64 p) ∧ W'.cell? ⟨w.heap.size + 1, 1, none⟩ = some (.int .i64 q) ∧ W'.cell? ⟨w.heap.size + 1, 2, none⟩ = some (.int .i64 r)) (by kernel_rfl) (by kernel_rfl) (fun _ _ d _ _ h => by cases d <;> exact h) (s_i2 E.drw) ?_
  simp only [List.filterMap_cons, List.filterMap_nil, List.getElem?_cons_zero, List.getElem?_cons_succ, Option.map_some, List.drop_succ_cons, List.drop_zero]
  replace E := E.drw
  iterate 10 (first | (refine wpPlan_still (v := ?_) (Or.inl ⟨by rfl, ?_⟩) ?_; rotate_left; (focus (intro W hW; (try dsimp only at hW); go_split_ands; go_simp; try with_reducible rfl)); try simp only [Act.put, List.setIfInBounds_toArray, List.set_cons_zero, List.set_cons_succ]) | (refine wpPlan_still (Or.inr ⟨by rfl, rfl⟩) ?_; try simp only [Act.put, List.setIfInBounds_toArray, List.set_cons_zero, List.set_cons_succ]))
  refine wpPlan_only (fun K hK => ?_)
  try go_simp
  (go_at_call 59; (with_reducible refine (h1 _).mono ?_); rintro X wq ⟨rfl, hb⟩)
  replace E := E.on hb
  clear hb
  refine hK.out _ _ (s_i2 E) ?_
  clear hK K
  try simp only [Act.put, List.setIfInBounds_toArray, List.set_cons_zero, List.set_cons_succ]
  refine wpPlan_only (fun K hK => ?_)
  try go_simp
  (go_at_call 59; (with_reducible refine (h2 _).mono ?_); rintro X wq ⟨rfl, hb⟩)
  replace E := E.on hb
  clear hb
  refine hK.out _ _ (s_i2 E) ?_
  clear hK K
  try simp only [Act.put, List.setIfInBounds_toArray, List.set_cons_zero, List.set_cons_succ]
  refine wpPlan_only (fun K hK => ?_)
  try go_simp
  (go_at_call 60; (with_reducible refine (h3 _).mono ?_); rintro X wq ⟨rfl, hb⟩)
  replace E := E.on hb
  clear hb
  refine hK.out _ _ (s_i2 E) ?_
  clear hK K
  try simp only [Act.put, List.setIfInBounds_toArray, List.set_cons_zero, List.set_cons_succ]
  refine wpPlan_only (fun K hK => ?_)
  try go_simp
  (go_at_call 59; (with_reducible refine (h4 _).mono ?_); rintro X wq ⟨rfl, hb⟩)
  replace E := E.on hb
  clear hb
  refine hK.out _ _ (s_i2 E) ?_
  clear hK K
  try simp only [Act.put, List.setIfInBounds_toArray, List.set_cons_zero, List.set_cons_succ]
  refine wpPlan_only (fun K hK => ?_)
  try go_simp
  have EB := E.add _ 37 #[.int .i64 (u0 * p), .int .i64 (u1 * p), .int .i64 (u2 * p), .int .i64 (v0 * q), .int .i64 (v1 * q), .int .i64 (v2 * q), .int .i64 ((u1 * v2 - u2 * v1) * r), .int .i64 ((u2 * v0 - u0 * v2) * r), .int .i64 ((u0 * v1 - u1 * v0) * r)] rfl
  have hSl := Sl.lit L EB.2.2.1 HL.out.symm hLl.out
  replace E := E.more (.cells #[.int .i64 (u0 * p), .int .i64 (u1 * p), .int .i64 (u2 * p), .int .i64 (v0 * q), .int .i64 (v1 * q), .int .i64 (v2 * q), .int .i64 ((u1 * v2 - u2 * v1) * r), .int .i64 ((u2 * v0 - u0 * v2) * r), .int .i64 ((u0 * v1 - u1 * v0) * r)] 37)
  refine hK.out _ _ (s_i2 E) ?_
  clear hK K
  try simp only [Act.put, List.setIfInBounds_toArray, List.set_cons_zero, List.set_cons_succ]
  refine wpPlan_only (fun K hK => ?_)
  try go_simp
  (go_at_call 46; (with_reducible refine (hs _ _ hSl).mono ?_); rintro X wq ⟨rfl, hb⟩)
  replace E := E.on hb
  clear hb
  refine hK.out _ _ (s_i2 E) ?_
  clear hK K
  try simp only [Act.put, List.setIfInBounds_toArray, List.set_cons_zero, List.set_cons_succ]
  refine wpPlan_end ?_
  replace C := E.cells
  simp [BC, CF] at C
  go_wp2
  exact bodyPost_ret (v := pv t0 t1 t2) (by simp [results, Try.results44, go_sem, pv, *]) rfl ⟨rfl, envb (E.three _ _ _ 2 rfl)⟩
end Go.Proofs.Ytmfclelnaceonaa
