/- Paths of the program and of the reference; FramePaths. -/
import Derived.Test.YtmfclelnaceonaaQ
namespace Go.Proofs.Ytmfclelnaceonaa
open Go.ChangeShapes Go.WideShapes Go.ChangeAt Go.RowKit
set_option linter.unusedVariables false
set_option linter.unusedSimpArgs false

def psL (t : Tn) (at_ : Pt) (l : List Pt) : List Pt := l.map fun x => ad (img t x) at_
theorem ps_step {t : Tn} {at_ : Pt} {l : List Pt} {k : Nat} (hk : k < l.length) : psL t at_ (l.take (k + 1)) = psL t at_ (l.take k) ++ [ad (img t l[k]) at_] := by
  rw [List.take_succ_eq_append_getElem hk, psL, List.map_append]; rfl
theorem own_nil {α : Type} (f : α → List Value) (t : TypeId) (s B : Nat) (w : World) : Own f t s B w (.slice none 0 0) [] := ⟨by simp, .inl ⟨rfl, rfl⟩⟩
theorem sum2_any (P A : Pt) (hP : P.bd 1048576) (hA : A.bd 1048576) (g : Nat) (W : World) (hS : Sl W (some ⟨g, 0, none⟩) [P, A]) : Calls Try.prog 46 #[.slice (some ⟨g, 0, none⟩) 2 2] W fun e w' => e = .returned (ad P A).val ∧ Below W.heap.size W w' := by
  have h := sum_any (some ⟨g, 0, none⟩) [P, A] 2 W hS (by
    simp only [List.mem_cons, List.not_mem_nil, or_false, forall_eq_or_imp, forall_eq]
    exact ⟨bd_mono hP (by decide), bd_mono hA (by decide)⟩) (show 2 ≤ 3 by decide)
  rw [show sm [P, A] = ad P A by simp [sm, ad]] at h
  exact h
theorem s_pa {w0 w : World} {g0 g1 g2 : Nat} {a0_0 a0_1 a0_2 a1_0 a1_1 a1_2 a2_0 a2_1 : Value} (E : Env w0 w (⟨g0, 37, #[a0_0, a0_1, a0_2]⟩ :: ⟨g1, 37, #[a1_0, a1_1, a1_2]⟩ :: ⟨g2, 23, #[a2_0, a2_1]⟩ :: [])) : Env w0 w (⟨g0, 37, #[a0_0, a0_1, a0_2]⟩ :: ⟨g1, 37, #[a1_0, a1_1, a1_2]⟩ :: ⟨g2, 23, #[a2_0, a2_1]⟩ :: []) ∧ w.cell? ⟨g0, 0, none⟩ = some a0_0 ∧ w.cell? ⟨g0, 1, none⟩ = some a0_1 ∧ w.cell? ⟨g0, 2, none⟩ = some a0_2 ∧ w.cell? ⟨g1, 0, none⟩ = some a1_0 ∧ w.cell? ⟨g1, 1, none⟩ = some a1_1 ∧ w.cell? ⟨g1, 2, none⟩ = some a1_2 ∧ w.cell? ⟨g2, 0, none⟩ = some a2_0 ∧ w.cell? ⟨g2, 1, none⟩ = some a2_1 := by
  have C := E.cells
  simp [BC, CF] at C
  exact ⟨E, C.1.2.1.1, C.1.2.2.1.1, C.1.2.2.2.1, C.2.1.2.1.1, C.2.1.2.2.1.1, C.2.1.2.2.2.1, C.2.2.2.1.1, C.2.2.2.2.1⟩
theorem s_pb {w0 w : World} {g0 g1 : Nat} {a0_0 a0_1 a0_2 a1_0 a1_1 : Value} (E : Env w0 w (⟨g0, 37, #[a0_0, a0_1, a0_2]⟩ :: ⟨g1, 23, #[a1_0, a1_1]⟩ :: [])) : Env w0 w (⟨g0, 37, #[a0_0, a0_1, a0_2]⟩ :: ⟨g1, 23, #[a1_0, a1_1]⟩ :: []) ∧ w.cell? ⟨g0, 0, none⟩ = some a0_0 ∧ w.cell? ⟨g0, 1, none⟩ = some a0_1 ∧ w.cell? ⟨g0, 2, none⟩ = some a0_2 ∧ w.cell? ⟨g1, 0, none⟩ = some a1_0 ∧ w.cell? ⟨g1, 1, none⟩ = some a1_1 := by
  have C := E.cells
  simp [BC, CF] at C
  exact ⟨E, C.1.2.1.1, C.1.2.2.1.1, C.1.2.2.2.1, C.2.2.1.1, C.2.2.2.1⟩
set_option maxHeartbeats 8000000 in
set_option maxRecDepth 100000 in
theorem Path_ok (t : Tn) (at_ : Pt) (p : Option Addr) (l : List Pt) (cap : Nat) (w : World) (hS : Sl w p l) (ht : vT t = true) (hl : l.length ≤ 1000) (hn : nearB at_ = true) (ha : l.all nearB = true) :
    Calls Try.prog 25 #[t.val, at_.val, .slice p l.length cap] w fun e w' => ∃ v, e = .returned (.tuple #[v, .int .i64 0]) ∧ Own pc 37 3 w.heap.size w' v (psL t at_ l) ∧ Below w.heap.size w w' := by
  have h1 := fun W => valid_11 t W
  have f1 := fun W => far_43 at_ W
  have hc := fun W (h : Below w.heap.size w W) => con_43 p l cap W (hS.on h)
  have HI := Lib.hid (fun x (hx : x ∈ l) W => image_44 t x W ht (bd_mono (nearB_bd (List.all_eq_true.1 ha x hx)) (by decide)))
  have HB := Lib.hid (fun x (hx : x ∈ l) => img_bd ht (nearB_bd (List.all_eq_true.1 ha x hx)))
  rw [ht] at h1
  rw [hn] at f1
  rw [ha] at hc
  have HA := Lib.hid (nearB_bd hn)
  have HS := Lib.hid hS
  have HP := Lib.hid (fun k (hk : k < l.length) => ps_step (t := t) (at_ := at_) hk)
  have H0 : Hid (psL t at_ (l.take 0) = []) := Lib.hid rfl
  have HN : Hid (psL t at_ (l.take l.length) = psL t at_ l) := Lib.hid (by rw [List.take_length])
  have HL := Lib.hid (fun k => show (psL t at_ (l.take k)).length ≤ k by rw [psL, List.length_map, List.length_take]; exact Nat.min_le_left _ _)
  have HL2 := Lib.hid (fun k (hk : k ≤ l.length) => show (psL t at_ (l.take k)).length = k by rw [psL, List.length_map, List.length_take]; omega)
  rw [← HN.out]
  clear ht hn ha hS HN
  obtain ⟨PS, hPS⟩ : ∃ PS : Nat → List Pt, PS = fun k => psL t at_ (l.take k) := ⟨_, rfl⟩
  have HPS : ∀ k, psL t at_ (l.take k) = PS k := fun k => by rw [hPS]
  simp only [HPS] at HP H0 HL HL2 ⊢
  clear HPS hPS
  obtain ⟨n, hn⟩ : ∃ n, Hid (l.length = n) := ⟨_, Lib.hid rfl⟩
  rw [hn.out] at hl hc ⊢
  obtain ⟨i0, hinf, hz0, hz1, hz2⟩ := info_parts info37
  obtain ⟨im, hm⟩ : ∃ im : Pt → Pt, im = img t := ⟨_, rfl⟩
  rw [← hm] at HI HB HP
  clear hm
  obtain ⟨x, y⟩ := t
  obtain ⟨p0, p1, p2⟩ := at_
  unfold Tn.val Pt.val at *
  dsimp only at *
  have W9 : decide ((n : Int) > 1000) = false := by simp; omega
  have W8 : decide (1000 < (n : Int)) = false := by simp; omega
  have E := ((Env.nil w).add (w.heap.size) 23 #[.int .i64 x, .int .i64 y] rfl).add (w.heap.size + 1) 37 #[.int .i64 p0, .int .i64 p1, .int .i64 p2] (by simp)
  have C := E.cells
  simp [BC, CF] at C
  go_enter Try.func25, Try.ntmps25
  go_wp2_with (first
    | (go_at_call 11; (with_reducible refine (h1 _).mono ?_); rintro X wq ⟨rfl, hb⟩; replace E := E.on hb; replace C := E.cells; simp [BC, CF] at C; clear hb)
    | (go_at_call 43; (with_reducible refine (f1 _).mono ?_); rintro X wq ⟨rfl, hb⟩; replace E := E.on hb; replace C := E.cells; simp [BC, CF] at C; clear hb)
    | (go_at_call 53; (with_reducible refine (hc _ (envb E)).mono ?_); rintro X wq ⟨rfl, hb⟩; replace E := E.on hb; replace C := E.cells; simp [BC, CF] at C; clear hb))
  go_loopw [8, 28] (fun v8 v28 wr => ∃ (k : Nat) (F : Value), v28 = .int .i64 k ∧ F = v8 ∧ k ≤ n ∧ Env w wr [⟨w.heap.size + 1, 37, #[.int .i64 p0, .int .i64 p1, .int .i64 p2]⟩, ⟨w.heap.size, 23, #[.int .i64 x, .int .i64 y]⟩] ∧ Own pc 37 3 (w.heap.size + 2) wr F (PS k)) (fun _ v _ => n - (intOf v).toNat)
  case atStart => exact ⟨0, _, rfl, rfl, Nat.zero_le _, E, by rw [H0.out]; exact own_nil _ _ _ _ _⟩
  case round =>
    clear E C
    obtain ⟨k, F, rfl, rfl, hk, E, hO⟩ := hrel
    by_cases hlt : k < n
    · have hkl : k < l.length := by rw [hn.out]; exact hlt
      have g1 : decide ((k : Int) < (n : Int)) = true := by simp [hlt]
      have W1 : IntKind.i64.wrap ((k : Int) + 1) = ((k + 1 : Nat) : Int) := by rw [IntWalk.i64_in _ (by omega)]; omega
      have q1 : (0 : Int) ≤ (k : Int) := by omega
      have q2 : (k : Int) < (n : Int) := by omega
      obtain ⟨a, rfl, c0, c1, c2⟩ := (HS.out.on E.1).at hkl
      have hm := List.getElem_mem hkl
      have hi := HI.out _ hm
      have hbd := HB.out _ hm
      have hp := Lib.hid (HP.out k hkl)
      have hol := HL2.out k (by rw [hn.out]; exact hk)
      generalize l[k] = el at *
      generalize im el = U at *
      obtain ⟨x0, x1, x2⟩ := el
      obtain ⟨u0, u1, u2⟩ := U
      have hs := fun g W hS => sum2_any ⟨u0, u1, u2⟩ ⟨p0, p1, p2⟩ hbd HA.out g W hS
      unfold Pt.val at hs
      simp only [ad] at hp hs
      dsimp only at *
      clear hm hbd
      generalize PS k = O at *
      have hsz := E.1.size
      have hs1 := E.lt 0 (by simp)
      simp only [numB] at hs1
      go_upto_region 11 with fail
      replace hO := own_on hO (al1 wr (.cells #[.int .i64 x0, .int .i64 x1, .int .i64 x2] 37))
      replace E := E.add wr.heap.size 37 #[.int .i64 x0, .int .i64 x1, .int .i64 x2] rfl
      clear c0 c1 c2
      refine wp_region_plan 8 [(0, true), (1, true), (2, true), (4, true), (3, false), (5, false), (6, false), (7, false)] (fun W' => Env w W' [⟨wr.heap.size, 37, #[.int .i64 x0, .int .i64 x1, .int .i64 x2]⟩, ⟨w.heap.size + 1, 37, #[.int .i64 p0, .int .i64 p1, .int .i64 p2]⟩, ⟨w.heap.size, 23, #[.int .i64 x, .int .i64 y]⟩] ∧ W'.cell? ⟨wr.heap.size, 0, none⟩ = some (.int .i64 x0) ∧ W'.cell? ⟨wr.heap.size, 1, none⟩ = some (.int .i64 x1) ∧ W'.cell? ⟨wr.heap.size, 2, none⟩ = some (.int .i64 x2) ∧ W'.cell? ⟨w.heap.size + 1, 0, none⟩ = some (.int .i64 p0) ∧ W'.cell? ⟨w.heap.size + 1, 1, none⟩ = some (.int .i64 p1) ∧ W'.cell? ⟨w.heap.size + 1, 2, none⟩ = some (.int .i64 p2) ∧ W'.cell? ⟨w.heap.size, 0, none⟩ = some (.int .i64 x) ∧ W'.cell? ⟨w.heap.size, 1, none⟩ = some (.int .i64 y)) (by kernel_rfl) (by kernel_rfl) (fun _ _ d _ _ h => by cases d <;> exact h) (s_pa E.drw) ?_
      simp only [List.filterMap_cons, List.filterMap_nil, List.getElem?_cons_zero, List.getElem?_cons_succ, Option.map_some, List.drop_succ_cons, List.drop_zero]
      replace E := E.drw
      replace hO := own_on hO (below_dr (Below.refl _ _))
      iterate 4 (first | (refine wpPlan_still (v := ?_) (Or.inl ⟨by rfl, ?_⟩) ?_; rotate_left; (focus (intro W hW; (try dsimp only at hW); go_split_ands; go_simp; try with_reducible rfl)); try simp only [Act.put, List.setIfInBounds_toArray, List.set_cons_zero, List.set_cons_succ]) | (refine wpPlan_still (Or.inr ⟨by rfl, rfl⟩) ?_; try simp only [Act.put, List.setIfInBounds_toArray, List.set_cons_zero, List.set_cons_succ]))
      refine wpPlan_only (fun K hK => ?_)
      try go_simp
      (go_at_call 44; (with_reducible refine (hi _).mono ?_); rintro X wq ⟨rfl, hb⟩)
      replace E := E.on hb
      replace hO := own_on hO hb
      clear hb
      refine hK.out _ _ (s_pa E) ?_
      clear hK K
      try simp only [Act.put, List.setIfInBounds_toArray, List.set_cons_zero, List.set_cons_succ]
      refine wpPlan_only (fun K hK => ?_)
      try go_simp
      have hSl := Sl.lit [⟨u0, u1, u2⟩, ⟨p0, p1, p2⟩] (Has.new_ wq 37 #[.int .i64 u0, .int .i64 u1, .int .i64 u2, .int .i64 p0, .int .i64 p1, .int .i64 p2]) rfl (show 2 ≤ maxLen by decide)
      replace E := E.more (.cells #[.int .i64 u0, .int .i64 u1, .int .i64 u2, .int .i64 p0, .int .i64 p1, .int .i64 p2] 37)
      replace hO := own_on hO (al1 wq (.cells #[.int .i64 u0, .int .i64 u1, .int .i64 u2, .int .i64 p0, .int .i64 p1, .int .i64 p2] 37))
      refine hK.out _ _ (s_pa E) ?_
      clear hK K
      try simp only [Act.put, List.setIfInBounds_toArray, List.set_cons_zero, List.set_cons_succ]
      refine wpPlan_only (fun K hK => ?_)
      try go_simp
      (go_at_call 46; (with_reducible refine (hs _ _ hSl).mono ?_); rintro X wq ⟨rfl, hb⟩)
      replace E := E.on hb
      replace hO := own_on hO hb
      clear hb hSl
      refine hK.out _ _ (s_pa E) ?_
      clear hK K
      try simp only [Act.put, List.setIfInBounds_toArray, List.set_cons_zero, List.set_cons_succ]
      refine wpPlan_only (fun K hK => ?_)
      try go_simp
      have hN := Has.new_ wq 37 #[.int .i64 (u0 + p0), .int .i64 (u1 + p1), .int .i64 (u2 + p2)]
      replace E := E.more (.cells #[.int .i64 (u0 + p0), .int .i64 (u1 + p1), .int .i64 (u2 + p2)] 37)
      replace hO := own_on hO (al1 wq (.cells #[.int .i64 (u0 + p0), .int .i64 (u1 + p1), .int .i64 (u2 + p2)] 37))
      refine hK.out _ _ (s_pa E) ?_
      clear hK K
      try simp only [Act.put, List.setIfInBounds_toArray, List.set_cons_zero, List.set_cons_succ]
      refine wpPlan_end ?_
      replace E := E.tail
      have hsz9 := E.lt 0 (by simp)
      simp [numB] at hsz9
      go_wp2_with go_loud (at_builtin; refine wpList_append_own_at _ rfl _ _ 49 rfl (w.heap.size + 2) 37 i0 _ 3 24 Try.underlying49 hinf hz0 hz1 hz2 rfl (by decide) _ O.length (O.flatMap pc) rfl hO ⟨_, 0, none⟩ 1 1 [.int .i64 (u0 + p0), .int .i64 (u1 + p1), .int .i64 (u2 + p2)] rfl rfl (World.news_of_block (cs := #[.int .i64 (u0 + p0), .int .i64 (u1 + p1), .int .i64 (u2 + p2)]) (t := 37) (fr := (0, 0)) hN) (by simp [Value.oneCell']) (by unfold maxLen; omega) (by omega) (by simp; omega) ?_)
      intro v' w6 p1_ p2_ p3_ p4_
      have O5 : Own pc 37 3 (w.heap.size + 2) w6 v' (O ++ [⟨u0 + p0, u1 + p1, u2 + p2⟩]) := own_snoc (by rw [hol]; exact p1_)
      have E5 := env_grown E p2_ (fun k hk => by
        have := (World.ownsRow.lt hO k hk).1
        intro y hy
        simp only [List.mem_cons, List.not_mem_nil, or_false] at hy
        rcases hy with rfl | rfl <;> (dsimp only; omega)) (fun k hk => by have := (World.ownsRow.lt hO k hk).1; omega)
      clear p1_ p2_ p3_ p4_ hO E
      try simp only [Act.put, List.setIfInBounds_toArray, List.set_cons_zero, List.set_cons_succ]
      go_wp2
      exact ⟨⟨k + 1, _, rfl, rfl, hlt, E5, by rw [hp.out]; exact O5⟩, by simp [intOf]; omega⟩
    · have hkn : k = n := by omega
      subst hkn
      have g1 : decide ((k : Int) < (k : Int)) = false := by simp
      go_wp2
      exact bodyPost_ret (v := .tuple #[F, .int .i64 0]) (by simp [results, Try.results25, go_sem]) rfl ⟨_, rfl, Own.mono hO (by omega), envb E⟩
set_option maxHeartbeats 8000000 in
set_option maxRecDepth 100000 in
theorem Path_arg (t : Tn) (at_ : Pt) (p : Option Addr) (l : List Pt) (cap : Nat) (w : World) (hS : Sl w p l) (ht : vT t = false) :
    Calls Try.prog 25 #[t.val, at_.val, .slice p l.length cap] w fun e w' => ∃ v, e = .returned (.tuple #[v, .int .i64 1]) ∧ Own pc 37 3 w.heap.size w' v [] ∧ Below w.heap.size w w' := by
  have h1 := fun W => valid_11 t W
  rw [ht] at h1
  clear ht hS
  generalize l.length = n at *
  obtain ⟨x, y⟩ := t
  obtain ⟨p0, p1, p2⟩ := at_
  unfold Tn.val Pt.val at *
  dsimp only at *
  have E := ((Env.nil w).add (w.heap.size) 23 #[.int .i64 x, .int .i64 y] rfl).add (w.heap.size + 1) 37 #[.int .i64 p0, .int .i64 p1, .int .i64 p2] (by simp)
  have C := E.cells
  simp [BC, CF] at C
  go_enter Try.func25, Try.ntmps25
  go_wp2_with (first
    | (go_at_call 11; (with_reducible refine (h1 _).mono ?_); rintro X wq ⟨rfl, hb⟩; replace E := E.on hb; replace C := E.cells; simp [BC, CF] at C; clear hb))
  exact bodyPost_ret (v := .tuple #[.slice none 0 0, .int .i64 1]) (by simp [results, Try.results25, go_sem]) rfl ⟨_, rfl, own_nil _ _ _ _ _, envb E⟩
set_option maxHeartbeats 8000000 in
set_option maxRecDepth 100000 in
theorem Path_full (t : Tn) (at_ : Pt) (p : Option Addr) (l : List Pt) (cap : Nat) (w : World) (hS : Sl w p l) (ht : vT t = true) (hl : 1000 < l.length) :
    Calls Try.prog 25 #[t.val, at_.val, .slice p l.length cap] w fun e w' => ∃ v, e = .returned (.tuple #[v, .int .i64 4]) ∧ Own pc 37 3 w.heap.size w' v [] ∧ Below w.heap.size w w' := by
  have h1 := fun W => valid_11 t W
  rw [ht] at h1
  have W9 : decide ((l.length : Int) > 1000) = true := by simp; omega
  have W8 : decide (1000 < (l.length : Int)) = true := by simp; omega
  clear ht hl hS
  generalize l.length = n at *
  obtain ⟨x, y⟩ := t
  obtain ⟨p0, p1, p2⟩ := at_
  unfold Tn.val Pt.val at *
  dsimp only at *
  have E := ((Env.nil w).add (w.heap.size) 23 #[.int .i64 x, .int .i64 y] rfl).add (w.heap.size + 1) 37 #[.int .i64 p0, .int .i64 p1, .int .i64 p2] (by simp)
  have C := E.cells
  simp [BC, CF] at C
  go_enter Try.func25, Try.ntmps25
  go_wp2_with (first
    | (go_at_call 11; (with_reducible refine (h1 _).mono ?_); rintro X wq ⟨rfl, hb⟩; replace E := E.on hb; replace C := E.cells; simp [BC, CF] at C; clear hb))
  exact bodyPost_ret (v := .tuple #[.slice none 0 0, .int .i64 4]) (by simp [results, Try.results25, go_sem]) rfl ⟨_, rfl, own_nil _ _ _ _ _, envb E⟩
set_option maxHeartbeats 8000000 in
set_option maxRecDepth 100000 in
theorem Path_far (t : Tn) (at_ : Pt) (p : Option Addr) (l : List Pt) (cap : Nat) (w : World) (hS : Sl w p l) (ht : vT t = true) (hl : l.length ≤ 1000) (hn : nearB at_ = false) :
    Calls Try.prog 25 #[t.val, at_.val, .slice p l.length cap] w fun e w' => ∃ v, e = .returned (.tuple #[v, .int .i64 2]) ∧ Own pc 37 3 w.heap.size w' v [] ∧ Below w.heap.size w w' := by
  have h1 := fun W => valid_11 t W
  have f1 := fun W => far_43 at_ W
  rw [ht] at h1
  rw [hn] at f1
  have W9 : decide ((l.length : Int) > 1000) = false := by simp; omega
  have W8 : decide (1000 < (l.length : Int)) = false := by simp; omega
  clear ht hl hn hS
  generalize l.length = n at *
  obtain ⟨x, y⟩ := t
  obtain ⟨p0, p1, p2⟩ := at_
  unfold Tn.val Pt.val at *
  dsimp only at *
  have E := ((Env.nil w).add (w.heap.size) 23 #[.int .i64 x, .int .i64 y] rfl).add (w.heap.size + 1) 37 #[.int .i64 p0, .int .i64 p1, .int .i64 p2] (by simp)
  have C := E.cells
  simp [BC, CF] at C
  go_enter Try.func25, Try.ntmps25
  go_wp2_with (first
    | (go_at_call 11; (with_reducible refine (h1 _).mono ?_); rintro X wq ⟨rfl, hb⟩; replace E := E.on hb; replace C := E.cells; simp [BC, CF] at C; clear hb)
    | (go_at_call 43; (with_reducible refine (f1 _).mono ?_); rintro X wq ⟨rfl, hb⟩; replace E := E.on hb; replace C := E.cells; simp [BC, CF] at C; clear hb))
  exact bodyPost_ret (v := .tuple #[.slice none 0 0, .int .i64 2]) (by simp [results, Try.results25, go_sem]) rfl ⟨_, rfl, own_nil _ _ _ _ _, envb E⟩
set_option maxHeartbeats 8000000 in
set_option maxRecDepth 100000 in
theorem rPath_arg (t : Tn) (at_ : Pt) (p : Option Addr) (l : List Pt) (cap : Nat) (w : World) (hS : Sl w p l) (ht : vT t = false) :
    Calls Try.prog 26 #[t.val, at_.val, .slice p l.length cap] w fun e w' => ∃ v, e = .returned (.tuple #[v, .int .i64 1]) ∧ Own pc 37 3 w.heap.size w' v [] ∧ Below w.heap.size w w' := by
  have h1 := fun W => valid_12 t W
  rw [ht] at h1
  clear ht hS
  generalize l.length = n at *
  obtain ⟨x, y⟩ := t
  obtain ⟨p0, p1, p2⟩ := at_
  unfold Tn.val Pt.val at *
  dsimp only at *
  have E := ((Env.nil w).add (w.heap.size) 23 #[.int .i64 x, .int .i64 y] rfl).add (w.heap.size + 1) 37 #[.int .i64 p0, .int .i64 p1, .int .i64 p2] (by simp)
  have C := E.cells
  simp [BC, CF] at C
  go_enter Try.func26, Try.ntmps26
  go_wp2_with (first
    | (go_at_call 12; (with_reducible refine (h1 _).mono ?_); rintro X wq ⟨rfl, hb⟩; replace E := E.on hb; replace C := E.cells; simp [BC, CF] at C; clear hb))
  exact bodyPost_ret (v := .tuple #[.slice none 0 0, .int .i64 1]) (by simp [results, Try.results26, go_sem]) rfl ⟨_, rfl, own_nil _ _ _ _ _, envb E⟩
set_option maxHeartbeats 8000000 in
set_option maxRecDepth 100000 in
theorem rPath_full (t : Tn) (at_ : Pt) (p : Option Addr) (l : List Pt) (cap : Nat) (w : World) (hS : Sl w p l) (ht : vT t = true) (hl : 1000 < l.length) :
    Calls Try.prog 26 #[t.val, at_.val, .slice p l.length cap] w fun e w' => ∃ v, e = .returned (.tuple #[v, .int .i64 4]) ∧ Own pc 37 3 w.heap.size w' v [] ∧ Below w.heap.size w w' := by
  have h1 := fun W => valid_12 t W
  rw [ht] at h1
  have W9 : decide ((l.length : Int) > 1000) = true := by simp; omega
  have W8 : decide (1000 < (l.length : Int)) = true := by simp; omega
  clear ht hl hS
  generalize l.length = n at *
  obtain ⟨x, y⟩ := t
  obtain ⟨p0, p1, p2⟩ := at_
  unfold Tn.val Pt.val at *
  dsimp only at *
  have E := ((Env.nil w).add (w.heap.size) 23 #[.int .i64 x, .int .i64 y] rfl).add (w.heap.size + 1) 37 #[.int .i64 p0, .int .i64 p1, .int .i64 p2] (by simp)
  have C := E.cells
  simp [BC, CF] at C
  go_enter Try.func26, Try.ntmps26
  go_wp2_with (first
    | (go_at_call 12; (with_reducible refine (h1 _).mono ?_); rintro X wq ⟨rfl, hb⟩; replace E := E.on hb; replace C := E.cells; simp [BC, CF] at C; clear hb))
  exact bodyPost_ret (v := .tuple #[.slice none 0 0, .int .i64 4]) (by simp [results, Try.results26, go_sem]) rfl ⟨_, rfl, own_nil _ _ _ _ _, envb E⟩
set_option maxHeartbeats 8000000 in
set_option maxRecDepth 100000 in
theorem rPath_far (t : Tn) (at_ : Pt) (p : Option Addr) (l : List Pt) (cap : Nat) (w : World) (hS : Sl w p l) (ht : vT t = true) (hl : l.length ≤ 1000) (hn : nearB at_ = false) :
    Calls Try.prog 26 #[t.val, at_.val, .slice p l.length cap] w fun e w' => ∃ v, e = .returned (.tuple #[v, .int .i64 2]) ∧ Own pc 37 3 w.heap.size w' v [] ∧ Below w.heap.size w w' := by
  have h1 := fun W => valid_12 t W
  have f1 := fun W => near_23 at_ W
  rw [ht] at h1
  rw [hn] at f1
  have W9 : decide ((l.length : Int) > 1000) = false := by simp; omega
  have W8 : decide (1000 < (l.length : Int)) = false := by simp; omega
  clear ht hl hn hS
  generalize l.length = n at *
  obtain ⟨x, y⟩ := t
  obtain ⟨p0, p1, p2⟩ := at_
  unfold Tn.val Pt.val at *
  dsimp only at *
  have E := ((Env.nil w).add (w.heap.size) 23 #[.int .i64 x, .int .i64 y] rfl).add (w.heap.size + 1) 37 #[.int .i64 p0, .int .i64 p1, .int .i64 p2] (by simp)
  have C := E.cells
  simp [BC, CF] at C
  go_enter Try.func26, Try.ntmps26
  go_wp2_with (first
    | (go_at_call 12; (with_reducible refine (h1 _).mono ?_); rintro X wq ⟨rfl, hb⟩; replace E := E.on hb; replace C := E.cells; simp [BC, CF] at C; clear hb)
    | (go_at_call 23; (with_reducible refine (f1 _).mono ?_); rintro X wq ⟨rfl, hb⟩; replace E := E.on hb; replace C := E.cells; simp [BC, CF] at C; clear hb))
  exact bodyPost_ret (v := .tuple #[.slice none 0 0, .int .i64 2]) (by simp [results, Try.results26, go_sem]) rfl ⟨_, rfl, own_nil _ _ _ _ _, envb E⟩
set_option maxHeartbeats 8000000 in
set_option maxRecDepth 100000 in
theorem Path_bad (t : Tn) (at_ : Pt) (p : Option Addr) (l : List Pt) (cap : Nat) (w : World) (hS : Sl w p l) (ht : vT t = true) (hl : l.length ≤ 1000) (hn : nearB at_ = true) (ha : l.all nearB = false) :
    Calls Try.prog 25 #[t.val, at_.val, .slice p l.length cap] w fun e w' => ∃ v, e = .returned (.tuple #[v, .int .i64 2]) ∧ Own pc 37 3 w.heap.size w' v [] ∧ Below w.heap.size w w' := by
  have h1 := fun W => valid_11 t W
  have f1 := fun W => far_43 at_ W
  have hc := fun W (h : Below w.heap.size w W) => con_43 p l cap W (hS.on h)
  rw [ht] at h1
  rw [hn] at f1
  rw [ha] at hc
  have W9 : decide ((l.length : Int) > 1000) = false := by simp; omega
  have W8 : decide (1000 < (l.length : Int)) = false := by simp; omega
  clear ht hl hn ha hS
  generalize l.length = n at *
  obtain ⟨x, y⟩ := t
  obtain ⟨p0, p1, p2⟩ := at_
  unfold Tn.val Pt.val at *
  dsimp only at *
  have E := ((Env.nil w).add (w.heap.size) 23 #[.int .i64 x, .int .i64 y] rfl).add (w.heap.size + 1) 37 #[.int .i64 p0, .int .i64 p1, .int .i64 p2] (by simp)
  have C := E.cells
  simp [BC, CF] at C
  go_enter Try.func25, Try.ntmps25
  go_wp2_with (first
    | (go_at_call 11; (with_reducible refine (h1 _).mono ?_); rintro X wq ⟨rfl, hb⟩; replace E := E.on hb; replace C := E.cells; simp [BC, CF] at C; clear hb)
    | (go_at_call 43; (with_reducible refine (f1 _).mono ?_); rintro X wq ⟨rfl, hb⟩; replace E := E.on hb; replace C := E.cells; simp [BC, CF] at C; clear hb)
    | (go_at_call 53; (with_reducible refine (hc _ (envb E)).mono ?_); rintro X wq ⟨rfl, hb⟩; replace E := E.on hb; replace C := E.cells; simp [BC, CF] at C; clear hb))
  exact bodyPost_ret (v := .tuple #[.slice none 0 0, .int .i64 2]) (by simp [results, Try.results25, go_sem]) rfl ⟨_, rfl, own_nil _ _ _ _ _, envb E⟩
end Go.Proofs.Ytmfclelnaceonaa
