/- SolidSlices. -/
import Derived.Test.YtkgaahmehmbfjaaAwk
import Derived.Test.YtkgaahmehmbfjaaRv
import Derived.Test.YtkgaahmehmbfjaaSp
import Derived.Test.YtkgaahmehmbfjaaZ2
namespace Go.Proofs.Ytkgaahmehmbfjaa
open Go.ChangeShapes Go.WideShapes Go.ChangeAt Go.RowKit Go.Maps Go.Shelf
set_option linter.unusedVariables false
set_option linter.unusedSimpArgs false

theorem Env.less {w0 w w1 : World} {B : Nat} : ∀ {l : List Fb}, Env w0 w l → Below B w w1 → w0.heap.size ≤ B → (∀ y ∈ l, y.g < B) → Env w0 w1 l := by
  intro l h hb hB hd
  refine ⟨h.1.trans (hb.mono hB), ?_⟩
  have h2 := h.2
  clear h
  induction l with
  | nil => trivial
  | cons x l ih =>
    refine ⟨h2.1, ?_, h2.2.2.1, ih (fun y hy => hd y (List.mem_cons_of_mem _ hy)) h2.2.2.2⟩
    unfold Has
    rw [hb.block x.g (hd x (List.mem_cons_self ..))]
    exact h2.2.1
theorem pls_app (l h : List Bx) (ax : Nat) : pls (l ++ h) ax = pls l ax ++ pls h ax := by unfold pls; rw [List.flatMap_append]
set_option maxHeartbeats 8000000 in
set_option maxRecDepth 100000 in
theorem slices_skip (p q : Option Addr) (l h : List Bx) (c d : Nat) (w : World) (hS : Sl w p l) (hT : Sl w q h) (cz : p = none → c = 0) (dz : q = none → d = 0) (hv : rgtS l h = false ∨ modS l h = false) :
    Calls Try.prog 5 #[.agg #[.slice p l.length c, .slice q h.length d]] w fun e w' => e = .returned (.bool true) ∧ Below w.heap.size w w' := by
  have awk := fun W => awake_9 W
  have h30 := fun W a b => right_30 p q l h c d W a b
  have E := (Env.nil w).add w.heap.size 24 #[.slice p l.length c, .slice q h.length d] rfl
  have C := E.cells
  simp [BC, CF] at C
  cases hr : rgtS l h
  · simp only [hr] at h30
    go_enter Try.func5, Try.ntmps5
    go_wp2_with (first
      | (go_at_call 9; (with_reducible refine (awk _).mono ?_); rintro X wq ⟨rfl, hb⟩; replace E := E.on hb; replace C := E.cells; simp [BC, CF] at C; clear hb)
      | (go_at_call 30; (with_reducible refine (h30 _ (hS.on (envB E)) (hT.on (envB E))).mono ?_); rintro X wq ⟨rfl, hb⟩; replace E := E.on hb; replace C := E.cells; simp [BC, CF] at C; clear hb))
    go_ret
    exact ⟨rfl, E.1⟩
  · have hm : modS l h = false := by rcases hv with hv | hv
                                     · rw [hr] at hv; cases hv
                                     · exact hv
    have hk := rgtS_i.1 hr
    have h31 := fun W a b => modest_31 p q l h c d W a b (by omega) (by omega) cz dz
    simp only [hr] at h30
    simp only [hm] at h31
    clear hk
    go_enter Try.func5, Try.ntmps5
    go_wp2_with (first
      | (go_at_call 9; (with_reducible refine (awk _).mono ?_); rintro X wq ⟨rfl, hb⟩; replace E := E.on hb; replace C := E.cells; simp [BC, CF] at C; clear hb)
      | (go_at_call 30; (with_reducible refine (h30 _ (hS.on (envB E)) (hT.on (envB E))).mono ?_); rintro X wq ⟨rfl, hb⟩; replace E := E.on hb; replace C := E.cells; simp [BC, CF] at C; clear hb)
      | (go_at_call 31; (with_reducible refine (h31 _ (hS.on (envB E)) (hT.on (envB E))).mono ?_); rintro X wq ⟨rfl, hb⟩; replace E := E.on hb; replace C := E.cells; simp [BC, CF] at C; clear hb))
    go_ret
    exact ⟨rfl, E.1⟩
theorem sl_s21 {w0 w : World} {n m : Nat} {A B v : Value} {cs : Array Value} {a : Addr} (E : Env w0 w [⟨m, 30, cs⟩, ⟨n, 24, #[A, B]⟩]) (h : w.cell? a = some v) : w.cell? ⟨n, 0, none⟩ = some A ∧ w.cell? ⟨n, 1, none⟩ = some B ∧ w.cell? a = some v :=
  ⟨E.2.2.2.2.2.1.read 0, E.2.2.2.2.2.1.read 1, h⟩
set_option maxHeartbeats 8000000 in
set_option maxRecDepth 100000 in
theorem slices_ok (p q : Option Addr) (l h : List Bx) (c d : Nat) (w : World) (hS : Sl w p l) (hT : Sl w q h) (hc : l.length ≤ c) (cz : p = none → c = 0) (dz : q = none → d = 0) (hr : rgtS l h = true) (hm : modS l h = true) :
    Calls Try.prog 5 #[.agg #[.slice p l.length c, .slice q h.length d]] w fun e w' => e = .returned (.bool true) ∧ Below w.heap.size w w' := by
  have awk := fun W => awake_9 W
  have h30 := fun W a b => right_30 p q l h c d W a b
  have E := (Env.nil w).add w.heap.size 24 #[.slice p l.length c, .slice q h.length d] rfl
  have C := E.cells
  simp [BC, CF] at C
  obtain ⟨hl4, hh4, hs⟩ := rgtS_i.1 hr
  have h31 := fun W a b => modest_31 p q l h c d W a b (by omega) (by omega) cz dz
  have h22 : ∀ W, Sl W p l → Sl W q h → Calls Try.prog 22 #[.agg #[.slice p l.length c, .slice q h.length d]] W fun e w' => e = .returned (.tuple #[.int .i64 (volF l h (-65536) 65536), .int .i64 0]) ∧ Below W.heap.size W w' := fun W a b => by
    have := Volume_ok p q l h c d W a b hs
    rw [mod_volR hs hm] at this
    exact this
  have h11 := fun W a b => Hull_yes p q l h c d W a b hs hc
  have h23 : ∀ x, -1048576 ≤ x ∧ x ≤ 1048576 → ∀ W, Sl W p l → Sl W q h → Calls Try.prog 23 #[.agg #[.slice p l.length c, .slice q h.length d], .int .i64 x] W fun e w' => e = .returned (.tuple #[.int .i64 (secF l h (-65536) 65536 x), .int .i64 0]) ∧ Below W.heap.size W w' := fun x hx W a b => by
    have := Section_ok p q l h c d x W a b hs hx
    rw [sec_sum (okS_i.1 hs).1.1 (mod_bd hs hm)] at this
    exact this
  have hc32 := fun g0 W h0 h1 a b => concat_two g0 2 p q l h c d W (by omega) (by omega) cz dz h0 h1 a b
  have hLl : (l ++ h).length ≤ 8 ∧ 1 ≤ (l ++ h).length := by have := (okS_i.1 hs).1.1; rw [List.length_append]; omega
  have hsame := fun s hs' x hx => sec_same (h := h) (okS_i.1 hs).1.1 (mod_bd hs hm) (s := s) (x := x) hs' hx
  have hout := fun x hx => sec_out (l := l) (h := h) (A := -65536) (B := 65536) (x := x) hx
  have hpb := mod_bd hs hm 0
  have hpl := places_len l h 0 (by omega) (by omega)
  have hpp := places_pos l h 0 (okS_i.1 hs).1.1
  have hT0 := secT_zero l h (-65536) 65536
  have hTs : ∀ k (q0 : k < (places l h 0).length) (q1 : k + 1 < (places l h 0).length), secT l h (-65536) 65536 (k + 1) = secT l h (-65536) 65536 k + secF l h (-65536) 65536 (places l h 0)[k] * ((places l h 0)[k + 1] - (places l h 0)[k]) := fun k _ q1 => secT_succ q1
  have hTb := secT_bd hs hm
  have hTa := secT_all (okS_i.1 hs).1.1 (mod_bd hs hm)
  have hsb := fun x => sec_bdF l h (A := -65536) (B := 65536) (by omega) x
  have hmv := mod_vol hs hm
  have hasc : ∀ k (q0 : k < (places l h 0).length) (q1 : k + 1 < (places l h 0).length), (places l h 0)[k] < (places l h 0)[k + 1] ∧ secF l h (-65536) 65536 ((places l h 0)[k + 1] - 1) = secF l h (-65536) 65536 (places l h 0)[k] := fun k q0 q1 => by
    have hm1 : ((places l h 0)[k], (places l h 0)[k + 1]) ∈ prs (places l h 0) := by
      have e := prs_take q1
      have : ((places l h 0)[k], (places l h 0)[k + 1]) ∈ (prs (places l h 0)).take (k + 1) := by rw [e]; simp
      exact List.mem_of_mem_take this
    have h2 := (prs_apart _ (srt_asc (pls l 0 ++ pls h 0)).1 _ hm1).2.1
    refine ⟨h2, ?_⟩
    have h3 := hsame (sxOf l h 0 ((places l h 0)[k], (places l h 0)[k + 1])) (List.mem_map.2 ⟨_, hm1, rfl⟩) ((places l h 0)[k + 1] - 1) (by simp only [sxOf]; simp only at h2; omega)
    exact h3
  have HPL : Hid (places l h 0 = Lib.compact ((pls (l ++ h) 0).mergeSort fun x y => decide (x ≤ y))) := Lib.hid (by rw [pls_app]; rfl)
  obtain ⟨P, hPe⟩ : ∃ P, P = places l h 0 := ⟨_, rfl⟩
  have HPL2 : Hid (P = Lib.compact ((pls (l ++ h) 0).mergeSort fun x y => decide (x ≤ y))) := Lib.hid (hPe.trans HPL.out)
  have HF : Hid ((∀ z ∈ P, -65536 ≤ z ∧ z ≤ 65536) ∧ P.length ≤ 80 ∧ 1 ≤ P.length ∧ secT l h (-65536) 65536 (P.length - 1) = volF l h (-65536) 65536) := Lib.hid (by rw [hPe]; exact ⟨hpb, hpl, hpp, hTa⟩)
  have HK : Hid (∀ k (q0 : k < P.length) (q1 : k + 1 < P.length), secT l h (-65536) 65536 (k + 1) = secT l h (-65536) 65536 k + secF l h (-65536) 65536 P[k] * (P[k + 1] - P[k]) ∧ P[k] < P[k + 1] ∧ secF l h (-65536) 65536 (P[k + 1] - 1) = secF l h (-65536) 65536 P[k]) := Lib.hid (by
    subst hPe
    exact fun k q0 q1 => ⟨hTs k q0 q1, hasc k q0 q1⟩)
  have HH : Hid ((∀ x, x < (hulS l).a ∨ (hulS l).d ≤ x → secF l h (-65536) 65536 x = 0) ∧ (∀ x, 0 ≤ secF l h (-65536) 65536 x ∧ secF l h (-65536) 65536 x ≤ 17179869184) ∧ (∀ k, 0 ≤ secT l h (-65536) 65536 k ∧ secT l h (-65536) 65536 k ≤ 2251799813685248)) := Lib.hid ⟨hout, fun x => by have := hsb x; omega, hTb⟩
  have HC := Lib.hid hc32
  have H23 := Lib.hid h23
  have HT0 := Lib.hid hT0
  have HL := Lib.hid hLl
  simp only [hr] at h30
  simp only [hm] at h31
  clear hr hm hs hsame hout hpb hpl hpp hT0 hTs hTb hTa hsb hmv hasc HPL hPe hc32 h23 hl4 hh4 cz dz hc
  generalize volF l h (-65536) 65536 = V at *
  generalize hulS l = H at *
  unfold Bx.val at h11
  go_enter Try.func5, Try.ntmps5
  go_upto_region 5 with (first
    | (go_at_call 9; (with_reducible refine (awk _).mono ?_); rintro X wq ⟨rfl, hb⟩; replace E := E.on hb; replace C := E.cells; simp [BC, CF] at C; clear hb)
    | (go_at_call 30; (with_reducible refine (h30 _ (hS.on (envB E)) (hT.on (envB E))).mono ?_); rintro X wq ⟨rfl, hb⟩; replace E := E.on hb; replace C := E.cells; simp [BC, CF] at C; clear hb)
    | (go_at_call 31; (with_reducible refine (h31 _ (hS.on (envB E)) (hT.on (envB E))).mono ?_); rintro X wq ⟨rfl, hb⟩; replace E := E.on hb; replace C := E.cells; simp [BC, CF] at C; clear hb))
  go_upto_region 6 with (first
    | (go_at_call 22; (with_reducible refine (h22 _ (hS.on (envB E)) (hT.on (envB E))).mono ?_); rintro X wq ⟨rfl, hb⟩; replace E := E.on hb; replace C := E.cells; simp [BC, CF] at C; clear hb))
  go_upto_region 7 with (first
    | (go_at_call 11; (with_reducible refine (h11 _ (hS.on (envB E)) (hT.on (envB E))).mono ?_); rintro X w2 ⟨rfl, hb⟩; replace E := E.on hb; replace C := E.cells; simp [BC, CF] at C; clear hb))
  replace E := E.add w2.heap.size 30 #[.int .i64 H.a, .int .i64 H.b, .int .i64 H.c, .int .i64 H.d, .int .i64 H.e, .int .i64 H.f] rfl
  replace C := E.cells
  simp [BC, CF] at C
  clear awk h30 h31 h22 h11
  go_upto_region 10 with fail
  have E2 := E.add (w2.heap.size + 1) 22 #[.slice p l.length c, .slice q h.length d] (by simp)
  have L8 := HL.out
  generalize hL0 : l ++ h = L at *
  have HL0 := Lib.hid hL0
  clear hL0
  go_upto_region 11 with (go_at_call 32; refine (HC.out (w2.heap.size + 1) _ (E2.2.2.1.read 0) (E2.2.2.1.read 1) (hS.on E2.1) (hT.on E2.1)).mono ?_; rintro X w3 ⟨v, rfl, hO, hb⟩; obtain ⟨r, cr, rfl, hL⟩ := own_kl hO (by omega); replace E := (E2.on hb).tail)
  clear E2 C hO HC
  have hz3 : w2.heap.size < w3.heap.size ∧ w.heap.size < w3.heap.size := ⟨E.2.2.1.size_, E.2.2.2.2.2.1.size_⟩
  obtain ⟨i0, hinf, iz0, iz1, iz2⟩ := info_parts info3
  go_loopw [7, 49] (fun v7 v49 wr => ∃ k : Nat, v49 = .int .i64 (k : Int) ∧ k ≤ L.length ∧ OwnZ w3.heap.size wr v7 (pls (L.take k) 0) ∧ Env w wr [⟨w2.heap.size, 30, #[.int .i64 H.a, .int .i64 H.b, .int .i64 H.c, .int .i64 H.d, .int .i64 H.e, .int .i64 H.f]⟩, ⟨w.heap.size, 24, #[.slice p l.length c, .slice q h.length d]⟩] ∧ Below w3.heap.size w3 wr) (fun _ v _ => L.length - (intOf v).toNat)
  case atStart => exact ⟨0, rfl, Nat.zero_le _, ⟨by simp [zv, pls], .inl ⟨rfl, rfl⟩⟩, E, Below.refl _ _⟩
  case round =>
  clear E
  obtain ⟨k, rfl, hk, hO, E, hB⟩ := hrel
  by_cases hlt : k < L.length
  · have g1 : decide ((k : Int) < (L.length : Int)) = true := by simp [hlt]
    obtain ⟨a, rfl, c0, c1, c2, c3, c4, c5⟩ := (hL.on hB).at hlt
    have W1 : IntKind.i64.wrap ((k : Int) + 1) = ((k + 1 : Nat) : Int) := by rw [IntWalk.i64_in _ (by omega)]; omega
    have ep : pls (L.take (k + 1)) 0 = pls (L.take k) 0 ++ [L[k].a, L[k].d] := pls_take hlt
    have hel : (pls (L.take k) 0).length ≤ 80 := by rw [pls_len, List.length_take]; omega
    have EP := Lib.hid ep
    clear ep
    generalize pls (L.take k) 0 = E0 at *
    have hEE := Lib.hid E
    have bb := al (al1 wr (.cells #[.int .i64 L[k].a, .int .i64 L[k].b, .int .i64 L[k].c, .int .i64 L[k].d, .int .i64 L[k].e, .int .i64 L[k].f] 30)) (.cells #[.int .i64 L[k].a, .int .i64 L[k].d] 3)
    have hnw : ((wr.alloc (.cells #[.int .i64 L[k].a, .int .i64 L[k].b, .int .i64 L[k].c, .int .i64 L[k].d, .int .i64 L[k].e, .int .i64 L[k].f] 30)).alloc (.cells #[.int .i64 L[k].a, .int .i64 L[k].d] 3)).heap[wr.heap.size + 1]? = some (.cells #[.int .i64 L[k].a, .int .i64 L[k].d] 3 (0, 0)) := by
      have := heap_alloc_new (wr.alloc (.cells #[.int .i64 L[k].a, .int .i64 L[k].b, .int .i64 L[k].c, .int .i64 L[k].d, .int .i64 L[k].e, .int .i64 L[k].f] 30)) (.cells #[.int .i64 L[k].a, .int .i64 L[k].d] 3)
      rwa [show (wr.alloc (.cells #[.int .i64 L[k].a, .int .i64 L[k].b, .int .i64 L[k].c, .int .i64 L[k].d, .int .i64 L[k].e, .int .i64 L[k].f] 30)).heap.size = wr.heap.size + 1 by simp] at this
    go_wp2_with (at_builtin; refine wpList_append_own_at _ rfl _ _ 57 rfl w3.heap.size 3 i0 _ 1 8 Try.underlying57 hinf iz0 iz1 iz2 rfl (by decide) _ E0.length (zv E0) rfl (own_on hO bb) ⟨wr.heap.size + 1, 0, none⟩ 2 2 [.int .i64 L[k].a, .int .i64 L[k].d] rfl rfl (World.news_of_block (cs := #[.int .i64 L[k].a, .int .i64 L[k].d]) (t := 3) (fr := (0, 0)) hnw) (by simp [Value.oneCell']) (by unfold maxLen; omega) (by omega) (Nat.le_trans hB.size bb.size) ?_)
    intro v' w4 o1 o2 o3 o4
    have O4 : OwnZ w3.heap.size w4 v' (pls (L.take (k + 1)) 0) := by
      rw [EP.out]
      unfold OwnZ
      rw [List.length_append, zv_two]
      exact o1
    have hB4 : Below w3.heap.size w3 w4 := (hB.trans (bb.mono hB.size)).grown o2 (Nat.le_trans hB.size bb.size) (fun j hj => (World.ownsRow.lt hO _ hj).1)
    have E4 : Env w w4 [⟨w2.heap.size, 30, #[.int .i64 H.a, .int .i64 H.b, .int .i64 H.c, .int .i64 H.d, .int .i64 H.e, .int .i64 H.f]⟩, ⟨w.heap.size, 24, #[.slice p l.length c, .slice q h.length d]⟩] := by
      have hB5 : Below w3.heap.size wr w4 := (bb.mono hB.size).grown o2 (Nat.le_trans hB.size bb.size) (fun j hj => (World.ownsRow.lt hO _ hj).1)
      exact hEE.out.less hB5 (by omega) (by simp; omega)
    clear o1 o2 o3 o4 hO bb hB E
    go_wp2
    go_roundw
    all_goals first | exact ⟨k + 1, rfl, hlt, O4, E4, hB4⟩ | (simp [intOf]; omega)
  · have g1 : decide ((k : Int) < (L.length : Int)) = false := by simp; omega
    rw [List.take_of_length_le (by omega)] at hO
    have hn : (pls L 0).length ≤ 80 ∧ 1 ≤ (pls L 0).length := by rw [pls_len]; omega
    have hO' := hO
    obtain ⟨-, ⟨-, h2⟩ | ⟨G, cap, cur, rfl, hBg, -, hn1, hcap, -, -⟩⟩ := hO'
    · omega
    have hM : ((pls L 0).mergeSort fun x y => decide (x ≤ y)).length = (pls L 0).length := List.length_mergeSort ..
    have s1 := sortz_any w3.heap.size G cap (pls L 0) wr hO (by omega) hn1
    have s2 := fun W h => compactz_any w3.heap.size G cap ((pls L 0).mergeSort fun x y => decide (x ≤ y)) W h (by rw [hM]; omega) (by rw [hM]; omega)
    rw [hM] at s2
    rw [← HPL2.out] at s2
    go_upto_region 17 with (first
      | (go_at_call 33; (with_reducible refine s1.mono ?_); rintro X w5 ⟨rfl, q1, b1⟩)
      | (go_at_call 34; (with_reducible refine (s2 _ q1).mono ?_); rintro X w6 ⟨rfl, hP, b2⟩))
    replace E : Env w w6 [⟨w2.heap.size, 30, #[.int .i64 H.a, .int .i64 H.b, .int .i64 H.c, .int .i64 H.d, .int .i64 H.e, .int .i64 H.f]⟩, ⟨w.heap.size, 24, #[.slice p l.length c, .slice q h.length d]⟩] := E.less (b1.trans b2) (by omega) (by simp; omega)
    obtain ⟨hpb, hpl, hpp, hlast⟩ := HF.out
    have HLast := Lib.hid hlast
    clear s1 s2 q1 b1 b2 hO hM hn hB hlast g1 hk hlt
    go_upto_region 19 with fail
    go_loopw [10, 11] (fun v10 v11 wr => ∃ k : Nat, v11 = .int .i64 ((k : Int) + 1) ∧ k + 1 ≤ P.length ∧ v10 = .int .i64 (secT l h (-65536) 65536 k) ∧ Env w wr [⟨w2.heap.size, 30, #[.int .i64 H.a, .int .i64 H.b, .int .i64 H.c, .int .i64 H.d, .int .i64 H.e, .int .i64 H.f]⟩, ⟨w.heap.size, 24, #[.slice p l.length c, .slice q h.length d]⟩] ∧ OwnZ w3.heap.size wr (.slice (some ⟨G, 0, none⟩) P.length cap) P) (fun _ v _ => P.length - (intOf v).toNat)
    case atStart => exact ⟨0, by simp, hpp, by rw [HT0.out], E, hP⟩
    case round =>
    clear E hP
    obtain ⟨k, rfl, hk, rfl, E, hP⟩ := hrel
    by_cases hk1 : k + 1 < P.length
    · have hk0 : k < P.length := by omega
      have g1 : decide ((k : Int) + 1 < (P.length : Int)) = true := by simp only [decide_eq_true_eq]; omega
      obtain ⟨hts, hplt, hse⟩ := HK.out k hk0 hk1
      have hb0 := hpb _ (List.getElem_mem hk0)
      have hb1 := hpb _ (List.getElem_mem hk1)
      obtain ⟨ho, hsb, htb⟩ := HH.out
      have h23a := H23.out P[k] (by omega)
      have h23b := H23.out (P[k + 1] - 1) (by omega)
      rw [hse] at h23b
      have ho := ho P[k]
      have hsb := hsb P[k]
      have ht0 := htb k
      have ht1 := htb (k + 1)
      clear hse htb
      generalize secF l h (-65536) 65536 P[k] = sa at *
      have hdf : 0 ≤ P[k + 1] - P[k] ∧ P[k + 1] - P[k] ≤ 131072 := by omega
      have hpr := prod_bd hsb.1 hsb.2 hdf.1 hdf.2
      have Wa : IntKind.i64.wrap ((k : Int) + 1 - 1) = (k : Int) := by rw [IntWalk.i64_in _ (by omega)]; omega
      have Wa2 : IntKind.i64.wrap (k : Int) = (k : Int) := IntWalk.i64_in _ (by omega)
      have Wb : IntKind.i64.wrap (P[k + 1] - 1) = P[k + 1] - 1 := IntWalk.i64_in _ (by omega)
      have Wc : IntKind.i64.wrap ((k : Int) + 1 + 1) = (k : Int) + 1 + 1 := IntWalk.i64_in _ (by omega)
      have Wd : IntKind.i64.wrap (P[k + 1] - P[k]) = P[k + 1] - P[k] := IntWalk.i64_in _ (by omega)
      have We : IntKind.i64.wrap (sa * (P[k + 1] - P[k])) = sa * (P[k + 1] - P[k]) := IntWalk.i64_in _ (by omega)
      have Wf : IntKind.i64.wrap (secT l h (-65536) 65536 k + sa * (P[k + 1] - P[k])) = secT l h (-65536) 65536 (k + 1) := by rw [hts]; exact IntWalk.i64_in _ (by omega)
      have u1 : (0 : Int) ≤ (k : Int) := by omega
      have u2 : (k : Int) < (P.length : Int) := by omega
      have u3 : (0 : Int) ≤ (k : Int) + 1 := by omega
      have u4 : (k : Int) + 1 < (P.length : Int) := by omega
      have u5 : ((k : Int) + 1).toNat = k + 1 := by omega
      have q0 : decide (sa < 0) = false := by simp only [decide_eq_false_iff_not]; omega
      clear hts hb0 hb1 hsb ht0 ht1 hdf hpr hplt
      generalize secT l h (-65536) 65536 k = tk at *
      generalize htk : secT l h (-65536) 65536 (k + 1) = tk1 at *
      have HTK := Lib.hid htk
      clear htk
      go_upto_region 21 with fail
      replace E := E.drw
      replace hP : OwnZ w3.heap.size wr.drew (.slice (some ⟨G, 0, none⟩) P.length cap) P := own_on hP (below_dr (Below.refl _ wr))
      refine wp_region_plan 11 [(0, true), (1, true), (2, true), (3, true), (4, true), (5, true), (6, false), (7, true), (8, true), (9, true), (10, true)] (fun W' => W'.cell? ⟨w.heap.size, 0, none⟩ = some (.slice p l.length c) ∧ W'.cell? ⟨w.heap.size, 1, none⟩ = some (.slice q h.length d) ∧ W'.cell? ⟨G, k, none⟩ = some (.int .i64 P[k])) (by kernel_rfl) (by kernel_rfl) (fun _ _ d _ _ h => by cases d <;> exact h) (sl_s21 E (hP.at_ hk0)) ?_
      simp only [List.filterMap_cons, List.filterMap_nil, List.getElem?_cons_zero, List.getElem?_cons_succ, Option.map_some, List.drop_succ_cons, List.drop_zero]
      iterate 6 (first | (refine wpPlan_still (v := ?_) (Or.inl ⟨by rfl, ?_⟩) ?_; rotate_left; (focus (intro W hW; (try dsimp only at hW); go_split_ands; go_simp; try with_reducible rfl)); try simp only [Act.put, List.setIfInBounds_toArray, List.set_cons_zero, List.set_cons_succ]) | (refine wpPlan_still (Or.inr ⟨by rfl, rfl⟩) ?_; try simp only [Act.put, List.setIfInBounds_toArray, List.set_cons_zero, List.set_cons_succ]))
      refine wpPlan_only (fun K hK => ?_)
      try go_simp
      (go_at_call 23; (with_reducible refine (h23a _ (hS.on (envB E)) (hT.on (envB E))).mono ?_); rintro X wq ⟨rfl, hb⟩)
      replace E := E.on hb
      replace hP : OwnZ w3.heap.size wq (.slice (some ⟨G, 0, none⟩) P.length cap) P := own_on hP hb
      clear hb
      refine hK.out _ _ (sl_s21 E (hP.at_ hk0)) ?_
      clear hK K
      try simp only [Act.put, List.setIfInBounds_toArray, List.set_cons_zero, List.set_cons_succ]
      iterate 4 (first | (refine wpPlan_still (v := ?_) (Or.inl ⟨by rfl, ?_⟩) ?_; rotate_left; (focus (intro W hW; (try dsimp only at hW); go_split_ands; go_simp; try with_reducible rfl)); try simp only [Act.put, List.setIfInBounds_toArray, List.set_cons_zero, List.set_cons_succ]) | (refine wpPlan_still (Or.inr ⟨by rfl, rfl⟩) ?_; try simp only [Act.put, List.setIfInBounds_toArray, List.set_cons_zero, List.set_cons_succ]))
      refine wpPlan_end ?_
      go_upto_region 22 with fail
      replace E := E.drw
      replace hP : OwnZ w3.heap.size wq.drew (.slice (some ⟨G, 0, none⟩) P.length cap) P := own_on hP (below_dr (Below.refl _ wq))
      refine wp_region_plan 11 [(0, true), (1, true), (2, true), (3, true), (4, true), (5, true), (6, false), (7, true), (8, true), (9, true), (10, true)] (fun W' => W'.cell? ⟨w.heap.size, 0, none⟩ = some (.slice p l.length c) ∧ W'.cell? ⟨w.heap.size, 1, none⟩ = some (.slice q h.length d) ∧ W'.cell? ⟨G, k + 1, none⟩ = some (.int .i64 P[k + 1])) (by kernel_rfl) (by kernel_rfl) (fun _ _ d _ _ h => by cases d <;> exact h) (sl_s21 E (hP.at_ hk1)) ?_
      simp only [List.filterMap_cons, List.filterMap_nil, List.getElem?_cons_zero, List.getElem?_cons_succ, Option.map_some, List.drop_succ_cons, List.drop_zero]
      iterate 6 (first | (refine wpPlan_still (v := ?_) (Or.inl ⟨by rfl, ?_⟩) ?_; rotate_left; (focus (intro W hW; (try dsimp only at hW); go_split_ands; go_simp; try with_reducible rfl)); try simp only [Act.put, List.setIfInBounds_toArray, List.set_cons_zero, List.set_cons_succ]) | (refine wpPlan_still (Or.inr ⟨by rfl, rfl⟩) ?_; try simp only [Act.put, List.setIfInBounds_toArray, List.set_cons_zero, List.set_cons_succ]))
      refine wpPlan_only (fun K hK => ?_)
      try go_simp
      (go_at_call 23; (with_reducible refine (h23b _ (hS.on (envB E)) (hT.on (envB E))).mono ?_); rintro X wq ⟨rfl, hb⟩)
      replace E := E.on hb
      replace hP : OwnZ w3.heap.size wq (.slice (some ⟨G, 0, none⟩) P.length cap) P := own_on hP hb
      clear hb
      refine hK.out _ _ (sl_s21 E (hP.at_ hk1)) ?_
      clear hK K
      try simp only [Act.put, List.setIfInBounds_toArray, List.set_cons_zero, List.set_cons_succ]
      iterate 4 (first | (refine wpPlan_still (v := ?_) (Or.inl ⟨by rfl, ?_⟩) ?_; rotate_left; (focus (intro W hW; (try dsimp only at hW); go_split_ands; go_simp; try with_reducible rfl)); try simp only [Act.put, List.setIfInBounds_toArray, List.set_cons_zero, List.set_cons_succ]) | (refine wpPlan_still (Or.inr ⟨by rfl, rfl⟩) ?_; try simp only [Act.put, List.setIfInBounds_toArray, List.set_cons_zero, List.set_cons_succ]))
      refine wpPlan_end ?_
      by_cases c1 : P[k] < H.a
      · have e := ho (.inl c1)
        subst e
        have q1 : decide (P[k] < H.a) = true := by simp [c1]
        clear c1 ho
        go_upto_region 23 with fail
        replace E := E.drw
        replace hP : OwnZ w3.heap.size wq.drew (.slice (some ⟨G, 0, none⟩) P.length cap) P := own_on hP (below_dr (Below.refl _ wq))
        refine wp_region_plan 40 [(0, true), (1, true), (2, true), (3, true), (4, true), (5, true), (6, true), (7, true), (8, true), (9, true), (10, true), (11, true), (12, true), (13, true), (14, true), (15, true), (16, true), (17, true), (18, true), (19, true), (20, true), (21, true), (22, true), (23, true), (24, true), (25, true), (26, true), (27, true), (28, true), (29, true), (30, true), (31, true), (32, true), (33, true), (34, true), (35, true), (36, true), (37, true), (38, true), (39, true)] (fun W' => W'.cell? ⟨G, k, none⟩ = some (.int .i64 P[k]) ∧ W'.cell? ⟨w2.heap.size, 0, none⟩ = some (.int .i64 H.a) ∧ W'.cell? ⟨w2.heap.size, 3, none⟩ = some (.int .i64 H.d)) (by kernel_rfl) (by kernel_rfl) (fun _ _ d _ _ h => by cases d <;> exact h) ⟨hP.at_ hk0, E.2.2.1.read 0, E.2.2.1.read 3⟩ ?_
        simp only [List.filterMap_cons, List.filterMap_nil, List.getElem?_cons_zero, List.getElem?_cons_succ, Option.map_some, List.drop_succ_cons, List.drop_zero]
        iterate 40 (first | (refine wpPlan_still (v := ?_) (Or.inl ⟨by rfl, ?_⟩) ?_; rotate_left; (focus (intro W hW; (try dsimp only at hW); go_split_ands; go_simp; try with_reducible rfl)); try simp only [Act.put, List.setIfInBounds_toArray, List.set_cons_zero, List.set_cons_succ]) | (refine wpPlan_still (Or.inr ⟨by rfl, rfl⟩) ?_; try simp only [Act.put, List.setIfInBounds_toArray, List.set_cons_zero, List.set_cons_succ]))
        refine wpPlan_end ?_
        go_upto_region 25 with fail
        replace E := E.drw
        replace hP : OwnZ w3.heap.size wq.drew.drew (.slice (some ⟨G, 0, none⟩) P.length cap) P := own_on hP (below_dr (Below.refl _ wq.drew))
        refine wp_region_plan 14 [(0, true), (1, true), (2, true), (3, true), (4, true), (5, true), (6, true), (7, true), (8, true), (9, true), (10, true), (11, true), (12, true), (13, true)] (fun W' => W'.cell? ⟨G, k, none⟩ = some (.int .i64 P[k]) ∧ W'.cell? ⟨G, k + 1, none⟩ = some (.int .i64 P[k + 1])) (by kernel_rfl) (by kernel_rfl) (fun _ _ d _ _ h => by cases d <;> exact h) ⟨hP.at_ hk0, hP.at_ hk1⟩ ?_
        simp only [List.filterMap_cons, List.filterMap_nil, List.getElem?_cons_zero, List.getElem?_cons_succ, Option.map_some, List.drop_succ_cons, List.drop_zero]
        iterate 14 (first | (refine wpPlan_still (v := ?_) (Or.inl ⟨by rfl, ?_⟩) ?_; rotate_left; (focus (intro W hW; (try dsimp only at hW); go_split_ands; go_simp; try with_reducible rfl)); try simp only [Act.put, List.setIfInBounds_toArray, List.set_cons_zero, List.set_cons_succ]) | (refine wpPlan_still (Or.inr ⟨by rfl, rfl⟩) ?_; try simp only [Act.put, List.setIfInBounds_toArray, List.set_cons_zero, List.set_cons_succ]))
        refine wpPlan_end ?_
        go_wp2
        have hv9 : IntKind.i64.wrap (0 : Int) = 0 := IntWalk.i64_in _ (by omega)
        exact ⟨⟨k + 1, by simp, by omega, by first | (rw [HTK.out]; done) | (rw [HTK.out, hv9]; congr 1; simpa using Wf), E, hP⟩, by simp [intOf]; omega⟩
      have q1 : decide (P[k] < H.a) = false := by simp; omega
      by_cases c2 : H.d ≤ P[k]
      · have e := ho (.inr c2)
        subst e
        have q2 : decide (P[k] ≥ H.d) = true := by simp; omega
        have q2' : decide (H.d ≤ P[k]) = true := by simp; omega
        clear c1 c2 ho
        go_upto_region 23 with fail
        replace E := E.drw
        replace hP : OwnZ w3.heap.size wq.drew (.slice (some ⟨G, 0, none⟩) P.length cap) P := own_on hP (below_dr (Below.refl _ wq))
        refine wp_region_plan 40 [(0, true), (1, true), (2, true), (3, true), (4, true), (5, true), (6, true), (7, true), (8, true), (9, true), (10, true), (11, true), (12, true), (13, true), (14, true), (15, true), (16, true), (17, true), (18, true), (19, true), (20, true), (21, true), (22, true), (23, true), (24, true), (25, true), (26, true), (27, true), (28, true), (29, true), (30, true), (31, true), (32, true), (33, true), (34, true), (35, true), (36, true), (37, true), (38, true), (39, true)] (fun W' => W'.cell? ⟨G, k, none⟩ = some (.int .i64 P[k]) ∧ W'.cell? ⟨w2.heap.size, 0, none⟩ = some (.int .i64 H.a) ∧ W'.cell? ⟨w2.heap.size, 3, none⟩ = some (.int .i64 H.d)) (by kernel_rfl) (by kernel_rfl) (fun _ _ d _ _ h => by cases d <;> exact h) ⟨hP.at_ hk0, E.2.2.1.read 0, E.2.2.1.read 3⟩ ?_
        simp only [List.filterMap_cons, List.filterMap_nil, List.getElem?_cons_zero, List.getElem?_cons_succ, Option.map_some, List.drop_succ_cons, List.drop_zero]
        iterate 40 (first | (refine wpPlan_still (v := ?_) (Or.inl ⟨by rfl, ?_⟩) ?_; rotate_left; (focus (intro W hW; (try dsimp only at hW); go_split_ands; go_simp; try with_reducible rfl)); try simp only [Act.put, List.setIfInBounds_toArray, List.set_cons_zero, List.set_cons_succ]) | (refine wpPlan_still (Or.inr ⟨by rfl, rfl⟩) ?_; try simp only [Act.put, List.setIfInBounds_toArray, List.set_cons_zero, List.set_cons_succ]))
        refine wpPlan_end ?_
        go_upto_region 25 with fail
        replace E := E.drw
        replace hP : OwnZ w3.heap.size wq.drew.drew (.slice (some ⟨G, 0, none⟩) P.length cap) P := own_on hP (below_dr (Below.refl _ wq.drew))
        refine wp_region_plan 14 [(0, true), (1, true), (2, true), (3, true), (4, true), (5, true), (6, true), (7, true), (8, true), (9, true), (10, true), (11, true), (12, true), (13, true)] (fun W' => W'.cell? ⟨G, k, none⟩ = some (.int .i64 P[k]) ∧ W'.cell? ⟨G, k + 1, none⟩ = some (.int .i64 P[k + 1])) (by kernel_rfl) (by kernel_rfl) (fun _ _ d _ _ h => by cases d <;> exact h) ⟨hP.at_ hk0, hP.at_ hk1⟩ ?_
        simp only [List.filterMap_cons, List.filterMap_nil, List.getElem?_cons_zero, List.getElem?_cons_succ, Option.map_some, List.drop_succ_cons, List.drop_zero]
        iterate 14 (first | (refine wpPlan_still (v := ?_) (Or.inl ⟨by rfl, ?_⟩) ?_; rotate_left; (focus (intro W hW; (try dsimp only at hW); go_split_ands; go_simp; try with_reducible rfl)); try simp only [Act.put, List.setIfInBounds_toArray, List.set_cons_zero, List.set_cons_succ]) | (refine wpPlan_still (Or.inr ⟨by rfl, rfl⟩) ?_; try simp only [Act.put, List.setIfInBounds_toArray, List.set_cons_zero, List.set_cons_succ]))
        refine wpPlan_end ?_
        go_wp2
        have hv9 : IntKind.i64.wrap (0 : Int) = 0 := IntWalk.i64_in _ (by omega)
        exact ⟨⟨k + 1, by simp, by omega, by first | (rw [HTK.out]; done) | (rw [HTK.out, hv9]; congr 1; simpa using Wf), E, hP⟩, by simp [intOf]; omega⟩
      · have q2 : decide (P[k] ≥ H.d) = false := by simp; omega
        have q2' : decide (H.d ≤ P[k]) = false := by simp; omega
        clear c1 c2 ho
        go_upto_region 23 with fail
        replace E := E.drw
        replace hP : OwnZ w3.heap.size wq.drew (.slice (some ⟨G, 0, none⟩) P.length cap) P := own_on hP (below_dr (Below.refl _ wq))
        refine wp_region_plan 40 [(0, true), (1, true), (2, true), (3, true), (4, true), (5, true), (6, true), (7, true), (8, true), (9, true), (10, true), (11, true), (12, true), (13, true), (14, true), (15, true), (16, true), (17, true), (18, true), (19, true), (20, true), (21, true), (22, true), (23, true), (24, true), (25, true), (26, true), (27, true), (28, true), (29, true), (30, true), (31, true), (32, true), (33, true), (34, true), (35, true), (36, true), (37, true), (38, true), (39, true)] (fun W' => W'.cell? ⟨G, k, none⟩ = some (.int .i64 P[k]) ∧ W'.cell? ⟨w2.heap.size, 0, none⟩ = some (.int .i64 H.a) ∧ W'.cell? ⟨w2.heap.size, 3, none⟩ = some (.int .i64 H.d)) (by kernel_rfl) (by kernel_rfl) (fun _ _ d _ _ h => by cases d <;> exact h) ⟨hP.at_ hk0, E.2.2.1.read 0, E.2.2.1.read 3⟩ ?_
        simp only [List.filterMap_cons, List.filterMap_nil, List.getElem?_cons_zero, List.getElem?_cons_succ, Option.map_some, List.drop_succ_cons, List.drop_zero]
        iterate 40 (first | (refine wpPlan_still (v := ?_) (Or.inl ⟨by rfl, ?_⟩) ?_; rotate_left; (focus (intro W hW; (try dsimp only at hW); go_split_ands; go_simp; try with_reducible rfl)); try simp only [Act.put, List.setIfInBounds_toArray, List.set_cons_zero, List.set_cons_succ]) | (refine wpPlan_still (Or.inr ⟨by rfl, rfl⟩) ?_; try simp only [Act.put, List.setIfInBounds_toArray, List.set_cons_zero, List.set_cons_succ]))
        refine wpPlan_end ?_
        go_upto_region 25 with fail
        replace E := E.drw
        replace hP : OwnZ w3.heap.size wq.drew.drew (.slice (some ⟨G, 0, none⟩) P.length cap) P := own_on hP (below_dr (Below.refl _ wq.drew))
        refine wp_region_plan 14 [(0, true), (1, true), (2, true), (3, true), (4, true), (5, true), (6, true), (7, true), (8, true), (9, true), (10, true), (11, true), (12, true), (13, true)] (fun W' => W'.cell? ⟨G, k, none⟩ = some (.int .i64 P[k]) ∧ W'.cell? ⟨G, k + 1, none⟩ = some (.int .i64 P[k + 1])) (by kernel_rfl) (by kernel_rfl) (fun _ _ d _ _ h => by cases d <;> exact h) ⟨hP.at_ hk0, hP.at_ hk1⟩ ?_
        simp only [List.filterMap_cons, List.filterMap_nil, List.getElem?_cons_zero, List.getElem?_cons_succ, Option.map_some, List.drop_succ_cons, List.drop_zero]
        iterate 14 (first | (refine wpPlan_still (v := ?_) (Or.inl ⟨by rfl, ?_⟩) ?_; rotate_left; (focus (intro W hW; (try dsimp only at hW); go_split_ands; go_simp; try with_reducible rfl)); try simp only [Act.put, List.setIfInBounds_toArray, List.set_cons_zero, List.set_cons_succ]) | (refine wpPlan_still (Or.inr ⟨by rfl, rfl⟩) ?_; try simp only [Act.put, List.setIfInBounds_toArray, List.set_cons_zero, List.set_cons_succ]))
        refine wpPlan_end ?_
        go_wp2
        have hv9 : IntKind.i64.wrap (0 : Int) = 0 := IntWalk.i64_in _ (by omega)
        exact ⟨⟨k + 1, by simp, by omega, by first | (rw [HTK.out]; done) | (rw [HTK.out, hv9]; congr 1; simpa using Wf), E, hP⟩, by simp [intOf]; omega⟩
    · have g1 : decide ((k : Int) + 1 < (P.length : Int)) = false := by simp only [decide_eq_false_iff_not]; omega
      have e : P.length - 1 = k := by omega
      have hl := HLast.out
      rw [e] at hl
      rw [hl]
      clear hl e
      go_wp2
      go_ret
      exact ⟨by simp, E.1⟩
theorem slices_walk (p q : Option Addr) (l h : List Bx) (c d : Nat) (w : World) (hS : Sl w p l) (hT : Sl w q h) (hc : l.length ≤ c) (cz : p = none → c = 0) (dz : q = none → d = 0) :
    Calls Try.prog 5 #[.agg #[.slice p l.length c, .slice q h.length d]] w fun e w' => e = .returned (.bool true) ∧ Below w.heap.size w w' := by
  cases hr : rgtS l h
  · exact slices_skip p q l h c d w hS hT cz dz (.inl hr)
  cases hm : modS l h
  · exact slices_skip p q l h c d w hS hT cz dz (.inr hm)
  · exact slices_ok p q l h c d w hS hT hc cz dz hr hm
end Go.Proofs.Ytkgaahmehmbfjaa
