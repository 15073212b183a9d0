/- The reference's Contains and Inside; Hull of both; Member of both. -/
import Derived.Test.YtkgaahmehmbfjaaFa
import Derived.Test.YtkgaahmehmbfjaaZD
import Derived.Test.YtkgaahmehmbfjaaHl
namespace Go.Proofs.Ytkgaahmehmbfjaa
open Go.ChangeShapes Go.WideShapes Go.ChangeAt Go.RowKit
set_option linter.unusedVariables false
set_option linter.unusedSimpArgs false

set_option maxHeartbeats 8000000 in
set_option maxRecDepth 100000 in
theorem rcontains_21 (p q : Option Addr) (l h : List Bx) (c d : Nat) (b : Bx) (w : World) (hS : Sl w p l) (hT : Sl w q h) (hs : okS l h = true) (hl8 : l.length ≤ 8) (hbo : b.ok = true) :
    Calls Try.prog 21 #[.agg #[.slice p l.length c, .slice q h.length d], b.val] w fun e w' => e = .returned (.bool (inS l h b)) ∧ Below w.heap.size w w' := by
  obtain ⟨⟨hl1, hl2⟩, hh, hlt, hht⟩ := okS_i.1 hs
  obtain ⟨RES, hRES⟩ : ∃ R, R = inS l h b := ⟨_, rfl⟩
  rw [← hRES]
  have HR := Lib.hid hRES
  clear hRES
  have h55 := fun W H => rcovers_any p l c b W H hl8 (all_tk hlt) hbo
  have h54 := fun x W => cuts_54 x b W
  have E := ((Env.nil w).add w.heap.size 24 #[.slice p l.length c, .slice q h.length d] rfl).add (w.heap.size + 1) 30 #[.int .i64 b.a, .int .i64 b.b, .int .i64 b.c, .int .i64 b.d, .int .i64 b.e, .int .i64 b.f] (by simp)
  have C := E.cells
  simp [BC, CF] at C
  unfold Bx.val at *
  go_enter Try.func21, Try.ntmps21
  go_upto_region 2 with fail
  go_loopw [5] (fun v wr => ∃ k : Nat, v = .int .i64 (k : Int) ∧ k ≤ h.length ∧ Hid (∀ x ∈ h.take k, 0 ≤ gapB x b) ∧ Env w wr [⟨w.heap.size + 1, 30, #[.int .i64 b.a, .int .i64 b.b, .int .i64 b.c, .int .i64 b.d, .int .i64 b.e, .int .i64 b.f]⟩, ⟨w.heap.size, 24, #[.slice p l.length c, .slice q h.length d]⟩]) (fun v _ => h.length - (intOf v).toNat)
  case atStart => exact ⟨0, rfl, Nat.zero_le _, Lib.hid (by simp), E⟩
  case round =>
    clear E C
    obtain ⟨k, rfl, hk, hG, E⟩ := hrel
    have C := E.cells
    simp [BC, CF] at C
    by_cases hlt' : k < h.length
    · have g1 : decide ((k : Int) < (h.length : Int)) = true := by simp [hlt']
      obtain ⟨a, rfl, c0, c1, c2, c3, c4, c5⟩ := (hT.on (envC E)).at hlt'
      have W1 : IntKind.i64.wrap ((k : Int) + 1) = ((k + 1 : Nat) : Int) := by rw [IntWalk.i64_in _ (by omega)]; omega
      have s1 := E.2.2.2.2.2.1.read 1
      obtain ⟨d0, d1, d2, d3, d4, d5⟩ := box_cells6 E.2.2.1
      simp only [List.getElem?_toArray, List.getElem?_cons_zero, List.getElem?_cons_succ] at s1
      have HB := Lib.hid (envC E)
      have HG1 := Lib.hid (show ∀ x ∈ h.take (k + 1), x ∈ h.take k ∨ x = h[k] from fun x hx => by
        rw [List.take_succ_eq_append_getElem hlt', List.mem_append, List.mem_singleton] at hx
        exact hx)
      have HN : Hid (gapB h[k] b < 0 → inS l h b = false) := Lib.hid (fun hn => by
        unfold inS
        rw [show (h.all fun x => decide (0 ≤ gapB x b)) = false from List.all_eq_false.2 ⟨_, List.getElem_mem hlt', by simp; omega⟩]
        rfl)
      have h54k := fun W => h54 h[k] W
      clear C
      go_upto_region 4 with fail
      replace E := E.drw
      refine wp_region_plan 6 [(0, true), (1, true), (2, true), (3, true), (4, true), (5, true)] (fun W' => W'.cell? ⟨w.heap.size, 1, none⟩ = some (.slice (some a) h.length d) ∧ W'.cell? (a.add (k * 6)) = some (.int .i64 h[k].a) ∧ W'.cell? ⟨(a.add (k * 6)).block, (a.add (k * 6)).off + 1, none⟩ = some (.int .i64 h[k].b) ∧ W'.cell? ⟨(a.add (k * 6)).block, (a.add (k * 6)).off + 2, none⟩ = some (.int .i64 h[k].c) ∧ W'.cell? ⟨(a.add (k * 6)).block, (a.add (k * 6)).off + 3, none⟩ = some (.int .i64 h[k].d) ∧ W'.cell? ⟨(a.add (k * 6)).block, (a.add (k * 6)).off + 4, none⟩ = some (.int .i64 h[k].e) ∧ W'.cell? ⟨(a.add (k * 6)).block, (a.add (k * 6)).off + 5, none⟩ = some (.int .i64 h[k].f) ∧ W'.cell? ⟨w.heap.size + 1, 0, none⟩ = some (.int .i64 b.a) ∧ W'.cell? ⟨w.heap.size + 1, 1, none⟩ = some (.int .i64 b.b) ∧ W'.cell? ⟨w.heap.size + 1, 2, none⟩ = some (.int .i64 b.c) ∧ W'.cell? ⟨w.heap.size + 1, 3, none⟩ = some (.int .i64 b.d) ∧ W'.cell? ⟨w.heap.size + 1, 4, none⟩ = some (.int .i64 b.e) ∧ W'.cell? ⟨w.heap.size + 1, 5, none⟩ = some (.int .i64 b.f)) (by kernel_rfl) (by kernel_rfl) (fun _ _ d _ _ h => by cases d <;> exact h) ⟨s1, c0, c1, c2, c3, c4, c5, d0, d1, d2, d3, d4, d5⟩ ?_
      simp only [List.filterMap_cons, List.filterMap_nil, List.getElem?_cons_zero, List.getElem?_cons_succ, Option.map_some, List.drop_succ_cons, List.drop_zero]
      iterate 6 (first | (refine wpPlan_still (v := ?_) (Or.inl ⟨by rfl, ?_⟩) ?_; rotate_left; (focus (intro W hW; (try dsimp only at hW); go_split_ands; go_simp; try with_reducible rfl)); try simp only [Act.put, List.setIfInBounds_toArray, List.set_cons_zero, List.set_cons_succ]) | (refine wpPlan_still (Or.inr ⟨by rfl, rfl⟩) ?_; try simp only [Act.put, List.setIfInBounds_toArray, List.set_cons_zero, List.set_cons_succ]))
      refine wpPlan_end ?_
      rcases Int.lt_or_le (gapB h[k] b) 0 with hn | hn
      · have e := HR.out.trans (HN.out hn)
        subst e
        rw [show decide (gapB h[k] b < 0) = true by simp [hn]] at h54k
        clear HN HG1 hG HR
        go_wp2_with (go_at_call 54; (with_reducible refine (h54k _).mono ?_); rintro X wq ⟨rfl, hb⟩; replace E := E.on hb)
        go_ret
        exact ⟨rfl, E.1⟩
      · rw [show decide (gapB h[k] b < 0) = false by simp; omega] at h54k
        have HG2 : Hid (∀ x ∈ h.take (k + 1), 0 ≤ gapB x b) := Lib.hid (fun x hx => by
          rcases HG1.out x hx with hx | rfl
          · exact hG.out x hx
          · exact hn)
        clear HN HG1 hG
        go_wp2_with (go_at_call 54; (with_reducible refine (h54k _).mono ?_); rintro X wq ⟨rfl, hb⟩; replace E := E.on hb)
        exact ⟨⟨k + 1, rfl, hlt', HG2, E⟩, by simp [intOf]; omega⟩
    · have g1 : decide ((k : Int) < (h.length : Int)) = false := by simp; omega
      have hf := hG.out
      rw [List.take_of_length_le (by omega)] at hf
      have e : inS l h b = covB l b := by
        unfold inS
        rw [show (h.all fun x => decide (0 ≤ gapB x b)) = true from List.all_eq_true.2 fun x hx => by simpa using hf x hx]
        rfl
      have e := HR.out.trans e
      clear HR
      subst e
      go_wp2_with (go_at_call 55; (with_reducible refine (h55 _ (hS.on (envC E))).mono ?_); rintro X wq ⟨rfl, hb⟩; replace E := E.on hb)
      go_ret
      exact ⟨rfl, E.1⟩
set_option maxHeartbeats 8000000 in
set_option maxRecDepth 100000 in
theorem rinside_20 (p q : Option Addr) (l h : List Bx) (c d : Nat) (x y z : Int) (w : World) (hS : Sl w p l) (hT : Sl w q h) (hs : okS l h = true) (hl8 : l.length ≤ 8) (hp : (ptX x y z).ok = true) :
    Calls Try.prog 20 #[.agg #[.slice p l.length c, .slice q h.length d], .agg #[.int .i64 x, .int .i64 y, .int .i64 z]] w fun e w' => e = .returned (.bool (inS l h (ptX x y z))) ∧ Below w.heap.size w w' := by
  have h21 : ∀ W, Sl W p l → Sl W q h → Calls Try.prog 21 #[.agg #[.slice p l.length c, .slice q h.length d], .agg #[.int .i64 x, .int .i64 y, .int .i64 z, .int .i64 x, .int .i64 y, .int .i64 z]] W fun e w' => e = .returned (.bool (inS l h (ptX x y z))) ∧ Below W.heap.size W w' := fun W a b => rcontains_21 p q l h c d (ptX x y z) W a b hs hl8 hp
  have E := ((Env.nil w).add w.heap.size 24 #[.slice p l.length c, .slice q h.length d] rfl).add (w.heap.size + 1) 28 #[.int .i64 x, .int .i64 y, .int .i64 z] (by simp)
  have C := E.cells
  simp [BC, CF] at C
  generalize inS l h (ptX x y z) = R at *
  go_enter Try.func20, Try.ntmps20
  go_wp2_with (first
    | (go_at_call 21; (with_reducible refine (h21 _ (hS.on (envC E)) (hT.on (envC E))).mono ?_); rintro X wq ⟨rfl, hb⟩; replace E := E.on hb; replace C := E.cells; simp [BC, CF] at C; clear hb))
  go_ret
  exact ⟨rfl, E.1⟩
theorem ref_hull (p : Option Addr) (l : List Bx) (cap : Nat) (w : World) (hS : Sl w p l) (hl1 : 1 ≤ l.length) :
    Calls Try.prog 53 #[.slice p l.length cap] w fun e w' => e = .returned (hulS l).val ∧ Below w.heap.size w w' := by
  obtain ⟨a, rfl⟩ := sl_some hS hl1
  match l, hl1 with
  | x :: l, _ => exact rhull_in a x l cap w hS
set_option maxHeartbeats 8000000 in
set_option maxRecDepth 100000 in
theorem rHull_18 (p q : Option Addr) (l h : List Bx) (c d : Nat) (w : World) (hS : Sl w p l) (hl1 : 1 ≤ l.length) :
    Calls Try.prog 18 #[.agg #[.slice p l.length c, .slice q h.length d]] w fun e w' => e = .returned (hulS l).val ∧ Below w.heap.size w w' := by
  have h53 := fun W H => ref_hull p l c W H hl1
  have E := ((Env.nil w).add w.heap.size 24 #[.slice p l.length c, .slice q h.length d] rfl).add (w.heap.size + 1) 30 #[.int .i64 0, .int .i64 0, .int .i64 0, .int .i64 0, .int .i64 0, .int .i64 0] (by simp)
  have C := E.cells
  simp [BC, CF] at C
  generalize hulS l = H at *
  unfold Bx.val at *
  go_enter Try.func18, Try.ntmps18
  go_wp2_with (first
    | (go_at_call 53; (with_reducible refine (h53 _ (hS.on (envC E))).mono ?_); rintro X wq ⟨rfl, hb⟩; replace E := E.on hb; replace C := E.cells; simp [BC, CF] at C; clear hb))
  refine bodyPost_ret (v := .agg #[.int .i64 H.a, .int .i64 H.b, .int .i64 H.c, .int .i64 H.d, .int .i64 H.e, .int .i64 H.f]) (by simp [results, Try.results18, go_sem, C]) rfl ⟨rfl, ?_⟩
  exact envC (E.six (u0 := .int .i64 H.a) (u1 := .int .i64 H.b) (u2 := .int .i64 H.c) (u3 := .int .i64 H.d) (u4 := .int .i64 H.e) (u5 := .int .i64 H.f) 0 rfl)
/-- A valid member. -/
def okM (nm : ByteArray) (l h : List Bx) (cv ag po : Int) : Bool := Dec.nameB nm.data.toList && okS l h && decide (0 ≤ cv) && decide (cv ≤ 200) && decide (1 ≤ ag) && decide (ag ≤ 100) && decide (1 ≤ po) && decide (po ≤ 200)
set_option maxHeartbeats 8000000 in
set_option maxRecDepth 100000 in
theorem member_16 (p q : Option Addr) (l h : List Bx) (c d : Nat) (nm : ByteArray) (cv ag po : Int) (w : World) (hS : Sl w p l) (hT : Sl w q h) (hn : nm.size ≤ maxLen) :
    Calls Try.prog 16 #[.agg #[.string nm, .slice p l.length c, .slice q h.length d, .int .i64 cv, .int .i64 ag, .int .i64 po]] w fun e w' => e = .returned (.bool (okM nm l h cv ag po)) ∧ Below w.heap.size w w' := by
  have hN : ∀ W, Calls Try.prog 51 #[.string nm] W fun e w' => e = .returned (.bool (Dec.nameB nm.data.toList)) ∧ W = w' := fun W => Dec.isName_any nm W hn
  have hV : ∀ W, Sl W p l → Sl W q h → Calls Try.prog 14 #[.agg #[.slice p l.length c, .slice q h.length d]] W fun e w' => e = .returned (.bool (okS l h)) ∧ Below W.heap.size W w' := fun W a b => val14 p q l h c d W a b
  have E := (Env.nil w).add w.heap.size 26 #[.string nm, .slice p l.length c, .slice q h.length d, .int .i64 cv, .int .i64 ag, .int .i64 po] rfl
  have C := E.cells
  simp [BC, CF] at C
  unfold okM
  generalize Dec.nameB nm.data.toList = a1 at *
  generalize okS l h = a2 at *
  obtain ⟨b1, h1⟩ : ∃ x, decide (0 ≤ cv) = x := ⟨_, rfl⟩
  obtain ⟨b2, h2⟩ : ∃ x, decide (cv ≤ 200) = x := ⟨_, rfl⟩
  obtain ⟨b3, h3⟩ : ∃ x, decide (1 ≤ ag) = x := ⟨_, rfl⟩
  obtain ⟨b4, h4⟩ : ∃ x, decide (ag ≤ 100) = x := ⟨_, rfl⟩
  obtain ⟨b5, h5⟩ : ∃ x, decide (1 ≤ po) = x := ⟨_, rfl⟩
  obtain ⟨b6, h6⟩ : ∃ x, decide (po ≤ 200) = x := ⟨_, rfl⟩
  rw [h1, h2, h3, h4, h5, h6]
  cases a1
  · go_enter Try.func16, Try.ntmps16
    go_wp2_with (first
      | (go_at_call 51; (with_reducible refine (hN _).mono ?_); rintro X wq ⟨rfl, rfl⟩)
      | (go_at_call 14; (with_reducible refine (hV _ (hS.on (envC E)) (hT.on (envC E))).mono ?_); rintro X wq ⟨rfl, hb⟩; replace E := E.on hb; replace C := E.cells; simp [BC, CF] at C; clear hb))
    go_ret
    exact ⟨by simp, E.1⟩
  cases a2
  · go_enter Try.func16, Try.ntmps16
    go_wp2_with (first
      | (go_at_call 51; (with_reducible refine (hN _).mono ?_); rintro X wq ⟨rfl, rfl⟩)
      | (go_at_call 14; (with_reducible refine (hV _ (hS.on (envC E)) (hT.on (envC E))).mono ?_); rintro X wq ⟨rfl, hb⟩; replace E := E.on hb; replace C := E.cells; simp [BC, CF] at C; clear hb))
    go_ret
    exact ⟨by simp, E.1⟩
  cases b1
  · go_enter Try.func16, Try.ntmps16
    go_wp2_with (first
      | (go_at_call 51; (with_reducible refine (hN _).mono ?_); rintro X wq ⟨rfl, rfl⟩)
      | (go_at_call 14; (with_reducible refine (hV _ (hS.on (envC E)) (hT.on (envC E))).mono ?_); rintro X wq ⟨rfl, hb⟩; replace E := E.on hb; replace C := E.cells; simp [BC, CF] at C; clear hb))
    go_ret
    exact ⟨by simp, E.1⟩
  cases b2
  · go_enter Try.func16, Try.ntmps16
    go_wp2_with (first
      | (go_at_call 51; (with_reducible refine (hN _).mono ?_); rintro X wq ⟨rfl, rfl⟩)
      | (go_at_call 14; (with_reducible refine (hV _ (hS.on (envC E)) (hT.on (envC E))).mono ?_); rintro X wq ⟨rfl, hb⟩; replace E := E.on hb; replace C := E.cells; simp [BC, CF] at C; clear hb))
    go_ret
    exact ⟨by simp, E.1⟩
  cases b3
  · go_enter Try.func16, Try.ntmps16
    go_wp2_with (first
      | (go_at_call 51; (with_reducible refine (hN _).mono ?_); rintro X wq ⟨rfl, rfl⟩)
      | (go_at_call 14; (with_reducible refine (hV _ (hS.on (envC E)) (hT.on (envC E))).mono ?_); rintro X wq ⟨rfl, hb⟩; replace E := E.on hb; replace C := E.cells; simp [BC, CF] at C; clear hb))
    go_ret
    exact ⟨by simp, E.1⟩
  cases b4
  · go_enter Try.func16, Try.ntmps16
    go_wp2_with (first
      | (go_at_call 51; (with_reducible refine (hN _).mono ?_); rintro X wq ⟨rfl, rfl⟩)
      | (go_at_call 14; (with_reducible refine (hV _ (hS.on (envC E)) (hT.on (envC E))).mono ?_); rintro X wq ⟨rfl, hb⟩; replace E := E.on hb; replace C := E.cells; simp [BC, CF] at C; clear hb))
    go_ret
    exact ⟨by simp, E.1⟩
  cases b5
  · go_enter Try.func16, Try.ntmps16
    go_wp2_with (first
      | (go_at_call 51; (with_reducible refine (hN _).mono ?_); rintro X wq ⟨rfl, rfl⟩)
      | (go_at_call 14; (with_reducible refine (hV _ (hS.on (envC E)) (hT.on (envC E))).mono ?_); rintro X wq ⟨rfl, hb⟩; replace E := E.on hb; replace C := E.cells; simp [BC, CF] at C; clear hb))
    go_ret
    exact ⟨by simp, E.1⟩
  go_enter Try.func16, Try.ntmps16
  go_wp2_with (first
      | (go_at_call 51; (with_reducible refine (hN _).mono ?_); rintro X wq ⟨rfl, rfl⟩)
      | (go_at_call 14; (with_reducible refine (hV _ (hS.on (envC E)) (hT.on (envC E))).mono ?_); rintro X wq ⟨rfl, hb⟩; replace E := E.on hb; replace C := E.cells; simp [BC, CF] at C; clear hb))
  go_ret
  exact ⟨by simp, E.1⟩
set_option maxHeartbeats 8000000 in
set_option maxRecDepth 100000 in
theorem rmember_17 (p q : Option Addr) (l h : List Bx) (c d : Nat) (nm : ByteArray) (cv ag po : Int) (w : World) (hS : Sl w p l) (hT : Sl w q h) (hn : nm.size ≤ maxLen) :
    Calls Try.prog 17 #[.agg #[.string nm, .slice p l.length c, .slice q h.length d, .int .i64 cv, .int .i64 ag, .int .i64 po]] w fun e w' => e = .returned (.bool (okM nm l h cv ag po)) ∧ Below w.heap.size w w' := by
  have hN : ∀ W, Calls Try.prog 52 #[.string nm] W fun e w' => e = .returned (.bool (Dec.nameB nm.data.toList)) ∧ W = w' := fun W => Dec.risName_any nm W hn
  have hV : ∀ W, Sl W p l → Sl W q h → Calls Try.prog 15 #[.agg #[.slice p l.length c, .slice q h.length d]] W fun e w' => e = .returned (.bool (okS l h)) ∧ Below W.heap.size W w' := fun W a b => rvalid_15 p q l h c d W a b
  have E := (Env.nil w).add w.heap.size 26 #[.string nm, .slice p l.length c, .slice q h.length d, .int .i64 cv, .int .i64 ag, .int .i64 po] rfl
  have C := E.cells
  simp [BC, CF] at C
  unfold okM
  generalize Dec.nameB nm.data.toList = a1 at *
  generalize okS l h = a2 at *
  obtain ⟨b1, h1⟩ : ∃ x, decide (0 ≤ cv) = x := ⟨_, rfl⟩
  obtain ⟨b2, h2⟩ : ∃ x, decide (cv ≤ 200) = x := ⟨_, rfl⟩
  obtain ⟨b3, h3⟩ : ∃ x, decide (1 ≤ ag) = x := ⟨_, rfl⟩
  obtain ⟨b4, h4⟩ : ∃ x, decide (ag ≤ 100) = x := ⟨_, rfl⟩
  obtain ⟨b5, h5⟩ : ∃ x, decide (1 ≤ po) = x := ⟨_, rfl⟩
  obtain ⟨b6, h6⟩ : ∃ x, decide (po ≤ 200) = x := ⟨_, rfl⟩
  rw [h1, h2, h3, h4, h5, h6]
  cases a1
  · go_enter Try.func17, Try.ntmps17
    go_wp2_with (first
      | (go_at_call 52; (with_reducible refine (hN _).mono ?_); rintro X wq ⟨rfl, rfl⟩)
      | (go_at_call 15; (with_reducible refine (hV _ (hS.on (envC E)) (hT.on (envC E))).mono ?_); rintro X wq ⟨rfl, hb⟩; replace E := E.on hb; replace C := E.cells; simp [BC, CF] at C; clear hb))
    go_ret
    exact ⟨by simp, E.1⟩
  cases a2
  · go_enter Try.func17, Try.ntmps17
    go_wp2_with (first
      | (go_at_call 52; (with_reducible refine (hN _).mono ?_); rintro X wq ⟨rfl, rfl⟩)
      | (go_at_call 15; (with_reducible refine (hV _ (hS.on (envC E)) (hT.on (envC E))).mono ?_); rintro X wq ⟨rfl, hb⟩; replace E := E.on hb; replace C := E.cells; simp [BC, CF] at C; clear hb))
    go_ret
    exact ⟨by simp, E.1⟩
  cases b1
  · go_enter Try.func17, Try.ntmps17
    go_wp2_with (first
      | (go_at_call 52; (with_reducible refine (hN _).mono ?_); rintro X wq ⟨rfl, rfl⟩)
      | (go_at_call 15; (with_reducible refine (hV _ (hS.on (envC E)) (hT.on (envC E))).mono ?_); rintro X wq ⟨rfl, hb⟩; replace E := E.on hb; replace C := E.cells; simp [BC, CF] at C; clear hb))
    go_ret
    exact ⟨by simp, E.1⟩
  cases b2
  · go_enter Try.func17, Try.ntmps17
    go_wp2_with (first
      | (go_at_call 52; (with_reducible refine (hN _).mono ?_); rintro X wq ⟨rfl, rfl⟩)
      | (go_at_call 15; (with_reducible refine (hV _ (hS.on (envC E)) (hT.on (envC E))).mono ?_); rintro X wq ⟨rfl, hb⟩; replace E := E.on hb; replace C := E.cells; simp [BC, CF] at C; clear hb))
    go_ret
    exact ⟨by simp, E.1⟩
  cases b3
  · go_enter Try.func17, Try.ntmps17
    go_wp2_with (first
      | (go_at_call 52; (with_reducible refine (hN _).mono ?_); rintro X wq ⟨rfl, rfl⟩)
      | (go_at_call 15; (with_reducible refine (hV _ (hS.on (envC E)) (hT.on (envC E))).mono ?_); rintro X wq ⟨rfl, hb⟩; replace E := E.on hb; replace C := E.cells; simp [BC, CF] at C; clear hb))
    go_ret
    exact ⟨by simp, E.1⟩
  cases b4
  · go_enter Try.func17, Try.ntmps17
    go_wp2_with (first
      | (go_at_call 52; (with_reducible refine (hN _).mono ?_); rintro X wq ⟨rfl, rfl⟩)
      | (go_at_call 15; (with_reducible refine (hV _ (hS.on (envC E)) (hT.on (envC E))).mono ?_); rintro X wq ⟨rfl, hb⟩; replace E := E.on hb; replace C := E.cells; simp [BC, CF] at C; clear hb))
    go_ret
    exact ⟨by simp, E.1⟩
  cases b5
  · go_enter Try.func17, Try.ntmps17
    go_wp2_with (first
      | (go_at_call 52; (with_reducible refine (hN _).mono ?_); rintro X wq ⟨rfl, rfl⟩)
      | (go_at_call 15; (with_reducible refine (hV _ (hS.on (envC E)) (hT.on (envC E))).mono ?_); rintro X wq ⟨rfl, hb⟩; replace E := E.on hb; replace C := E.cells; simp [BC, CF] at C; clear hb))
    go_ret
    exact ⟨by simp, E.1⟩
  go_enter Try.func17, Try.ntmps17
  go_wp2_with (first
      | (go_at_call 52; (with_reducible refine (hN _).mono ?_); rintro X wq ⟨rfl, rfl⟩)
      | (go_at_call 15; (with_reducible refine (hV _ (hS.on (envC E)) (hT.on (envC E))).mono ?_); rintro X wq ⟨rfl, hb⟩; replace E := E.on hb; replace C := E.cells; simp [BC, CF] at C; clear hb))
  go_ret
  exact ⟨by simp, E.1⟩
end Go.Proofs.Ytkgaahmehmbfjaa
