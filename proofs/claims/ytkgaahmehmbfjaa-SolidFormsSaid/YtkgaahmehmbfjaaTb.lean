/- Contains, Inside. -/
import Derived.Test.YtkgaahmehmbfjaaZ6
import Derived.Test.YtkgaahmehmbfjaaTa
namespace Go.Proofs.Ytkgaahmehmbfjaa
open Go.ChangeShapes Go.WideShapes Go.ChangeAt Go.RowKit
set_option linter.unusedVariables false
set_option linter.unusedSimpArgs false

theorem envB {w0 w : World} {l : List Fb} (h : Env w0 w l) : Below w0.heap.size w0 w := h.1
/-- The solid contains the box. -/
def inS (l h : List Bx) (b : Bx) : Bool := (h.all fun x => decide (0 ≤ gapB x b)) && covB l b
theorem val14 (p q : Option Addr) (l h : List Bx) (c d : Nat) (w : World) (hS : Sl w p l) (hT : Sl w q h) :
    Calls Try.prog 14 #[.agg #[.slice p l.length c, .slice q h.length d]] w fun e w' => e = .returned (.bool (okS l h)) ∧ Below w.heap.size w w' := valid_14 p q l h c d w hS hT
theorem gap_lt {x y : Bx} (hx : x.ok = true) (hy : y.ok = true) : -2097152 ≤ gapB x y ∧ gapB x y ≤ 2097152 := by
  unfold gapB
  exact mx_b (L := 2097152) (mx_b (L := 2097152) (gp_b hx hy 0) (gp_b hx hy 1)) (gp_b hx hy 2)
set_option maxHeartbeats 8000000 in
set_option maxRecDepth 100000 in
theorem Contains_no (p q : Option Addr) (l h : List Bx) (c d : Nat) (b : Bx) (w : World) (hS : Sl w p l) (hT : Sl w q h) (hv : okS l h = false ∨ b.ok = false) :
    Calls Try.prog 13 #[sv p q l h c d, b.val] w fun e w' => e = .returned (.tuple #[.bool false, .int .i64 1]) ∧ Below w.heap.size w w' := by
  have h14 := fun W a b => val14 p q l h c d W a b
  have h46 : ∀ W, Calls Try.prog 46 #[b.val] W fun e w' => e = .returned (.bool b.ok) ∧ Below W.heap.size W w' := fun W => valid_any b.a b.b b.c b.d b.e b.f W
  have E := ((Env.nil w).add w.heap.size 24 #[.slice p l.length c, .slice q h.length d] rfl).add (w.heap.size + 1) 30 #[.int .i64 b.a, .int .i64 b.b, .int .i64 b.c, .int .i64 b.d, .int .i64 b.e, .int .i64 b.f] (by simp)
  have C := E.cells
  simp [BC, CF] at C
  unfold Bx.val sv at *
  cases hs : okS l h
  · simp only [hs] at h14
    go_enter Try.func13, Try.ntmps13
    go_wp2_with (first
      | (go_at_call 14; (with_reducible refine (h14 _ (hS.on (envB E)) (hT.on (envB E))).mono ?_); rintro X wq ⟨rfl, hb⟩; replace E := E.on hb; replace C := E.cells; simp [BC, CF] at C; clear hb)
      | (go_at_call 46; (with_reducible refine (h46 _).mono ?_); rintro X wq ⟨rfl, hb⟩; replace E := E.on hb; replace C := E.cells; simp [BC, CF] at C; clear hb))
    refine bodyPost_ret (v := .tuple #[.bool false, .int .i64 1]) (by simp [results, Try.results13, go_sem]) rfl ⟨rfl, E.1⟩
  · have hb : b.ok = false := by rcases hv with hv | hv
                                 · rw [hs] at hv; cases hv
                                 · exact hv
    simp only [hs] at h14
    simp only [hb] at h46
    go_enter Try.func13, Try.ntmps13
    go_wp2_with (first
      | (go_at_call 14; (with_reducible refine (h14 _ (hS.on (envB E)) (hT.on (envB E))).mono ?_); rintro X wq ⟨rfl, hb⟩; replace E := E.on hb; replace C := E.cells; simp [BC, CF] at C; clear hb)
      | (go_at_call 46; (with_reducible refine (h46 _).mono ?_); rintro X wq ⟨rfl, hb⟩; replace E := E.on hb; replace C := E.cells; simp [BC, CF] at C; clear hb))
    refine bodyPost_ret (v := .tuple #[.bool false, .int .i64 1]) (by simp [results, Try.results13, go_sem]) rfl ⟨rfl, E.1⟩
set_option maxHeartbeats 8000000 in
set_option maxRecDepth 100000 in
theorem Contains_ok (p q : Option Addr) (l h : List Bx) (c d : Nat) (b : Bx) (w : World) (hS : Sl w p l) (hT : Sl w q h) (hs : okS l h = true) (hbo : b.ok = true) :
    Calls Try.prog 13 #[sv p q l h c d, b.val] w fun e w' => e = .returned (.tuple #[.bool (inS l h b), .int .i64 0]) ∧ Below w.heap.size w w' := by
  obtain ⟨⟨hl1, hl2⟩, hh, hlt, hht⟩ := okS_i.1 hs
  have hm : h.length ≤ 20 := hh
  obtain ⟨RES, hRES⟩ : ∃ R, R = inS l h b := ⟨_, rfl⟩
  rw [← hRES]
  have HR := Lib.hid hRES
  clear hRES
  have h36 := fun x hx W => Gap_ok x b W hx hbo
  have h47 := fun W H => Covers_ok p l c b W H hbo (all_tk hlt) (by omega)
  have h14 := fun W a b => val14 p q l h c d W a b
  have h46 : ∀ W, Calls Try.prog 46 #[b.val] W fun e w' => e = .returned (.bool b.ok) ∧ Below W.heap.size W w' := fun W => valid_any b.a b.b b.c b.d b.e b.f W
  have E := ((Env.nil w).add w.heap.size 24 #[.slice p l.length c, .slice q h.length d] rfl).add (w.heap.size + 1) 30 #[.int .i64 b.a, .int .i64 b.b, .int .i64 b.c, .int .i64 b.d, .int .i64 b.e, .int .i64 b.f] (by simp)
  have C := E.cells
  simp [BC, CF] at C
  unfold Bx.val sv at *
  simp only [hs] at h14
  simp only [hbo] at h46
  go_enter Try.func13, Try.ntmps13
  go_upto_region 4 with (first
    | (go_at_call 14; (with_reducible refine (h14 _ (hS.on (envB E)) (hT.on (envB E))).mono ?_); rintro X wq ⟨rfl, hb⟩; replace E := E.on hb; replace C := E.cells; simp [BC, CF] at C; clear hb)
    | (go_at_call 46; (with_reducible refine (h46 _).mono ?_); rintro X wq ⟨rfl, hb⟩; replace E := E.on hb; replace C := E.cells; simp [BC, CF] at C; clear hb))
  go_loopw [21] (fun v21 wr => ∃ k : Nat, v21 = .int .i64 (k : Int) ∧ k ≤ h.length ∧ Hid (∀ x ∈ h.take k, 0 ≤ gapB x b) ∧ Env w wr [⟨w.heap.size + 1, 30, #[.int .i64 b.a, .int .i64 b.b, .int .i64 b.c, .int .i64 b.d, .int .i64 b.e, .int .i64 b.f]⟩, ⟨w.heap.size, 24, #[.slice p l.length c, .slice q h.length d]⟩]) (fun v _ => h.length - (intOf v).toNat)
  case atStart => exact ⟨0, rfl, Nat.zero_le _, Lib.hid (by simp), E⟩
  case round =>
    clear E C
    obtain ⟨k, rfl, hk, hG, E⟩ := hrel
    by_cases hlt' : k < h.length
    · have g1 : decide ((k : Int) < (h.length : Int)) = true := by simp [hlt']
      obtain ⟨a, rfl, c0, c1, c2, c3, c4, c5⟩ := (hT.on (envB E)).at hlt'
      have W1 : IntKind.i64.wrap ((k : Int) + 1) = ((k + 1 : Nat) : Int) := by rw [IntWalk.i64_in _ (by omega)]; omega
      have hg := h36 h[k] (tk_ok (hht _ (List.getElem_mem hlt')))
      replace E := E.add wr.heap.size 30 #[.int .i64 h[k].a, .int .i64 h[k].b, .int .i64 h[k].c, .int .i64 h[k].d, .int .i64 h[k].e, .int .i64 h[k].f] rfl
      have C := E.cells
      simp [BC, CF] at C
      have HG1 := Lib.hid (show ∀ x ∈ h.take (k + 1), x ∈ h.take k ∨ x = h[k] from fun x hx => by
        rw [List.take_succ_eq_append_getElem hlt', List.mem_append, List.mem_singleton] at hx
        exact hx)
      have HN : Hid (gapB h[k] b < 0 → inS l h b = false) := Lib.hid (fun hn => by
        unfold inS
        rw [show (h.all fun x => decide (0 ≤ gapB x b)) = false from List.all_eq_false.2 ⟨_, List.getElem_mem hlt', by simp; omega⟩]
        rfl)
      rcases Int.lt_or_le (gapB h[k] b) 0 with hn | hn
      · have e := HR.out.trans (HN.out hn)
        subst e
        have q1 : decide (gapB h[k] b < 0) = true := by simp [hn]
        clear HN HG1
        generalize gapB h[k] b = gp1 at *
        go_wp2_with (go_at_call 36; (with_reducible refine (hg _).mono ?_); rintro X wq ⟨rfl, hb⟩; replace E := E.on hb; replace C := E.cells; simp [BC, CF] at C; clear hb)
        refine bodyPost_ret (v := .tuple #[.bool false, .int .i64 0]) (by simp [results, Try.results13, go_sem]) rfl ⟨rfl, E.1⟩
      · have q1 : decide (gapB h[k] b < 0) = false := by simp; omega
        have HG2 : Hid (∀ x ∈ h.take (k + 1), 0 ≤ gapB x b) := Lib.hid (fun x hx => by
          rcases HG1.out x hx with hx | rfl
          · exact hG.out x hx
          · exact hn)
        clear HN HG1 hG
        generalize gapB h[k] b = gp1 at *
        go_wp2_with (go_at_call 36; (with_reducible refine (hg _).mono ?_); rintro X wq ⟨rfl, hb⟩; replace E := E.on hb; replace C := E.cells; simp [BC, CF] at C; clear hb)
        exact ⟨⟨k + 1, rfl, hlt', HG2, E.tail⟩, by simp [intOf]; omega⟩
    · have g1 : decide ((k : Int) < (h.length : Int)) = false := by simp; omega
      have hf := hG.out
      rw [List.take_of_length_le (by omega)] at hf
      have e : inS l h b = covB l b := by
        unfold inS
        rw [show (h.all fun x => decide (0 ≤ gapB x b)) = true from List.all_eq_true.2 fun x hx => by simpa using hf x hx]
        rfl
      have e := HR.out.trans e
      clear HR
      subst e
      have C := E.cells
      simp [BC, CF] at C
      go_wp2_with (go_at_call 47; (with_reducible refine (h47 _ (hS.on (envB E))).mono ?_); rintro X wq ⟨rfl, hb⟩; replace E := E.on hb; replace C := E.cells; simp [BC, CF] at C; clear hb)
      refine bodyPost_ret (v := .tuple #[.bool (covB l b), .int .i64 0]) (by simp [results, Try.results13, go_sem]) rfl ⟨rfl, E.1⟩
set_option maxHeartbeats 8000000 in
set_option maxRecDepth 100000 in
theorem Inside_no (p q : Option Addr) (l h : List Bx) (c d : Nat) (x y z : Int) (w : World) (hS : Sl w p l) (hT : Sl w q h) (hs : okS l h = false) :
    Calls Try.prog 12 #[sv p q l h c d, .agg #[.int .i64 x, .int .i64 y, .int .i64 z]] w fun e w' => e = .returned (.tuple #[.bool false, .int .i64 1]) ∧ Below w.heap.size w w' := by
  have h14 := fun W a b => val14 p q l h c d W a b
  have E := ((Env.nil w).add w.heap.size 24 #[.slice p l.length c, .slice q h.length d] rfl).add (w.heap.size + 1) 28 #[.int .i64 x, .int .i64 y, .int .i64 z] (by simp)
  have C := E.cells
  simp [BC, CF] at C
  simp only [hs] at h14
  unfold sv
  go_enter Try.func12, Try.ntmps12
  go_wp2_with (first
    | (go_at_call 14; (with_reducible refine (h14 _ (hS.on (envB E)) (hT.on (envB E))).mono ?_); rintro X wq ⟨rfl, hb⟩; replace E := E.on hb; replace C := E.cells; simp [BC, CF] at C; clear hb))
  refine bodyPost_ret (v := .tuple #[.bool false, .int .i64 1]) (by simp [results, Try.results12, go_sem]) rfl ⟨rfl, E.1⟩
/-- A point, as a box. -/
def ptX (x y z : Int) : Bx := ⟨x, y, z, x, y, z⟩
set_option maxHeartbeats 8000000 in
set_option maxRecDepth 100000 in
theorem Inside_far (p q : Option Addr) (l h : List Bx) (c d : Nat) (x y z : Int) (w : World) (hS : Sl w p l) (hT : Sl w q h) (hs : okS l h = true) (hp : (ptX x y z).ok = false) :
    Calls Try.prog 12 #[sv p q l h c d, .agg #[.int .i64 x, .int .i64 y, .int .i64 z]] w fun e w' => e = .returned (.tuple #[.bool false, .int .i64 2]) ∧ Below w.heap.size w w' := by
  have h14 := fun W a b => val14 p q l h c d W a b
  have h46 : ∀ W, Calls Try.prog 46 #[.agg #[.int .i64 x, .int .i64 y, .int .i64 z, .int .i64 x, .int .i64 y, .int .i64 z]] W fun e w' => e = .returned (.bool (ptX x y z).ok) ∧ Below W.heap.size W w' := fun W => valid_any x y z x y z W
  have E := ((Env.nil w).add w.heap.size 24 #[.slice p l.length c, .slice q h.length d] rfl).add (w.heap.size + 1) 28 #[.int .i64 x, .int .i64 y, .int .i64 z] (by simp)
  have C := E.cells
  simp [BC, CF] at C
  simp only [hs] at h14
  simp only [hp] at h46
  unfold sv
  go_enter Try.func12, Try.ntmps12
  go_upto_region 3 with (first
    | (go_at_call 14; (with_reducible refine (h14 _ (hS.on (envB E)) (hT.on (envB E))).mono ?_); rintro X wq ⟨rfl, hb⟩; replace E := E.on hb; replace C := E.cells; simp [BC, CF] at C; clear hb))
  go_upto_region 4 with fail
  replace E := E.add wq.heap.size 30 #[.int .i64 x, .int .i64 y, .int .i64 z, .int .i64 x, .int .i64 y, .int .i64 z] rfl
  replace C := E.cells
  simp [BC, CF] at C
  go_wp2_with (first
    | (go_at_call 46; (with_reducible refine (h46 _).mono ?_); rintro X wq ⟨rfl, hb⟩; replace E := E.on hb; replace C := E.cells; simp [BC, CF] at C; clear hb))
  refine bodyPost_ret (v := .tuple #[.bool false, .int .i64 2]) (by simp [results, Try.results12, go_sem]) rfl ⟨rfl, E.1⟩
set_option maxHeartbeats 8000000 in
set_option maxRecDepth 100000 in
theorem Inside_ok (p q : Option Addr) (l h : List Bx) (c d : Nat) (x y z : Int) (w : World) (hS : Sl w p l) (hT : Sl w q h) (hs : okS l h = true) (hp : (ptX x y z).ok = true) :
    Calls Try.prog 12 #[sv p q l h c d, .agg #[.int .i64 x, .int .i64 y, .int .i64 z]] w fun e w' => e = .returned (.tuple #[.bool (inS l h (ptX x y z)), .int .i64 0]) ∧ Below w.heap.size w w' := by
  have h14 := fun W a b => val14 p q l h c d W a b
  have h46 : ∀ W, Calls Try.prog 46 #[.agg #[.int .i64 x, .int .i64 y, .int .i64 z, .int .i64 x, .int .i64 y, .int .i64 z]] W fun e w' => e = .returned (.bool (ptX x y z).ok) ∧ Below W.heap.size W w' := fun W => valid_any x y z x y z W
  have h13 : ∀ W, Sl W p l → Sl W q h → Calls Try.prog 13 #[.agg #[.slice p l.length c, .slice q h.length d], .agg #[.int .i64 x, .int .i64 y, .int .i64 z, .int .i64 x, .int .i64 y, .int .i64 z]] W fun e w' => e = .returned (.tuple #[.bool (inS l h (ptX x y z)), .int .i64 0]) ∧ Below W.heap.size W w' := fun W a b => Contains_ok p q l h c d (ptX x y z) W a b hs hp
  have E := ((Env.nil w).add w.heap.size 24 #[.slice p l.length c, .slice q h.length d] rfl).add (w.heap.size + 1) 28 #[.int .i64 x, .int .i64 y, .int .i64 z] (by simp)
  have C := E.cells
  simp [BC, CF] at C
  simp only [hs] at h14
  simp only [hp] at h46
  generalize inS l h (ptX x y z) = R at *
  unfold sv
  go_enter Try.func12, Try.ntmps12
  go_upto_region 3 with (first
    | (go_at_call 14; (with_reducible refine (h14 _ (hS.on (envB E)) (hT.on (envB E))).mono ?_); rintro X wq ⟨rfl, hb⟩; replace E := E.on hb; replace C := E.cells; simp [BC, CF] at C; clear hb))
  go_upto_region 4 with fail
  replace E := E.add wq.heap.size 30 #[.int .i64 x, .int .i64 y, .int .i64 z, .int .i64 x, .int .i64 y, .int .i64 z] rfl
  replace C := E.cells
  simp [BC, CF] at C
  go_wp2_with (first
    | (go_at_call 46; (with_reducible refine (h46 _).mono ?_); rintro X wq ⟨rfl, hb⟩; replace E := E.on hb; replace C := E.cells; simp [BC, CF] at C; clear hb)
    | (go_at_call 13; (with_reducible refine (h13 _ (hS.on (envB E)) (hT.on (envB E))).mono ?_); rintro X wq ⟨rfl, hb⟩; replace E := E.on hb; replace C := E.cells; simp [BC, CF] at C; clear hb))
  refine bodyPost_ret (v := .tuple #[.bool R, .int .i64 0]) (by simp [results, Try.results12, go_sem]) rfl ⟨rfl, E.1⟩
end Go.Proofs.Ytkgaahmehmbfjaa
