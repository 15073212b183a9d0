/- ShapeWalks. -/
import Derived.Test.YtcadghenjcaaiaaWa
import Derived.Deep.CutBlock
namespace Go.Proofs.Ytcadghenjcaaiaa
open Go.ChangeShapes Go.WideShapes Go.ChangeAt Go.RowKit
set_option linter.unusedVariables false
set_option linter.unusedSimpArgs false

def axN (c : Int) (k : Nat) : Nat := if way c k = 88 ∨ way c k = 120 then 0 else if way c k = 89 ∨ way c k = 121 then 1 else 2
def lastA (c : Int) : Nat → Nat
  | 0 => 0
  | k + 1 => axN c k + 1
theorem way_in {c : Int} (h : isC c = true) {k : Nat} (hk : k < nl c) : way c k = 88 ∨ way c k = 120 ∨ way c k = 89 ∨ way c k = 121 ∨ way c k = 90 := by
  rcases code_in h with rfl | rfl | rfl | rfl | rfl | rfl | rfl | rfl <;>
  · have hk' : k < 6 := Nat.lt_of_lt_of_le hk (nl_le h)
    revert hk
    rcases (by omega : k = 0 ∨ k = 1 ∨ k = 2 ∨ k = 3 ∨ k = 4 ∨ k = 5) with rfl | rfl | rfl | rfl | rfl | rfl <;> decide
theorem ax_ne {c : Int} (h : isC c = true) {k : Nat} (hk : k + 1 < nl c) : axN c (k + 1) ≠ axN c k := by
  rcases code_in h with rfl | rfl | rfl | rfl | rfl | rfl | rfl | rfl <;>
  · have hk' : k < 5 := by have := nl_le h; omega
    revert hk
    rcases (by omega : k = 0 ∨ k = 1 ∨ k = 2 ∨ k = 3 ∨ k = 4) with rfl | rfl | rfl | rfl | rfl <;> decide
theorem last_ne {c : Int} (h : isC c = true) {k : Nat} (hk : k < nl c) : axN c k + 1 ≠ lastA c k := by
  cases k with
  | zero => simp [lastA]
  | succ k =>
    have := ax_ne h hk
    show axN c (k + 1) + 1 ≠ axN c k + 1
    omega
theorem leg_step {b : Bar} (h : barB b = true) {k : Nat} (hk : k < nl b.code) (w : World) :
    Calls Try.prog 28 #[(pt b k).val, (pt b (k + 1)).val] w fun e w' => e = .returned (.tuple #[.int .i64 ((axN b.code k + 1 : Nat) : Int), .int .i64 (legF b k)]) ∧ Below w.heap.size w w' := by
  have h1 := leg_bd h hk
  have e : pt b (k + 1) = mv (pt b k) (way b.code k) (legF b k) := rfl
  rw [e]
  unfold axN
  rcases way_in (barB_and h).1 hk with hw | hw | hw | hw | hw <;> rw [hw]
  · exact along_any _ _ 0 (legF b k) _ w (by omega) (.inl rfl) (.inl ⟨rfl, by simp [mv]; omega, by simp [mv], by simp [mv]⟩)
  · exact along_any _ _ 0 (-legF b k) _ w (by omega) (.inr rfl) (.inl ⟨rfl, by simp [mv]; omega, by simp [mv], by simp [mv]⟩)
  · exact along_any _ _ 1 (legF b k) _ w (by omega) (.inl rfl) (.inr (.inl ⟨rfl, by simp [mv], by simp [mv]; omega, by simp [mv]⟩))
  · exact along_any _ _ 1 (-legF b k) _ w (by omega) (.inr rfl) (.inr (.inl ⟨rfl, by simp [mv], by simp [mv]; omega, by simp [mv]⟩))
  · exact along_any _ _ 2 (legF b k) _ w (by omega) (.inl rfl) (.inr (.inr ⟨rfl, by simp [mv], by simp [mv], by simp [mv]; omega⟩))
theorem legs_sum {b : Bar} (h : barB b = true) : (legs b).sum ≤ 524288 := by
  obtain ⟨hC, hl, hf, -⟩ := barB_and h
  obtain ⟨mk, sz, ct, cd, p, ds, cap⟩ := b
  dsimp only at hC hl hf
  have hs := (fitB_sum _ _ (by omega) hf).2
  have hm := fitB_mem _ _ hf (by omega)
  rcases code_in hC with rfl | rfl | rfl | rfl | rfl | rfl | rfl | rfl
  · have hl' : ds.length = 1 := hl.trans (by kernel_rfl)
    match ds, hl' with
    | [d0], _ =>
      have e : legs ⟨mk, sz, ct, 0, p, [d0], cap⟩ = [d0] := by kernel_rfl
      rw [e]
      simp only [List.mem_cons, List.not_mem_nil, or_false, forall_eq_or_imp, forall_eq] at hm
      simp only [List.sum_cons, List.sum_nil] at hs ⊢
      omega
  · have hl' : ds.length = 2 := hl.trans (by kernel_rfl)
    match ds, hl' with
    | [d0, d1], _ =>
      have e : legs ⟨mk, sz, ct, 11, p, [d0, d1], cap⟩ = [d0, d1] := by kernel_rfl
      rw [e]
      simp only [List.mem_cons, List.not_mem_nil, or_false, forall_eq_or_imp, forall_eq] at hm
      simp only [List.sum_cons, List.sum_nil] at hs ⊢
      omega
  · have hl' : ds.length = 3 := hl.trans (by kernel_rfl)
    match ds, hl' with
    | [d0, d1, d2], _ =>
      have e : legs ⟨mk, sz, ct, 21, p, [d0, d1, d2], cap⟩ = [d0, d1, d2] := by kernel_rfl
      rw [e]
      simp only [List.mem_cons, List.not_mem_nil, or_false, forall_eq_or_imp, forall_eq] at hm
      simp only [List.sum_cons, List.sum_nil] at hs ⊢
      omega
  · have hl' : ds.length = 3 := hl.trans (by kernel_rfl)
    match ds, hl' with
    | [d0, d1, d2], _ =>
      have e : legs ⟨mk, sz, ct, 26, p, [d0, d1, d2], cap⟩ = [d0, d1, d2] := by kernel_rfl
      rw [e]
      simp only [List.mem_cons, List.not_mem_nil, or_false, forall_eq_or_imp, forall_eq] at hm
      simp only [List.sum_cons, List.sum_nil] at hs ⊢
      omega
  · have hl' : ds.length = 3 := hl.trans (by kernel_rfl)
    match ds, hl' with
    | [d0, d1, d2], _ =>
      have e : legs ⟨mk, sz, ct, 31, p, [d0, d1, d2], cap⟩ = [d0, d1, d2] := by kernel_rfl
      rw [e]
      simp only [List.mem_cons, List.not_mem_nil, or_false, forall_eq_or_imp, forall_eq] at hm
      simp only [List.sum_cons, List.sum_nil] at hs ⊢
      omega
  · have hl' : ds.length = 5 := hl.trans (by kernel_rfl)
    match ds, hl' with
    | [d0, d1, d2, d3, d4], _ =>
      have e : legs ⟨mk, sz, ct, 41, p, [d0, d1, d2, d3, d4], cap⟩ = [d0, d1, d2, d3, d4] := by kernel_rfl
      rw [e]
      simp only [List.mem_cons, List.not_mem_nil, or_false, forall_eq_or_imp, forall_eq] at hm
      simp only [List.sum_cons, List.sum_nil] at hs ⊢
      omega
  · have hl' : ds.length = 3 := hl.trans (by kernel_rfl)
    match ds, hl' with
    | [d0, d1, d2], _ =>
      have e : legs ⟨mk, sz, ct, 51, p, [d0, d1, d2], cap⟩ = [d2, d0, d1, d0, d1, d2] := by kernel_rfl
      rw [e]
      simp only [List.mem_cons, List.not_mem_nil, or_false, forall_eq_or_imp, forall_eq] at hm
      simp only [List.sum_cons, List.sum_nil] at hs ⊢
      omega
  · have hl' : ds.length = 3 := hl.trans (by kernel_rfl)
    match ds, hl' with
    | [d0, d1, d2], _ =>
      have e : legs ⟨mk, sz, ct, 98, p, [d0, d1, d2], cap⟩ = [d0, d1, d2, d1, d0] := by kernel_rfl
      rw [e]
      simp only [List.mem_cons, List.not_mem_nil, or_false, forall_eq_or_imp, forall_eq] at hm
      simp only [List.sum_cons, List.sum_nil] at hs ⊢
      omega
theorem ownf {B : Nat} {w : World} {v : Value} {l : List Pt} {n : Nat} (h : Own pc 40 3 B w v l) (hl : l.length = n + 1) : ∃ g cap, v = .slice (some ⟨g, 0, none⟩) (n + 1) cap ∧ ∀ k (hk : k < l.length), w.cell? ⟨g, k * 3, none⟩ = some (.int .i64 l[k].x) ∧ w.cell? ⟨g, k * 3 + 1, none⟩ = some (.int .i64 l[k].y) ∧ w.cell? ⟨g, k * 3 + 2, none⟩ = some (.int .i64 l[k].z) := by
  obtain ⟨g, cap, e, h⟩ := h.fn (by omega)
  rw [hl] at e
  exact ⟨g, cap, e, h⟩
theorem ne40_zero (W : World) : (binOp .neq 40 (.agg #[.int .i64 0, .int .i64 0, .int .i64 0]) (.agg #[.int .i64 0, .int .i64 0, .int .i64 0])).run Try.prog W = .ok (.bool false) W := by
  have h := ne40 ⟨0, 0, 0⟩ ⟨0, 0, 0⟩ W
  rw [decide_eq_true (show (⟨0, 0, 0⟩ : Pt) = ⟨0, 0, 0⟩ from rfl)] at h
  exact h
set_option maxHeartbeats 8000000 in
set_option maxRecDepth 100000 in
theorem walks_s (b : Bar) (w : World) (hk : b.Ok w) (h1 : (decide (b.ds.length ≤ 8) && decide (b.mark.size ≤ 60)) = false) : Calls Try.prog 6 #[b.val] w fun e w' => e = .returned (.bool true) ∧ Below w.heap.size w w' := by
  have h16 := fun W => Short_any b W
  rw [h1] at h16
  have E := (Env.nil w).add w.heap.size 32 b.cs rfl
  clear hk h1
  simp only [Bar.val, Bar.cs] at *
  have C := E.cells
  simp [BC, CF] at C
  go_enter Try.func6, Try.ntmps6
  go_wp2_with (first
    | (go_at_call 10; (with_reducible refine (awake_any _).mono ?_); rintro X w1 ⟨rfl, hb⟩; replace E := E.on hb; replace C := E.cells; simp [BC, CF] at C; clear hb)
    | (go_at_call 16; (with_reducible refine (h16 _).mono ?_); rintro X w2 ⟨rfl, hb⟩; replace E := E.on hb; replace C := E.cells; simp [BC, CF] at C; clear hb))
  go_ret
  exact ⟨rfl, envb E⟩
set_option maxHeartbeats 8000000 in
set_option maxRecDepth 100000 in
theorem walks_n (b : Bar) (w : World) (hk : b.Ok w) (h1 : (decide (b.ds.length ≤ 8) && decide (b.mark.size ≤ 60)) = true) (hv : barB b = false) : Calls Try.prog 6 #[b.val] w fun e w' => e = .returned (.bool true) ∧ Below w.heap.size w w' := by
  have h16 := fun W => Short_any b W
  have h17 := fun W (h : Below w.heap.size w W) => Legs_no b W (hk.on h) hv
  have h18 := fun W (h : Below w.heap.size w W) => Path_no b W (hk.on h) hv
  have h21 := fun W (h : Below w.heap.size w W) => Valid_any b W (hk.on h)
  rw [h1] at h16
  rw [hv] at h21
  have E := (Env.nil w).add w.heap.size 32 b.cs rfl
  clear hk h1 hv
  simp only [Bar.val, Bar.cs] at *
  have C := E.cells
  simp [BC, CF] at C
  go_enter Try.func6, Try.ntmps6
  go_wp2_with (first
    | (go_at_call 10; (with_reducible refine (awake_any _).mono ?_); rintro X w1 ⟨rfl, hb⟩; replace E := E.on hb; replace C := E.cells; simp [BC, CF] at C; clear hb)
    | (go_at_call 16; (with_reducible refine (h16 _).mono ?_); rintro X w2 ⟨rfl, hb⟩; replace E := E.on hb; replace C := E.cells; simp [BC, CF] at C; clear hb)
    | (go_at_call 17; (with_reducible refine (h17 _ (envb E)).mono ?_); rintro X w3 ⟨rfl, hb⟩; replace E := E.on hb; replace C := E.cells; simp [BC, CF] at C; clear hb)
    | (go_at_call 18; (with_reducible refine (h18 _ (envb E)).mono ?_); rintro X w3 ⟨rfl, hb⟩; replace E := E.on hb; replace C := E.cells; simp [BC, CF] at C; clear hb)
    | (go_at_call 21; (with_reducible refine (h21 _ (envb E)).mono ?_); rintro X w3 ⟨rfl, hb⟩; replace E := E.on hb; replace C := E.cells; simp [BC, CF] at C; clear hb))
  go_ret
  exact ⟨rfl, envb E⟩
set_option maxHeartbeats 16000000 in
set_option maxRecDepth 100000 in
theorem walks_v (b : Bar) (w : World) (hk : b.Ok w) (h1 : (decide (b.ds.length ≤ 8) && decide (b.mark.size ≤ 60)) = true) (hv : barB b = true) : Calls Try.prog 6 #[b.val] w fun e w' => e = .returned (.bool true) ∧ Below w.heap.size w w' := by
  have h16 := fun W => Short_any b W
  have h17 := fun W (h : Below w.heap.size w W) => Legs_ok b W (hk.on h) hv
  have h18 := fun W (h : Below w.heap.size w W) => Path_ok b W (hk.on h) hv
  have hC := (barB_and hv).1
  have n6 := nl_le hC
  have n0 := nl_pos hC
  have hT := fun k (h : k < nl b.code) W => leg_step hv h W
  have hA := fun k (h : k < nl b.code) => last_ne hC h
  have hB := fun k (h : k < nl b.code) => leg_bd hv h
  have hS := legs_sum hv
  have hPL := pts_len b
  have hLL := legs_len b
  have hP : ∀ k (h : k < (pts b).length), (pts b)[k] = pt b k := fun k h => by simp [pts]
  have hL : ∀ k (h : k < (legs b).length), (legs b)[k] = legF b k := fun k h => by simp [legs]
  have hp0 : pt b 0 = ⟨0, 0, 0⟩ := rfl
  have hl1 : ∀ k, lastA b.code (k + 1) = axN b.code k + 1 := fun k => rfl
  have hl0 : lastA b.code 0 = 0 := rfl
  have HT := Lib.hid hT
  have HA := Lib.hid hA
  have HB := Lib.hid hB
  have HS := Lib.hid hS
  have HPL := Lib.hid hPL
  have HLL := Lib.hid hLL
  have HP := Lib.hid hP
  have HL := Lib.hid hL
  have HP0 := Lib.hid hp0
  have HL1 := Lib.hid hl1
  have HL0 := Lib.hid hl0
  rw [h1] at h16
  have E := (Env.nil w).add w.heap.size 32 b.cs rfl
  clear hk h1 hv hT hA hB hS hPL hLL hP hL hp0 hl1 hl0 hC
  simp only [Bar.val, Bar.cs] at h16 h17 h18 E ⊢
  generalize lastA b.code = la at *
  generalize axN b.code = ax at *
  generalize pts b = PS at *
  generalize legs b = LS at *
  generalize pt b = pf at *
  generalize legF b = lf at *
  generalize nl b.code = n at *
  generalize mc b.code = m at *
  have q0 : ((n : Int) == 0) = false := by simp; omega
  have q1 : decide ((n : Int) > 8) = false := by simp; omega
  have q1' : decide (8 < (n : Int)) = false := q1
  have q2 : IntKind.i64.wrap ((n : Int) + 1) = ((n + 1 : Nat) : Int) := by rw [IntWalk.i64_in _ (by omega)]; omega
  have hz := ne40_zero
  have C := E.cells
  simp [BC, CF] at C
  go_enter Try.func6, Try.ntmps6
  go_upto_region 9 with (first
    | (go_at_call 10; (with_reducible refine (awake_any _).mono ?_); rintro X w1 ⟨rfl, hb⟩; replace E := E.on hb; replace C := E.cells; simp [BC, CF] at C; clear hb)
    | (go_at_call 16; (with_reducible refine (h16 _).mono ?_); rintro X w2 ⟨rfl, hb⟩; replace E := E.on hb; replace C := E.cells; simp [BC, CF] at C; clear hb)
    | (go_at_call 17; (with_reducible refine (h17 _ (envb E)).mono ?_); rintro X w3 ⟨gl, rfl, hR, hb⟩; replace E := E.on hb; replace C := E.cells; simp [BC, CF] at C; clear hb)
    | (go_at_call 18; (with_reducible refine (h18 _ (envb E)).mono ?_); rintro X w3 ⟨v, rfl, hO, hb⟩; replace E := E.on hb; replace hR := hR.on hb; replace C := E.cells; simp [BC, CF] at C; clear hb; obtain ⟨gp, cap2, rfl, hP⟩ := ownf hO HPL.out))
  have z := hP 0 (by rw [HPL.out]; omega)
  rw [HP.out, HP0.out] at z
  obtain ⟨z0, z1, z2⟩ := z
  simp at z0 z1 z2
  have HR := Lib.hid hR
  have HPc := Lib.hid hP
  have EW := envb E
  clear hR hP hO
  go_wp2_with fail
  clear z0 z1 z2 hz
  go_loopw [7, 8, 67] (fun v7 v8 v67 wr => ∃ (k : Nat) (s : Int), v67 = .int .i64 k ∧ v7 = .int .i64 (la k : Nat) ∧ v8 = .int .i64 s ∧ k ≤ n ∧ 0 ≤ s ∧ s ≤ (k : Int) * 262144 ∧ Hid ((LS.take k).sum = s) ∧ Below w3.heap.size w3 wr) (fun _ _ v _ => n - (intOf v).toNat)
  case atStart => exact ⟨0, 0, rfl, by rw [HL0.out]; rfl, rfl, Nat.zero_le _, by omega, by omega, Lib.hid rfl, Below.refl _ _⟩
  case round =>
    clear E C
    obtain ⟨k, s, rfl, rfl, rfl, hk, s0, s1, hG, B⟩ := hrel
    by_cases hlt : k < n
    · have g1 : decide ((k : Int) < (n : Int)) = true := by simp [hlt]
      have W1 : IntKind.i64.wrap ((k : Int) + 1) = ((k + 1 : Nat) : Int) := by rw [IntWalk.i64_in _ (by omega)]; omega
      have p1 : (0 : Int) ≤ (k : Int) := by omega
      have p2 : (k : Int) < (n : Int) := by omega
      have p3 : (k : Int) < ((n + 1 : Nat) : Int) := by omega
      have p4 : ((k + 1 : Nat) : Int) < ((n + 1 : Nat) : Int) := by omega
      have p5 : (0 : Int) ≤ ((k + 1 : Nat) : Int) := by omega
      have p6 : (k : Int) < (n : Int) + 1 := by omega
      have p7 : k < n + 1 := by omega
      have p8 : (k : Int) + 1 < (n : Int) + 1 := by omega
      have p9 : k + 1 < n + 1 := by omega
      have p10 : k ≤ n := by omega
      have p11 : (0 : Int) ≤ (k : Int) + 1 := by omega
      have p12 : ((k : Int) + 1).toNat = k + 1 := by omega
      obtain ⟨q, c, e0, hr⟩ := HR.out
      simp only [Value.slice.injEq] at e0
      obtain ⟨rfl, e1, -⟩ := e0
      obtain ⟨a, ea, d0⟩ := hr k (by omega)
      cases ea
      have d1 : w3.cell? ⟨gl, k, none⟩ = some (.int .i64 (lf k)) := by
        rw [Addr.add_lit, Nat.zero_add] at d0
        rw [d0, HL.out]
      have d2 := cell_later B d1
      clear d0 d1 hr e1
      obtain ⟨a0, a1, a2⟩ := HPc.out k (by rw [HPL.out]; omega)
      obtain ⟨b0, b1, b2⟩ := HPc.out (k + 1) (by rw [HPL.out]; omega)
      rw [HP.out] at a0 a1 a2 b0 b1 b2
      have ht := HT.out k hlt
      have hb1 := HB.out k hlt
      obtain ⟨⟨x1, y1, z1⟩, hP1⟩ : ∃ p : Pt, Hid (pf (k + 1) = p) := ⟨_, Lib.hid rfl⟩
      obtain ⟨⟨x0, y0, z0⟩, hP2⟩ : ∃ p : Pt, Hid (pf k = p) := ⟨_, Lib.hid rfl⟩
      rw [hP1.out, hP2.out] at ht
      rw [hP1.out] at b0 b1 b2
      rw [hP2.out] at a0 a1 a2
      unfold Pt.val at ht
      dsimp only at ht a0 a1 a2 b0 b1 b2
      replace a0 := cell_later B a0
      replace a1 := cell_later B a1
      replace a2 := cell_later B a2
      replace b0 := cell_later B b0
      replace b1 := cell_later B b1
      replace b2 := cell_later B b2
      have hs : Hid ((LS.take (k + 1)).sum = s + lf k) := Lib.hid (by
        rw [List.take_succ_eq_append_getElem (by rw [HLL.out]; exact hlt), List.sum_append, hG.out, HL.out]; simp)
      have W2 : IntKind.i64.wrap (s + lf k) = s + lf k := IntWalk.i64_in _ (by omega)
      have t1 : (((ax k : Nat) : Int) + 1 == 0) = false := by rw [beq_eq_false_iff_ne]; omega
      have t1' : ¬ ((ax k : Nat) : Int) + 1 = 0 := by omega
      have t2' : ¬ ((ax k : Nat) : Int) + 1 = ((la k : Nat) : Int) := by
        have := HA.out k hlt
        omega
      have t2 : (((ax k : Nat) : Int) + 1 == ((la k : Nat) : Int)) = false := by
        have := HA.out k hlt
        rw [beq_eq_false_iff_ne]; omega
      have t3 : (lf k != lf k) = false := by simp
      have t4 : la (k + 1) = ax k + 1 := HL1.out k
      have T4 := Lib.hid t4
      clear t4
      go_upto_region 15 with fail
      refine wp_region_plan 14 [(0, true), (1, true), (2, true), (3, true), (4, true), (5, true), (6, true), (7, true), (8, true), (9, false), (10, true), (11, true), (12, true), (13, false)] (fun W' => W'.cell? ⟨gp, k * 3, none⟩ = some (.int .i64 x0) ∧ W'.cell? ⟨gp, k * 3 + 1, none⟩ = some (.int .i64 y0) ∧ W'.cell? ⟨gp, k * 3 + 2, none⟩ = some (.int .i64 z0) ∧ W'.cell? ⟨gp, (k + 1) * 3, none⟩ = some (.int .i64 x1) ∧ W'.cell? ⟨gp, (k + 1) * 3 + 1, none⟩ = some (.int .i64 y1) ∧ W'.cell? ⟨gp, (k + 1) * 3 + 2, none⟩ = some (.int .i64 z1)) (by kernel_rfl) (by kernel_rfl) (fun _ _ d _ _ h => by cases d <;> exact h) ⟨a0, a1, a2, b0, b1, b2⟩ ?_
      simp only [List.filterMap_cons, List.filterMap_nil, List.getElem?_cons_zero, List.getElem?_cons_succ, Option.map_some, List.drop_succ_cons, List.drop_zero]
      iterate 9 (first | (refine wpPlan_still (v := ?_) (Or.inl ⟨by rfl, ?_⟩) ?_; rotate_left; (focus (intro W hW; (try dsimp only at hW); go_split_ands; go_simp; try with_reducible rfl)); try simp only [Act.put, List.setIfInBounds_toArray, List.set_cons_zero, List.set_cons_succ]) | (refine wpPlan_still (Or.inr ⟨by rfl, rfl⟩) ?_; try simp only [Act.put, List.setIfInBounds_toArray, List.set_cons_zero, List.set_cons_succ]))
      refine wpPlan_only (fun K hK => ?_)
      try go_simp
      (go_at_call 28; (with_reducible refine (ht _).mono ?_); rintro X w5 ⟨rfl, hb⟩)
      replace hb := belows (below_dr (Below.refl wr.heap.size wr)) hb
      refine hK.out _ _ ⟨cell_later hb a0, cell_later hb a1, cell_later hb a2, cell_later hb b0, cell_later hb b1, cell_later hb b2⟩ ?_
      clear hK K
      try simp only [Act.put, List.setIfInBounds_toArray, List.set_cons_zero, List.set_cons_succ]
      iterate 3 (first | (refine wpPlan_still (v := ?_) (Or.inl ⟨by rfl, ?_⟩) ?_; rotate_left; (focus (intro W hW; (try dsimp only at hW); go_split_ands; go_simp; try with_reducible rfl)); try simp only [Act.put, List.setIfInBounds_toArray, List.set_cons_zero, List.set_cons_succ]) | (refine wpPlan_still (Or.inr ⟨by rfl, rfl⟩) ?_; try simp only [Act.put, List.setIfInBounds_toArray, List.set_cons_zero, List.set_cons_succ]))
      refine wpPlan_only (fun K hK => ?_)
      try go_simp
      refine hK.out _ _ ⟨cell_later hb a0, cell_later hb a1, cell_later hb a2, cell_later hb b0, cell_later hb b1, cell_later hb b2⟩ ?_
      clear hK K
      try simp only [Act.put, List.setIfInBounds_toArray, List.set_cons_zero, List.set_cons_succ]
      refine wpPlan_end ?_
      replace B := belows B hb
      replace d2 := cell_later hb d2
      clear a0 a1 a2 b0 b1 b2 ht hb
      go_wp2_with fail
      exact ⟨⟨k + 1, s + lf k, rfl, by simp [T4.out], rfl, hlt, by omega, by omega, hs, B⟩, by simp [intOf]; omega⟩
    · have g1 : decide ((k : Int) < (n : Int)) = false := by simp; omega
      have hle : s ≤ 1048576 := by
        have h := hG.out
        rw [List.take_of_length_le (by rw [HLL.out]; omega)] at h
        have := HS.out; omega
      have t1 : decide (s ≤ 1048576) = true := decide_eq_true hle
      clear hle
      go_wp2
      go_ret
      exact ⟨rfl, belows EW B⟩
theorem walks_walk (b : Bar) (w : World) (hk : b.Ok w) : Calls Try.prog 6 #[b.val] w fun e w' => e = .returned (.bool true) ∧ Below w.heap.size w w' := by
  cases h1 : (decide (b.ds.length ≤ 8) && decide (b.mark.size ≤ 60))
  · exact walks_s b w hk h1
  cases hv : barB b
  · exact walks_n b w hk h1 hv
  · exact walks_v b w hk h1 hv
end Go.Proofs.Ytcadghenjcaaiaa
