/- The reference: Hull. -/
import Derived.Test.YtcadghenjcaaiaaRq
import Derived.Deep.CutBlock
namespace Go.Proofs.Ytcadghenjcaaiaa
open Go.ChangeShapes Go.WideShapes Go.ChangeAt Go.RowKit
set_option linter.unusedVariables false
set_option linter.unusedSimpArgs false

theorem hullL_step {PS : List Pt} {k : Nat} (hk : k + 1 < PS.length) : hullL ((PS.take (k + 1 + 1)).map bxp) = hullB (hullL ((PS.take (k + 1)).map bxp)) (bxp PS[k + 1]) := by
  rw [List.take_succ_eq_append_getElem hk, List.map_append]
  cases h : (PS.take (k + 1)).map bxp with
  | nil => have := congrArg List.length h; rw [List.length_map, List.length_take] at this; simp only [List.length_nil] at this; omega
  | cons x l => simp [hullL, List.foldl_append]
theorem mn_min (a b : Int) : mn a b = min a b := by unfold mn; split <;> omega
theorem mx_max (a b : Int) : mx a b = max a b := by unfold mx; split <;> omega
set_option maxHeartbeats 16000000 in
set_option maxRecDepth 100000 in
theorem rHull_any (g n cap : Nat) (PS : List Pt) (w : World) (hl : PS.length = n + 1) (hn : n ≤ 6) (hP : ∀ k (hk : k < PS.length), w.cell? ⟨g, k * 3, none⟩ = some (.int .i64 PS[k].x) ∧ w.cell? ⟨g, k * 3 + 1, none⟩ = some (.int .i64 PS[k].y) ∧ w.cell? ⟨g, k * 3 + 2, none⟩ = some (.int .i64 PS[k].z)) :
    Calls Try.prog 25 #[.slice (some ⟨g, 0, none⟩) (n + 1) cap] w fun e w' => e = .returned (hullL (PS.map bxp)).val ∧ Below w.heap.size w w' := by
  have E := (Env.nil w).add w.heap.size 42 #[.int .i64 0, .int .i64 0, .int .i64 0, .int .i64 0, .int .i64 0, .int .i64 0] rfl
  obtain ⟨a0, a1, a2⟩ := hP 0 (by omega)
  have hm0 : hullL ((PS.take 1).map bxp) = bxp (PS[0]'(by omega)) := by
    match PS, hl with
    | p :: r, _ => rfl
  obtain ⟨⟨x0, y0, z0⟩, hP2⟩ : ∃ p : Pt, Hid (PS[0]'(by omega) = p) := ⟨_, Lib.hid rfl⟩
  rw [hP2.out] at a0 a1 a2 hm0
  dsimp only at a0 a1 a2
  simp only [Nat.zero_mul, Nat.zero_add] at a0 a1 a2
  have HM0 := Lib.hid hm0
  have HPc := Lib.hid hP
  have HLL := Lib.hid hl
  obtain ⟨RES, hRES⟩ : ∃ R : Bx, Hid (hullL (PS.map bxp) = R) := ⟨_, Lib.hid rfl⟩
  rw [hRES.out]
  unfold Bx.val
  clear hP2 hP hm0 hl
  replace a0 := cellLater (envb E) a0
  replace a1 := cellLater (envb E) a1
  replace a2 := cellLater (envb E) a2
  have k1 : (0 : Int) < (n : Int) + 1 := by omega
  go_enter Try.func25, Try.ntmps25
  go_upto_region 1 with fail
  refine wp_region_plan 8 [(0, true), (1, true), (2, true), (3, true), (4, true), (5, true), (6, true), (7, false)] (fun W' => W'.cell? ⟨g, 0, none⟩ = some (.int .i64 x0) ∧ W'.cell? ⟨g, 1, none⟩ = some (.int .i64 y0) ∧ W'.cell? ⟨g, 2, none⟩ = some (.int .i64 z0)) (by kernel_rfl) (by kernel_rfl) (fun _ _ d _ _ h => by cases d <;> exact h) ⟨a0, a1, a2⟩ ?_
  simp only [List.filterMap_cons, List.filterMap_nil, List.getElem?_cons_zero, List.getElem?_cons_succ, Option.map_some, List.drop_succ_cons, List.drop_zero]
  iterate 7 (first | (refine wpPlan_still (v := ?_) (Or.inl ⟨by rfl, ?_⟩) ?_; rotate_left; (focus (intro W hW; (try dsimp only at hW); go_split_ands; go_simp; try with_reducible rfl)); try simp only [Act.put, List.setIfInBounds_toArray, List.set_cons_zero, List.set_cons_succ]) | (refine wpPlan_still (Or.inr ⟨by rfl, rfl⟩) ?_; try simp only [Act.put, List.setIfInBounds_toArray, List.set_cons_zero, List.set_cons_succ]))
  refine wpPlan_only (fun K hK => ?_)
  try go_simp
  have ob := below_dr (al1 (w.alloc (.cells #[.int .i64 0, .int .i64 0, .int .i64 0, .int .i64 0, .int .i64 0, .int .i64 0] 42)) (.cells #[.int .i64 0, .int .i64 0, .int .i64 0, .int .i64 0, .int .i64 0, .int .i64 0] 42))
  refine hK.out _ _ ⟨cellLater ob a0, cellLater ob a1, cellLater ob a2⟩ ?_
  clear hK K
  try simp only [Act.put, List.setIfInBounds_toArray, List.set_cons_zero, List.set_cons_succ]
  refine wpPlan_end ?_
  have E1 := E.add (w.heap.size + 1) 42 #[.int .i64 x0, .int .i64 y0, .int .i64 z0, .int .i64 x0, .int .i64 y0, .int .i64 z0] (by simp)
  clear ob a0 a1 a2
  go_wp2_with fail
  go_loopw [4] (fun v wr => ∃ (k : Nat) (m : Bx), v = .int .i64 ((k + 1 : Nat) : Int) ∧ k ≤ n ∧ Hid (hullL ((PS.take (k + 1)).map bxp) = m) ∧ Env w wr [⟨w.heap.size + 1, 42, #[.int .i64 m.a, .int .i64 m.b, .int .i64 m.c, .int .i64 m.d, .int .i64 m.e, .int .i64 m.f]⟩, ⟨w.heap.size, 42, #[.int .i64 0, .int .i64 0, .int .i64 0, .int .i64 0, .int .i64 0, .int .i64 0]⟩]) (fun v _ => n + 1 - (intOf v).toNat)
  case atStart => exact ⟨0, bxp ⟨x0, y0, z0⟩, rfl, Nat.zero_le _, Lib.hid (by rw [HM0.out]), by first | exact E1.drw | exact E1⟩
  case round =>
    clear E E1
    obtain ⟨k, m, rfl, hk, hM, E⟩ := hrel
    have C := E.cells
    simp [BC, CF] at C
    have W1 : IntKind.i64.wrap (((k : Int) + 1) + 1) = (((k + 1 : Nat) + 1 : Nat) : Int) := by rw [IntWalk.i64_in _ (by omega)]; omega
    by_cases hlt : k < n
    · have g1 : decide (((k + 1 : Nat) : Int) < ((n + 1 : Nat) : Int)) = true := by simp; omega
      have g2 : decide ((k : Int) + 1 < (n : Int) + 1) = true := by simp; omega
      have g3 : (k : Int) < (n : Int) := by omega
      have p8 : (k : Int) + 1 < (n : Int) + 1 := by omega
      have p9 : k + 1 < n + 1 := by omega
      have p11 : (0 : Int) ≤ (k : Int) + 1 := by omega
      have p12 : ((k : Int) + 1).toNat = k + 1 := by omega
      obtain ⟨a0, a1, a2⟩ := HPc.out (k + 1) (by rw [HLL.out]; omega)
      have hst := hullL_step (PS := PS) (k := k) (by rw [HLL.out]; omega)
      obtain ⟨⟨x1, y1, z1⟩, hP3⟩ : ∃ p : Pt, Hid (PS[k + 1]'(by rw [HLL.out]; omega) = p) := ⟨_, Lib.hid rfl⟩
      rw [hP3.out] at a0 a1 a2 hst
      rw [hM.out] at hst
      dsimp only at a0 a1 a2
      replace a0 := cellLater (envb E) a0
      replace a1 := cellLater (envb E) a1
      replace a2 := cellLater (envb E) a2
      have HST := Lib.hid hst
      clear hst
      go_upto_region 7 with fail
      have hsz : (((wr.setCell ⟨w.heap.size + 1, 0, none⟩ (.int .i64 (min m.a x1))).setCell ⟨w.heap.size + 1, 1, none⟩ (.int .i64 (min m.b y1))).setCell ⟨w.heap.size + 1, 2, none⟩ (.int .i64 (min m.c z1))).heap.size = wr.heap.size := by simp [World.setCell]
      have E3 := E.three (u0 := .int .i64 (min m.a x1)) (u1 := .int .i64 (min m.b y1)) (u2 := .int .i64 (min m.c z1)) 0 rfl
      simp only [numB] at E3
      have E4 := E3.add wr.heap.size 40 #[.int .i64 x1, .int .i64 y1, .int .i64 z1] hsz
      have lt1 := E.lt 0 (by simp)
      simp only [numB] at lt1
      clear E E3 C hsz a0 a1 a2
      generalize (((wr.setCell ⟨w.heap.size + 1, 0, none⟩ (.int .i64 (min m.a x1))).setCell ⟨w.heap.size + 1, 1, none⟩ (.int .i64 (min m.b y1))).setCell ⟨w.heap.size + 1, 2, none⟩ (.int .i64 (min m.c z1))).alloc (.cells #[.int .i64 x1, .int .i64 y1, .int .i64 z1] 40) = w5 at *
      replace E4 : Env w w5 [⟨wr.heap.size, 40, #[.int .i64 x1, .int .i64 y1, .int .i64 z1]⟩, ⟨w.heap.size + 1, 42, #[.int .i64 (min m.a x1), .int .i64 (min m.b y1), .int .i64 (min m.c z1), .int .i64 m.d, .int .i64 m.e, .int .i64 m.f]⟩, ⟨w.heap.size, 42, #[.int .i64 0, .int .i64 0, .int .i64 0, .int .i64 0, .int .i64 0, .int .i64 0]⟩] := E4
      have C := E4.cells
      simp [BC, CF] at C
      have hb2 : Hid (hullL ((PS.take (k + 1 + 1)).map bxp) = ⟨min m.a x1, min m.b y1, min m.c z1, max m.d x1, max m.e y1, max m.f z1⟩) := Lib.hid (by rw [HST.out]; simp [hullB, bxp, mn_min, mx_max])
      generalize wr.heap.size = gq at *
      have E6 := (((E4.put 1 3 (.int .i64 (max m.d x1)) rfl).put 1 4 (.int .i64 (max m.e y1)) rfl).put 1 5 (.int .i64 (max m.f z1)) rfl).tail
      clear E4
      go_wp2
      exact ⟨⟨k + 1, _, rfl, hlt, hb2, E6⟩, by simp [intOf]; omega⟩
    · have g1 : decide (((k + 1 : Nat) : Int) < ((n + 1 : Nat) : Int)) = false := by simp; omega
      have g2 : decide ((k : Int) + 1 < (n : Int) + 1) = false := by simp; omega
      have g3 : ¬ (k : Int) < (n : Int) := by omega
      have e : m = RES := by
        have h := hM.out
        rw [List.take_of_length_le (by rw [HLL.out]; omega)] at h
        rw [← h, hRES.out]
      subst e
      go_wp2
      refine bodyPost_ret (v := .agg #[.int .i64 m.a, .int .i64 m.b, .int .i64 m.c, .int .i64 m.d, .int .i64 m.e, .int .i64 m.f]) (by simp [results, Try.results25, go_sem, C]) rfl ⟨rfl, ?_⟩
      exact (E.six 1 rfl).1
end Go.Proofs.Ytcadghenjcaaiaa
