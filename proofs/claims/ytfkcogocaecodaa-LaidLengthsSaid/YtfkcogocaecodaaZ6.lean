/- The first bar of a run; runs that fit. Runs that fit. Runs that fit: the path of the first bar, and that of the last one. Runs that fit; sums; bars by their marks; runs that are valid. The iterator of laid bars. The laid bar with a number. -/
import Derived.Test.YtfkcogocaecodaaZ1
import Derived.Test.YtfkcogocaecodaaZ3
import Derived.Test.YtfkcogocaecodaaZ4
import Derived.Deep.CutBlock
import Derived.Laws.StructEq
import Derived.Shelf.Abstract
import Derived.Shelf.RegionOpen
import Derived.RangeFuncBox
import Derived.Sort.CutIn
import Derived.LoopIn
import Derived.LoopNIn
import Derived.OwnWalkIn
import Derived.TacticsInMore
namespace Go.Proofs.Ytfkcogocaecodaa
open Go.ChangeShapes Go.WideShapes Go.ChangeAt Go.RowKit
set_option linter.unusedVariables false
set_option linter.unusedSimpArgs false

theorem slp_sl {w : World} {p : Option Addr} {l : List Pt} (h : Slp w p l) : Fm.Sl w p l := by
  refine ⟨fun e => ?_, fun a e i hi => ?_, h.mx⟩
  · cases l with
    | nil => rfl
    | cons x r => obtain ⟨a, e2, -⟩ := h.at_ 0 (by simp); rw [e] at e2; cases e2
  · obtain ⟨a', e', h0, h1, h2⟩ := h.at_ i hi
    rw [e] at e'; cases e'
    exact ⟨h0, h1, h2⟩
/-- The path of the first bar of a run. -/
def fst (b : Bar) (r : Rn) : List Pt := Fm.psL r.tn r.at_ (pts b)
/-- The path of the k-th bar of a run. -/
def bpts (b : Bar) (r : Rn) (k : Nat) : List Pt := mvd (scp r.st k) (fst b r)
theorem bpts_zero (b : Bar) (r : Rn) : bpts b r 0 = fst b r := by
  unfold bpts mvd
  rw [List.map_congr_left (g := id) (fun p _ => by simp [adp, scp]), List.map_id]
theorem bpts_succ (b : Bar) (r : Rn) (k : Nat) : mvd r.st (bpts b r k) = bpts b r (k + 1) := by
  unfold bpts mvd
  rw [List.map_map]
  refine List.map_congr_left fun p _ => ?_
  simp only [adp, scp, Function.comp_apply, Pt.mk.injEq]
  refine ⟨?_, ?_, ?_⟩ <;> grind
theorem fst_len (b : Bar) (r : Rn) : (fst b r).length = nl b.code + 1 := by unfold fst Fm.psL; rw [List.length_map, pts_len]
theorem bpts_len (b : Bar) (r : Rn) (k : Nat) : (bpts b r k).length = nl b.code + 1 := by unfold bpts; rw [mvd_len, fst_len]
theorem pts_near {b : Bar} (h : barB b = true) : (pts b).all Fm.nearB = true := by
  refine List.all_eq_true.2 fun p hp => ?_
  unfold pts at hp
  obtain ⟨k, hk, rfl⟩ := List.mem_map.1 hp
  have := List.mem_range.1 hk
  exact Fm.bd_nearB (bd_mono (pt_near h (by omega)) (by decide))
theorem pts_le {b : Bar} (h : barB b = true) : nl b.code + 1 ≤ 7 := by
  have := nl_le (barB_and h).1; omega
theorem fst_bd {b : Bar} {r : Rn} (h : barB b = true) (ht : Fm.vT r.tn = true) (hn : Fm.nearB r.at_ = true) : ∀ p ∈ fst b r, p.bd 2097152 := by
  intro p hp
  unfold fst Fm.psL at hp
  obtain ⟨x, hx, rfl⟩ := List.mem_map.1 hp
  have h1 := Fm.nearB_bd (List.all_eq_true.1 (pts_near h) x hx)
  have := bd_add (Fm.img_bd ht h1) (Fm.nearB_bd hn)
  exact this
set_option maxHeartbeats 8000000 in
set_option maxRecDepth 100000 in
theorem first_ok (b : Bar) (r : Rn) (w : World) (hk : b.Ok w) (hv : barB b = true) (ht : Fm.vT r.tn = true) (hn : Fm.nearB r.at_ = true) :
    Calls Try.prog 69 #[b.val, r.val] w fun e w' => ∃ v, e = .returned (.tuple #[.agg #[.string r.mark, v], .int .i64 0]) ∧ Own pc 24 3 w.heap.size w' v (fst b r) ∧ Below w.heap.size w w' := by
  have h82 := fun W (h : Below w.heap.size w W) => Path_ok b W (hk.on h) hv
  have h83 := fun p cap W (hS : Fm.Sl W p (pts b)) => Fm.Path_ok r.tn r.at_ p (pts b) cap W hS ht (by rw [pts_len]; have := pts_le hv; omega) hn (pts_near hv)
  unfold fst
  rw [vcs] at h82
  rw [vcs, rvs]
  clear hk hv ht hn
  generalize pts b = P at *
  obtain ⟨mk, sz, bct, cd, p, ds, cap⟩ := b
  obtain ⟨rm, ⟨tx, ty⟩, ⟨ax, ay, az⟩, ⟨sx, sy, sz'⟩, ct⟩ := r
  unfold Tn.val Pt.val at h83
  dsimp only at *
  have E := (((Env.nil w).add w.heap.size 49 #[.string mk, .int .i64 sz, .int .i64 bct, .int .i64 cd, .slice p ds.length cap] rfl).add (w.heap.size + 1) 30 #[.string rm, .int .i64 tx, .int .i64 ty, .int .i64 ax, .int .i64 ay, .int .i64 az, .int .i64 sx, .int .i64 sy, .int .i64 sz', .int .i64 ct] (by simp)).add (w.heap.size + 1 + 1) 83 #[.string ⟨#[]⟩, .slice none 0 0] (by simp)
  have C := E.cells
  simp [BC, CF] at C
  go_enter Try.func69, Try.ntmps69
  go_upto_region 4 with go_loud (go_at_call 82; (with_reducible refine (h82 _ (envb E)).mono ?_); rintro X wq ⟨v, rfl, hO, hb⟩; obtain ⟨q, c, rfl, hq⟩ := own_slp hO; have hqs := slp_sl hq; clear hO hq; replace E := E.on hb; replace C := E.cells; simp [BC, CF] at C; clear hb)
  go_wp2_with go_loud (go_at_call 83; (with_reducible refine (h83 _ _ _ hqs).mono ?_); rintro X w2 ⟨v2, rfl, hO2, hb⟩; obtain ⟨q2, c2, rfl, -⟩ := own_slp hO2; generalize hn2 : List.length _ = n2 at hO2; have hlt := E.lt 0 (by simp); have hle := (envb E).size; replace E := E.on hb; replace C := E.cells; simp [BC, CF] at C; clear hb)
  have hb2 : Own pc 24 3 w.heap.size ((w2.setCell ⟨w.heap.size + 1 + 1, 0, none⟩ (.string rm)).setCell ⟨w.heap.size + 1 + 1, 1, none⟩ (.slice q2 n2 c2)) (.slice q2 n2 c2) (Fm.psL ⟨tx, ty⟩ ⟨ax, ay, az⟩ P) := by
    refine Own.mono (own_at (own_at hO2 (at_put _ _ _ _) ?_) (at_put _ _ _ _) ?_) hle
    all_goals (intro e; have := (World.ownsRow.lt hO2 _ e).1; simp only [numB] at hlt; omega)
  exact bodyPost_ret (v := .tuple #[.agg #[.string rm, .slice q2 n2 c2], .int .i64 0]) (by simp [results, Try.results69, go_sem, *]) rfl ⟨.slice q2 n2 c2, rfl, hb2, envb (Env.put (Env.put E 0 0 (.string rm) rfl) 0 1 (.slice q2 n2 c2) rfl)⟩
set_option maxHeartbeats 8000000 in
set_option maxRecDepth 100000 in
theorem first_far (b : Bar) (r : Rn) (w : World) (hk : b.Ok w) (hv : barB b = true) (ht : Fm.vT r.tn = true) (hn : Fm.nearB r.at_ = false) :
    Calls Try.prog 69 #[b.val, r.val] w fun e w' => ∃ v, e = .returned (.tuple #[.agg #[.string r.mark, v], .int .i64 2]) ∧ Own pc 24 3 w.heap.size w' v ([]) ∧ Below w.heap.size w w' := by
  have h82 := fun W (h : Below w.heap.size w W) => Path_ok b W (hk.on h) hv
  have h83 := fun p cap W (hS : Fm.Sl W p (pts b)) => Fm.Path_far r.tn r.at_ p (pts b) cap W hS ht (by rw [pts_len]; have := pts_le hv; omega) hn

  rw [vcs] at h82
  rw [vcs, rvs]
  clear hk hv ht hn
  generalize pts b = P at *
  obtain ⟨mk, sz, bct, cd, p, ds, cap⟩ := b
  obtain ⟨rm, ⟨tx, ty⟩, ⟨ax, ay, az⟩, ⟨sx, sy, sz'⟩, ct⟩ := r
  unfold Tn.val Pt.val at h83
  dsimp only at *
  have E := (((Env.nil w).add w.heap.size 49 #[.string mk, .int .i64 sz, .int .i64 bct, .int .i64 cd, .slice p ds.length cap] rfl).add (w.heap.size + 1) 30 #[.string rm, .int .i64 tx, .int .i64 ty, .int .i64 ax, .int .i64 ay, .int .i64 az, .int .i64 sx, .int .i64 sy, .int .i64 sz', .int .i64 ct] (by simp)).add (w.heap.size + 1 + 1) 83 #[.string ⟨#[]⟩, .slice none 0 0] (by simp)
  have C := E.cells
  simp [BC, CF] at C
  go_enter Try.func69, Try.ntmps69
  go_upto_region 4 with go_loud (go_at_call 82; (with_reducible refine (h82 _ (envb E)).mono ?_); rintro X wq ⟨v, rfl, hO, hb⟩; obtain ⟨q, c, rfl, hq⟩ := own_slp hO; have hqs := slp_sl hq; clear hO hq; replace E := E.on hb; replace C := E.cells; simp [BC, CF] at C; clear hb)
  go_wp2_with go_loud (go_at_call 83; (with_reducible refine (h83 _ _ _ hqs).mono ?_); rintro X w2 ⟨v2, rfl, hO2, hb⟩; obtain ⟨q2, c2, rfl, -⟩ := own_slp hO2; generalize hn2 : List.length _ = n2 at hO2; have hlt := E.lt 0 (by simp); have hle := (envb E).size; replace E := E.on hb; replace C := E.cells; simp [BC, CF] at C; clear hb)
  have hb2 : Own pc 24 3 w.heap.size ((w2.setCell ⟨w.heap.size + 1 + 1, 0, none⟩ (.string rm)).setCell ⟨w.heap.size + 1 + 1, 1, none⟩ (.slice q2 n2 c2)) (.slice q2 n2 c2) ([]) := by
    refine Own.mono (own_at (own_at hO2 (at_put _ _ _ _) ?_) (at_put _ _ _ _) ?_) hle
    all_goals (intro e; have := (World.ownsRow.lt hO2 _ e).1; simp only [numB] at hlt; omega)
  exact bodyPost_ret (v := .tuple #[.agg #[.string rm, .slice q2 n2 c2], .int .i64 2]) (by simp [results, Try.results69, go_sem, *]) rfl ⟨.slice q2 n2 c2, rfl, hb2, envb (Env.put (Env.put E 0 0 (.string rm) rfl) 0 1 (.slice q2 n2 c2) rfl)⟩
end Go.Proofs.Ytfkcogocaecodaa
namespace Go.Proofs.Ytfkcogocaecodaa
open Go.ChangeShapes Go.WideShapes Go.ChangeAt Go.RowKit
set_option linter.unusedVariables false
set_option linter.unusedSimpArgs false

theorem eq24 (x y : Pt) (W : World) : (binOp .eql 24 x.val y.val).run Try.prog W = .ok (.bool (decide (x = y))) W := by
  unfold Pt.val
  rw [run_eql_struct, run_equalIn_agg (ht := by kernel_rfl) (hp := by kernel_rfl)]
  simp [go_sem, Program.fieldsOf, Try.underlying24]
  obtain ⟨a, b, c⟩ := x
  obtain ⟨a', b', c'⟩ := y
  simp only [Pt.mk.injEq]
  by_cases h1 : a = a' <;> by_cases h2 : b = b' <;> by_cases h3 : c = c' <;> simp [h1, h2, h3]
theorem Env.chg {w0 w w1 : World} {l : List Fb} {lo hi : Nat} (E : Env w0 w l) (hc : Chg lo hi w w1) (hl : ∀ y ∈ l, y.g < lo ∨ hi ≤ y.g) (h0 : w0.heap.size ≤ lo) : Env w0 w1 l := by
  obtain ⟨hb, hB⟩ := E
  refine ⟨hb.trans ⟨hc.os, hc.tape, hc.output, by have := hb.size; have := hc.size; omega, fun k hk => hc.block k (by have := hb.size; omega) (.inl (by omega))⟩, ?_⟩
  have key : ∀ l : List Fb, (∀ y ∈ l, y.g < lo ∨ hi ≤ y.g) → Blk w0.heap.size w l → Blk w0.heap.size w1 l := by
    intro l
    induction l with
    | nil => intro _ _; trivial
    | cons x r ih =>
      intro hl ⟨a, b, c, d⟩
      refine ⟨a, ?_, c, ih (fun y hy => hl y (by simp [hy])) d⟩
      unfold Has; rw [hc.block _ b.size_ (hl x (by simp))]; exact b
  exact key l hl hB
def fitsB (b : Bar) (r : Rn) : Bool := Fm.vT r.tn && (decide (1 ≤ r.ct) && (decide (r.ct ≤ 1000) && ((decide (r.ct ≤ 1) || (!decide (r.st = ⟨0, 0, 0⟩) && inB 2097152 r.st)) && (Fm.nearB r.at_ && ((fst b r).all (inB 1048576) && (mvd (scp r.st (r.ct - 1)) (fst b r)).all (inB 1048576))))))
theorem s_fi {w0 w : World} {g0 g1 g2 : Nat} {a0_0 a0_1 a1_0 a1_1 a1_2 a1_3 a1_4 a1_5 a1_6 a1_7 a1_8 a1_9 a2_0 a2_1 a2_2 a2_3 a2_4 : Value} (E : Env w0 w (⟨g0, 83, #[a0_0, a0_1]⟩ :: ⟨g1, 30, #[a1_0, a1_1, a1_2, a1_3, a1_4, a1_5, a1_6, a1_7, a1_8, a1_9]⟩ :: ⟨g2, 49, #[a2_0, a2_1, a2_2, a2_3, a2_4]⟩ :: [])) : Env w0 w (⟨g0, 83, #[a0_0, a0_1]⟩ :: ⟨g1, 30, #[a1_0, a1_1, a1_2, a1_3, a1_4, a1_5, a1_6, a1_7, a1_8, a1_9]⟩ :: ⟨g2, 49, #[a2_0, a2_1, a2_2, a2_3, a2_4]⟩ :: []) ∧ w.cell? ⟨g0, 0, none⟩ = some a0_0 ∧ w.cell? ⟨g0, 1, none⟩ = some a0_1 ∧ w.cell? ⟨g1, 0, none⟩ = some a1_0 ∧ w.cell? ⟨g1, 1, none⟩ = some a1_1 ∧ w.cell? ⟨g1, 2, none⟩ = some a1_2 ∧ w.cell? ⟨g1, 3, none⟩ = some a1_3 ∧ w.cell? ⟨g1, 4, none⟩ = some a1_4 ∧ w.cell? ⟨g1, 5, none⟩ = some a1_5 ∧ w.cell? ⟨g1, 6, none⟩ = some a1_6 ∧ w.cell? ⟨g1, 7, none⟩ = some a1_7 ∧ w.cell? ⟨g1, 8, none⟩ = some a1_8 ∧ w.cell? ⟨g1, 9, none⟩ = some a1_9 := by
  have C := E.cells
  simp [BC, CF] at C
  exact ⟨E, C.1.2.1.1, C.1.2.2.1, C.2.1.2.1.1, C.2.1.2.2.1.1, C.2.1.2.2.2.1.1, C.2.1.2.2.2.2.1.1, C.2.1.2.2.2.2.2.1.1, C.2.1.2.2.2.2.2.2.1.1, C.2.1.2.2.2.2.2.2.2.1.1, C.2.1.2.2.2.2.2.2.2.2.1.1, C.2.1.2.2.2.2.2.2.2.2.2.1.1, C.2.1.2.2.2.2.2.2.2.2.2.2.1⟩
set_option maxHeartbeats 8000000 in
set_option maxRecDepth 100000 in
theorem fits_turn (b : Bar) (r : Rn) (w : World) (ht : Fm.vT r.tn = false) :
    Calls Try.prog 52 #[b.val, r.val] w fun e w' => e = .returned (.bool false) ∧ Below w.heap.size w w' := by
  have h68 := fun W => Fm.valid_11 r.tn W
  have h34 := fun W => within_34 r.st 2097152 (by decide) (by decide) W
  have hq := fun W => eq24 r.st ⟨0, 0, 0⟩ W
  rw [vcs, rvs]
  rw [ht] at h68
  clear ht
  obtain ⟨mk, sz, bct, cd, p, ds, cap⟩ := b
  obtain ⟨rm, ⟨tx, ty⟩, ⟨ax, ay, az⟩, ⟨sx, sy, sz'⟩, ct⟩ := r
  unfold Tn.val at h68
  unfold Pt.val at h34 hq
  dsimp only at *
  have E := ((Env.nil w).add w.heap.size 49 #[.string mk, .int .i64 sz, .int .i64 bct, .int .i64 cd, .slice p ds.length cap] rfl).add (w.heap.size + 1) 30 #[.string rm, .int .i64 tx, .int .i64 ty, .int .i64 ax, .int .i64 ay, .int .i64 az, .int .i64 sx, .int .i64 sy, .int .i64 sz', .int .i64 ct] (by simp)
  have C := E.cells
  simp [BC, CF] at C
  go_enter Try.func52, Try.ntmps52
  go_wp2_with (first
    | (go_at_call 68; (with_reducible refine (h68 _).mono ?_); rintro X wq ⟨rfl, hb⟩; replace E := E.on hb; replace C := E.cells; simp [BC, CF] at C; clear hb)
    | (go_at_call 34; (with_reducible refine (h34 _).mono ?_); rintro X wq ⟨rfl, hb⟩; replace E := E.on hb; replace C := E.cells; simp [BC, CF] at C; clear hb))
  go_ret
  exact ⟨rfl, envb E⟩
set_option maxHeartbeats 8000000 in
set_option maxRecDepth 100000 in
theorem fits_less (b : Bar) (r : Rn) (w : World) (ht : Fm.vT r.tn = true) (hc : r.ct < 1) :
    Calls Try.prog 52 #[b.val, r.val] w fun e w' => e = .returned (.bool false) ∧ Below w.heap.size w w' := by
  have h68 := fun W => Fm.valid_11 r.tn W
  have h34 := fun W => within_34 r.st 2097152 (by decide) (by decide) W
  have hq := fun W => eq24 r.st ⟨0, 0, 0⟩ W
  rw [vcs, rvs]
  rw [ht] at h68
  clear ht
  obtain ⟨mk, sz, bct, cd, p, ds, cap⟩ := b
  obtain ⟨rm, ⟨tx, ty⟩, ⟨ax, ay, az⟩, ⟨sx, sy, sz'⟩, ct⟩ := r
  unfold Tn.val at h68
  unfold Pt.val at h34 hq
  dsimp only at *
  have g1 : decide (ct < 1) = true := by simpa using hc
  clear hc
  have E := ((Env.nil w).add w.heap.size 49 #[.string mk, .int .i64 sz, .int .i64 bct, .int .i64 cd, .slice p ds.length cap] rfl).add (w.heap.size + 1) 30 #[.string rm, .int .i64 tx, .int .i64 ty, .int .i64 ax, .int .i64 ay, .int .i64 az, .int .i64 sx, .int .i64 sy, .int .i64 sz', .int .i64 ct] (by simp)
  have C := E.cells
  simp [BC, CF] at C
  go_enter Try.func52, Try.ntmps52
  go_wp2_with (first
    | (go_at_call 68; (with_reducible refine (h68 _).mono ?_); rintro X wq ⟨rfl, hb⟩; replace E := E.on hb; replace C := E.cells; simp [BC, CF] at C; clear hb)
    | (go_at_call 34; (with_reducible refine (h34 _).mono ?_); rintro X wq ⟨rfl, hb⟩; replace E := E.on hb; replace C := E.cells; simp [BC, CF] at C; clear hb))
  go_ret
  exact ⟨rfl, envb E⟩
set_option maxHeartbeats 8000000 in
set_option maxRecDepth 100000 in
theorem fits_more (b : Bar) (r : Rn) (w : World) (ht : Fm.vT r.tn = true) (hc : 1000 < r.ct) :
    Calls Try.prog 52 #[b.val, r.val] w fun e w' => e = .returned (.bool false) ∧ Below w.heap.size w w' := by
  have h68 := fun W => Fm.valid_11 r.tn W
  have h34 := fun W => within_34 r.st 2097152 (by decide) (by decide) W
  have hq := fun W => eq24 r.st ⟨0, 0, 0⟩ W
  rw [vcs, rvs]
  rw [ht] at h68
  clear ht
  obtain ⟨mk, sz, bct, cd, p, ds, cap⟩ := b
  obtain ⟨rm, ⟨tx, ty⟩, ⟨ax, ay, az⟩, ⟨sx, sy, sz'⟩, ct⟩ := r
  unfold Tn.val at h68
  unfold Pt.val at h34 hq
  dsimp only at *
  have g1 : decide (ct < 1) = false := by simp; omega
  have g2 : decide (ct > 1000) = true := by simpa using hc
  clear hc
  have E := ((Env.nil w).add w.heap.size 49 #[.string mk, .int .i64 sz, .int .i64 bct, .int .i64 cd, .slice p ds.length cap] rfl).add (w.heap.size + 1) 30 #[.string rm, .int .i64 tx, .int .i64 ty, .int .i64 ax, .int .i64 ay, .int .i64 az, .int .i64 sx, .int .i64 sy, .int .i64 sz', .int .i64 ct] (by simp)
  have C := E.cells
  simp [BC, CF] at C
  go_enter Try.func52, Try.ntmps52
  go_wp2_with (first
    | (go_at_call 68; (with_reducible refine (h68 _).mono ?_); rintro X wq ⟨rfl, hb⟩; replace E := E.on hb; replace C := E.cells; simp [BC, CF] at C; clear hb)
    | (go_at_call 34; (with_reducible refine (h34 _).mono ?_); rintro X wq ⟨rfl, hb⟩; replace E := E.on hb; replace C := E.cells; simp [BC, CF] at C; clear hb))
  go_ret
  exact ⟨rfl, envb E⟩
set_option maxHeartbeats 8000000 in
set_option maxRecDepth 100000 in
theorem fits_zero (b : Bar) (r : Rn) (w : World) (ht : Fm.vT r.tn = true) (hc : 1 < r.ct) (hc2 : r.ct ≤ 1000) (hz : decide (r.st = ⟨0, 0, 0⟩) = true) :
    Calls Try.prog 52 #[b.val, r.val] w fun e w' => e = .returned (.bool false) ∧ Below w.heap.size w w' := by
  have h68 := fun W => Fm.valid_11 r.tn W
  have h34 := fun W => within_34 r.st 2097152 (by decide) (by decide) W
  have hq := fun W => eq24 r.st ⟨0, 0, 0⟩ W
  rw [vcs, rvs]
  rw [ht] at h68
  rw [hz] at hq
  clear ht hz
  obtain ⟨mk, sz, bct, cd, p, ds, cap⟩ := b
  obtain ⟨rm, ⟨tx, ty⟩, ⟨ax, ay, az⟩, ⟨sx, sy, sz'⟩, ct⟩ := r
  unfold Tn.val at h68
  unfold Pt.val at h34 hq
  dsimp only at *
  have g1 : decide (ct < 1) = false := by simp; omega
  have g2 : decide (ct > 1000) = false := by simp; omega
  have g3 : decide (ct > 1) = true := by simpa using hc
  clear hc hc2
  have E := ((Env.nil w).add w.heap.size 49 #[.string mk, .int .i64 sz, .int .i64 bct, .int .i64 cd, .slice p ds.length cap] rfl).add (w.heap.size + 1) 30 #[.string rm, .int .i64 tx, .int .i64 ty, .int .i64 ax, .int .i64 ay, .int .i64 az, .int .i64 sx, .int .i64 sy, .int .i64 sz', .int .i64 ct] (by simp)
  have C := E.cells
  simp [BC, CF] at C
  go_enter Try.func52, Try.ntmps52
  go_wp2_with (first
    | (go_at_call 68; (with_reducible refine (h68 _).mono ?_); rintro X wq ⟨rfl, hb⟩; replace E := E.on hb; replace C := E.cells; simp [BC, CF] at C; clear hb)
    | (go_at_call 34; (with_reducible refine (h34 _).mono ?_); rintro X wq ⟨rfl, hb⟩; replace E := E.on hb; replace C := E.cells; simp [BC, CF] at C; clear hb))
  go_ret
  exact ⟨rfl, envb E⟩
set_option maxHeartbeats 8000000 in
set_option maxRecDepth 100000 in
theorem fits_step (b : Bar) (r : Rn) (w : World) (ht : Fm.vT r.tn = true) (hc : 1 < r.ct) (hc2 : r.ct ≤ 1000) (hz : decide (r.st = ⟨0, 0, 0⟩) = false) (hs : inB 2097152 r.st = false) :
    Calls Try.prog 52 #[b.val, r.val] w fun e w' => e = .returned (.bool false) ∧ Below w.heap.size w w' := by
  have h68 := fun W => Fm.valid_11 r.tn W
  have h34 := fun W => within_34 r.st 2097152 (by decide) (by decide) W
  have hq := fun W => eq24 r.st ⟨0, 0, 0⟩ W
  rw [vcs, rvs]
  rw [ht] at h68
  rw [hz] at hq
  rw [hs] at h34
  clear ht hz hs
  obtain ⟨mk, sz, bct, cd, p, ds, cap⟩ := b
  obtain ⟨rm, ⟨tx, ty⟩, ⟨ax, ay, az⟩, ⟨sx, sy, sz'⟩, ct⟩ := r
  unfold Tn.val at h68
  unfold Pt.val at h34 hq
  dsimp only at *
  have g1 : decide (ct < 1) = false := by simp; omega
  have g2 : decide (ct > 1000) = false := by simp; omega
  have g3 : decide (ct > 1) = true := by simpa using hc
  clear hc hc2
  have E := ((Env.nil w).add w.heap.size 49 #[.string mk, .int .i64 sz, .int .i64 bct, .int .i64 cd, .slice p ds.length cap] rfl).add (w.heap.size + 1) 30 #[.string rm, .int .i64 tx, .int .i64 ty, .int .i64 ax, .int .i64 ay, .int .i64 az, .int .i64 sx, .int .i64 sy, .int .i64 sz', .int .i64 ct] (by simp)
  have C := E.cells
  simp [BC, CF] at C
  go_enter Try.func52, Try.ntmps52
  go_wp2_with (first
    | (go_at_call 68; (with_reducible refine (h68 _).mono ?_); rintro X wq ⟨rfl, hb⟩; replace E := E.on hb; replace C := E.cells; simp [BC, CF] at C; clear hb)
    | (go_at_call 34; (with_reducible refine (h34 _).mono ?_); rintro X wq ⟨rfl, hb⟩; replace E := E.on hb; replace C := E.cells; simp [BC, CF] at C; clear hb))
  go_ret
  exact ⟨rfl, envb E⟩
theorem own_slp' {t : TypeId} {B g n cap : Nat} {w : World} {l : List Pt} (h : Own pc t 3 B w (.slice (some ⟨g, 0, none⟩) n cap) l) : Slp w (some ⟨g, 0, none⟩) l := by
  obtain ⟨q, c, e, k⟩ := own_slp h
  simp only [Value.slice.injEq] at e
  obtain ⟨rfl, -, -⟩ := e
  exact k
end Go.Proofs.Ytfkcogocaecodaa
namespace Go.Proofs.Ytfkcogocaecodaa
open Go.ChangeShapes Go.WideShapes Go.ChangeAt Go.RowKit
set_option linter.unusedVariables false
set_option linter.unusedSimpArgs false

set_option maxHeartbeats 8000000 in
set_option maxRecDepth 100000 in
theorem fits_far_one (b : Bar) (r : Rn) (w : World) (hk : b.Ok w) (hv : barB b = true) (ht : Fm.vT r.tn = true) (hc : r.ct = 1) (hn : Fm.nearB r.at_ = false) :
    Calls Try.prog 52 #[b.val, r.val] w fun e w' => e = .returned (.bool false) ∧ Below w.heap.size w w' := by
  have h69 := fun W (h : Below w.heap.size w W) => first_far b r W (hk.on h) hv ht hn
  rw [vcs, rvs] at h69
  have h68 := fun W => Fm.valid_11 r.tn W
  have h34 := fun W => within_34 r.st 2097152 (by decide) (by decide) W
  have hq := fun W => eq24 r.st ⟨0, 0, 0⟩ W
  rw [vcs, rvs]
  rw [ht] at h68
  clear hk hv ht hn 
  obtain ⟨mk, sz, bct, cd, p, ds, cap⟩ := b
  obtain ⟨rm, ⟨tx, ty⟩, ⟨ax, ay, az⟩, ⟨sx, sy, sz'⟩, ct⟩ := r
  unfold Tn.val at h68
  unfold Pt.val at h34 hq
  dsimp only at *
  have g1 : decide (ct < 1) = false := by simp; omega
  have g2 : decide (ct > 1000) = false := by simp; omega
  have g3 : decide (ct > 1) = false := by simp; omega
  clear hc
  have E := ((Env.nil w).add w.heap.size 49 #[.string mk, .int .i64 sz, .int .i64 bct, .int .i64 cd, .slice p ds.length cap] rfl).add (w.heap.size + 1) 30 #[.string rm, .int .i64 tx, .int .i64 ty, .int .i64 ax, .int .i64 ay, .int .i64 az, .int .i64 sx, .int .i64 sy, .int .i64 sz', .int .i64 ct] (by simp)
  have C := E.cells
  simp [BC, CF] at C
  go_enter Try.func52, Try.ntmps52
  go_upto_region 6 with (first | (go_at_call 68; (with_reducible refine (h68 _).mono ?_); rintro X wq ⟨rfl, hb⟩; replace E := E.on hb; replace C := E.cells; simp [BC, CF] at C; clear hb) | (go_at_call 34; (with_reducible refine (h34 _).mono ?_); rintro X wq ⟨rfl, hb⟩; replace E := E.on hb; replace C := E.cells; simp [BC, CF] at C; clear hb) | (go_at_call 69; (with_reducible refine (h69 _ (envb E)).mono ?_); rintro X wq ⟨v, rfl, hO, hb⟩; obtain ⟨q, c, rfl, -⟩ := own_slp hO; simp only [List.length_nil]; replace E := E.on hb; replace C := E.cells; simp [BC, CF] at C; clear hb))
  replace E := E.add _ 83 #[.string rm, .slice q 0 c] rfl
  replace C := E.cells
  simp [BC, CF] at C
  go_wp2
  go_ret
  exact ⟨rfl, envb E⟩
set_option maxHeartbeats 8000000 in
set_option maxRecDepth 100000 in
theorem fits_out_one (b : Bar) (r : Rn) (w : World) (hk : b.Ok w) (hv : barB b = true) (ht : Fm.vT r.tn = true) (hc : r.ct = 1) (hn : Fm.nearB r.at_ = true) (hf : (fst b r).all (inB 1048576) = false) :
    Calls Try.prog 52 #[b.val, r.val] w fun e w' => e = .returned (.bool false) ∧ Below w.heap.size w w' := by
  have h69 := fun W (h : Below w.heap.size w W) => first_ok b r W (hk.on h) hv ht hn
  have hpos : 0 < (fst b r).length := by rw [fst_len]; omega
  have hlen : (fst b r).length ≤ 1000 := by rw [fst_len]; have := pts_le hv; omega
  have HBD := Lib.hid (fst_bd hv ht hn)
  rw [vcs, rvs] at h69
  have h68 := fun W => Fm.valid_11 r.tn W
  have h34 := fun W => within_34 r.st 2097152 (by decide) (by decide) W
  have hq := fun W => eq24 r.st ⟨0, 0, 0⟩ W
  rw [vcs, rvs]
  rw [ht] at h68
  clear hk hv ht hn 
  generalize fst b r = L at *
  obtain ⟨mk, sz, bct, cd, p, ds, cap⟩ := b
  obtain ⟨rm, ⟨tx, ty⟩, ⟨ax, ay, az⟩, ⟨sx, sy, sz'⟩, ct⟩ := r
  unfold Tn.val at h68
  unfold Pt.val at h34 hq
  dsimp only at *
  have g1 : decide (ct < 1) = false := by simp; omega
  have g2 : decide (ct > 1000) = false := by simp; omega
  have g3 : decide (ct > 1) = false := by simp; omega
  clear hc
  have E := ((Env.nil w).add w.heap.size 49 #[.string mk, .int .i64 sz, .int .i64 bct, .int .i64 cd, .slice p ds.length cap] rfl).add (w.heap.size + 1) 30 #[.string rm, .int .i64 tx, .int .i64 ty, .int .i64 ax, .int .i64 ay, .int .i64 az, .int .i64 sx, .int .i64 sy, .int .i64 sz', .int .i64 ct] (by simp)
  have C := E.cells
  simp [BC, CF] at C
  go_enter Try.func52, Try.ntmps52
  go_upto_region 6 with (first | (go_at_call 68; (with_reducible refine (h68 _).mono ?_); rintro X wq ⟨rfl, hb⟩; replace E := E.on hb; replace C := E.cells; simp [BC, CF] at C; clear hb) | (go_at_call 34; (with_reducible refine (h34 _).mono ?_); rintro X wq ⟨rfl, hb⟩; replace E := E.on hb; replace C := E.cells; simp [BC, CF] at C; clear hb) | (go_at_call 69; (with_reducible refine (h69 _ (envb E)).mono ?_); rintro X wq ⟨v, rfl, hO, hb⟩; have hlt := E.lt 0 (by simp); obtain ⟨g, cp, rfl, -⟩ := Own.fn hO hpos; have hO := Own.mono (B' := w.heap.size + 1 + 1) hO (by simp only [numB] at hlt; omega); clear hlt; replace E := E.on hb; replace C := E.cells; simp [BC, CF] at C; clear hb))
  replace E := E.add _ 83 #[.string rm, .slice (some ⟨g, 0, none⟩) L.length cp] rfl
  replace C := E.cells
  simp [BC, CF] at C
  have hO1 := own_on hO (al1 wq (.cells #[.string rm, .slice (some ⟨g, 0, none⟩) L.length cp] 83))
  have hgw := (own_cells hO rfl hpos).2.2
  have h70 := near_70 rm (some ⟨g, 0, none⟩) L cp _ (own_slp' hO1)
  rw [hf] at h70
  clear hO hO1
  go_wp2_with (go_at_call 70; (with_reducible refine h70.mono ?_); rintro X w3 ⟨rfl, hb⟩; replace E := E.on hb; replace C := E.cells; simp [BC, CF] at C; clear hb)
  go_ret
  exact ⟨rfl, envb E⟩
set_option maxHeartbeats 8000000 in
set_option maxRecDepth 100000 in
theorem fits_ok_one (b : Bar) (r : Rn) (w : World) (hk : b.Ok w) (hv : barB b = true) (ht : Fm.vT r.tn = true) (hc : r.ct = 1) (hn : Fm.nearB r.at_ = true) (hf : (fst b r).all (inB 1048576) = true) :
    Calls Try.prog 52 #[b.val, r.val] w fun e w' => e = .returned (.bool ((mvd (scp r.st (r.ct - 1)) (fst b r)).all (inB 1048576))) ∧ Below w.heap.size w w' := by
  have hsb : (scp r.st (r.ct - 1)).bd 2097152000 := by
    rw [hc]; unfold Pt.bd scp; simp
  have h69 := fun W (h : Below w.heap.size w W) => first_ok b r W (hk.on h) hv ht hn
  have hpos : 0 < (fst b r).length := by rw [fst_len]; omega
  have hlen : (fst b r).length ≤ 1000 := by rw [fst_len]; have := pts_le hv; omega
  have HBD := Lib.hid (fst_bd hv ht hn)
  rw [vcs, rvs] at h69
  have h68 := fun W => Fm.valid_11 r.tn W
  have h34 := fun W => within_34 r.st 2097152 (by decide) (by decide) W
  have hq := fun W => eq24 r.st ⟨0, 0, 0⟩ W
  rw [vcs, rvs]
  rw [ht] at h68
  have h72 := fun W => times_72 r.st (r.ct - 1) (bd_ok hsb (by decide)) W
  have HOK : Hid (∀ p ∈ fst b r, (adp p (scp r.st (r.ct - 1))).ok) := Lib.hid fun p hp => bd_ok (bd_add (HBD.out p hp) hsb) (by decide)
  have W1 : IntKind.i64.wrap (r.ct - 1) = r.ct - 1 := i64w (by unfold I64; omega)
  clear hk hv ht hn  hsb HBD
  generalize fst b r = L at *
  generalize hss : scp r.st (r.ct - 1) = ss at *
  clear hss
  obtain ⟨mk, sz, bct, cd, p, ds, cap⟩ := b
  obtain ⟨rm, ⟨tx, ty⟩, ⟨ax, ay, az⟩, ⟨sx, sy, sz'⟩, ct⟩ := r
  unfold Tn.val at h68
  unfold Pt.val at h34 hq h72
  dsimp only at *
  have g1 : decide (ct < 1) = false := by simp; omega
  have g2 : decide (ct > 1000) = false := by simp; omega
  have g3 : decide (ct > 1) = false := by simp; omega
  clear hc
  have E := ((Env.nil w).add w.heap.size 49 #[.string mk, .int .i64 sz, .int .i64 bct, .int .i64 cd, .slice p ds.length cap] rfl).add (w.heap.size + 1) 30 #[.string rm, .int .i64 tx, .int .i64 ty, .int .i64 ax, .int .i64 ay, .int .i64 az, .int .i64 sx, .int .i64 sy, .int .i64 sz', .int .i64 ct] (by simp)
  have C := E.cells
  simp [BC, CF] at C
  go_enter Try.func52, Try.ntmps52
  go_upto_region 6 with (first | (go_at_call 68; (with_reducible refine (h68 _).mono ?_); rintro X wq ⟨rfl, hb⟩; replace E := E.on hb; replace C := E.cells; simp [BC, CF] at C; clear hb) | (go_at_call 34; (with_reducible refine (h34 _).mono ?_); rintro X wq ⟨rfl, hb⟩; replace E := E.on hb; replace C := E.cells; simp [BC, CF] at C; clear hb) | (go_at_call 69; (with_reducible refine (h69 _ (envb E)).mono ?_); rintro X wq ⟨v, rfl, hO, hb⟩; have hlt := E.lt 0 (by simp); obtain ⟨g, cp, rfl, -⟩ := Own.fn hO hpos; have hO := Own.mono (B' := w.heap.size + 1 + 1) hO (by simp only [numB] at hlt; omega); clear hlt; replace E := E.on hb; replace C := E.cells; simp [BC, CF] at C; clear hb))
  replace E := E.add _ 83 #[.string rm, .slice (some ⟨g, 0, none⟩) L.length cp] rfl
  replace C := E.cells
  simp [BC, CF] at C
  have hO1 := own_on hO (al1 wq (.cells #[.string rm, .slice (some ⟨g, 0, none⟩) L.length cp] 83))
  have hgw := (own_cells hO rfl hpos).2.2
  have h70 := near_70 rm (some ⟨g, 0, none⟩) L cp _ (own_slp' hO1)
  rw [hf] at h70
  clear hf
  go_upto_region 8 with (go_at_call 70; (with_reducible refine h70.mono ?_); rintro X w3 ⟨rfl, hb⟩; have hO2 := own_on hO1 hb; replace E := E.on hb; replace C := E.cells; simp [BC, CF] at C; clear hb)
  clear h70 hO1 hO
  refine wp_region_plan 7 [(0, true), (1, true), (2, true), (3, true), (4, true), (5, true), (6, false)] (fun W' => Env w W' [⟨wq.heap.size, 83, #[.string rm, .slice (some ⟨g, 0, none⟩) L.length cp]⟩, ⟨w.heap.size + 1, 30, #[.string rm, .int .i64 tx, .int .i64 ty, .int .i64 ax, .int .i64 ay, .int .i64 az, .int .i64 sx, .int .i64 sy, .int .i64 sz', .int .i64 ct]⟩, ⟨w.heap.size, 49, #[.string mk, .int .i64 sz, .int .i64 bct, .int .i64 cd, .slice p ds.length cap]⟩] ∧ W'.cell? ⟨wq.heap.size, 0, none⟩ = some (.string rm) ∧ W'.cell? ⟨wq.heap.size, 1, none⟩ = some (.slice (some ⟨g, 0, none⟩) L.length cp) ∧ W'.cell? ⟨w.heap.size + 1, 0, none⟩ = some (.string rm) ∧ W'.cell? ⟨w.heap.size + 1, 1, none⟩ = some (.int .i64 tx) ∧ W'.cell? ⟨w.heap.size + 1, 2, none⟩ = some (.int .i64 ty) ∧ W'.cell? ⟨w.heap.size + 1, 3, none⟩ = some (.int .i64 ax) ∧ W'.cell? ⟨w.heap.size + 1, 4, none⟩ = some (.int .i64 ay) ∧ W'.cell? ⟨w.heap.size + 1, 5, none⟩ = some (.int .i64 az) ∧ W'.cell? ⟨w.heap.size + 1, 6, none⟩ = some (.int .i64 sx) ∧ W'.cell? ⟨w.heap.size + 1, 7, none⟩ = some (.int .i64 sy) ∧ W'.cell? ⟨w.heap.size + 1, 8, none⟩ = some (.int .i64 sz') ∧ W'.cell? ⟨w.heap.size + 1, 9, none⟩ = some (.int .i64 ct)) (by kernel_rfl) (by kernel_rfl) (fun _ _ d _ _ h => by cases d <;> exact h) (s_fi E.drw) ?_
  simp only [List.filterMap_cons, List.filterMap_nil, List.getElem?_cons_zero, List.getElem?_cons_succ, Option.map_some, List.drop_succ_cons, List.drop_zero]
  replace E := E.drw
  iterate 6 (first | (refine wpPlan_still (v := ?_) (Or.inl ⟨by rfl, ?_⟩) ?_; rotate_left; (focus (intro W hW; (try dsimp only at hW); go_split_ands; go_simp; try with_reducible rfl)); try simp only [Act.put, List.setIfInBounds_toArray, List.set_cons_zero, List.set_cons_succ]) | (refine wpPlan_still (Or.inr ⟨by rfl, rfl⟩) ?_; try simp only [Act.put, List.setIfInBounds_toArray, List.set_cons_zero, List.set_cons_succ]))
  refine wpPlan_only (fun K hK => ?_)
  try go_simp
  (go_at_call 72; (with_reducible refine (h72 _).mono ?_); rintro X w4 ⟨rfl, hb⟩)
  have hO3 := own_on (own_on hO2 (below_dr (Below.refl _ _))) hb
  replace E := E.on hb
  clear hb
  refine hK.out _ _ (s_fi E) ?_
  clear hK K
  try simp only [Act.put, List.setIfInBounds_toArray, List.set_cons_zero, List.set_cons_succ]
  refine wpPlan_end ?_
  replace C := E.cells
  simp [BC, CF] at C
  have hlt := E.lt 0 (by simp)
  have h71 := fun W (h : Own pc 24 3 (w.heap.size + 1 + 1) W (.slice (some ⟨g, 0, none⟩) L.length cp) L) (hc : L.length ≤ cp) => move_71 rm g cp L ss _ W h hc HOK.out hlen
  unfold Pt.val at h71
  replace hO3 : Own pc 24 3 (w.heap.size + 1 + 1) w4 (.slice (some ⟨g, 0, none⟩) L.length cp) L := hO3
  have hcp : L.length ≤ cp := by
    obtain ⟨hl, ⟨h0, -⟩ | ⟨g', cap', cur, e', hB, hg, hn, hm, hs, ht⟩⟩ := hO3
    · cases h0
    · simp only [Value.slice.injEq] at e'
      omega
  go_upto_region 9 with (go_at_call 71; (with_reducible refine (h71 _ hO3 hcp).mono ?_); rintro X w5 ⟨rfl, hO5, hc5⟩; replace E := E.chg hc5 (by intro y hy; simp only [List.mem_cons, List.not_mem_nil, or_false] at hy; rcases hy with rfl | rfl | rfl <;> (dsimp only; omega)) (by omega))
  replace C := E.cells
  simp [BC, CF] at C
  have h70b := near_70 rm (some ⟨g, 0, none⟩) (mvd ss L) cp w5 (own_slp' hO5)
  rw [mvd_len] at h70b
  go_wp2_with (go_at_call 70; (with_reducible refine h70b.mono ?_); rintro X w6 ⟨rfl, hb⟩; replace E := E.on hb)
  go_ret
  exact ⟨rfl, envb E⟩
set_option maxHeartbeats 8000000 in
set_option maxRecDepth 100000 in
theorem fits_far_more (b : Bar) (r : Rn) (w : World) (hk : b.Ok w) (hv : barB b = true) (ht : Fm.vT r.tn = true) (hc : 1 < r.ct) (hc2 : r.ct ≤ 1000) (hz : decide (r.st = ⟨0, 0, 0⟩) = false) (hs : inB 2097152 r.st = true) (hn : Fm.nearB r.at_ = false) :
    Calls Try.prog 52 #[b.val, r.val] w fun e w' => e = .returned (.bool false) ∧ Below w.heap.size w w' := by
  have h69 := fun W (h : Below w.heap.size w W) => first_far b r W (hk.on h) hv ht hn
  rw [vcs, rvs] at h69
  have h68 := fun W => Fm.valid_11 r.tn W
  have h34 := fun W => within_34 r.st 2097152 (by decide) (by decide) W
  have hq := fun W => eq24 r.st ⟨0, 0, 0⟩ W
  rw [vcs, rvs]
  rw [ht] at h68
  rw [hz] at hq
  rw [hs] at h34
  clear hk hv ht hn hz hs
  obtain ⟨mk, sz, bct, cd, p, ds, cap⟩ := b
  obtain ⟨rm, ⟨tx, ty⟩, ⟨ax, ay, az⟩, ⟨sx, sy, sz'⟩, ct⟩ := r
  unfold Tn.val at h68
  unfold Pt.val at h34 hq
  dsimp only at *
  have g1 : decide (ct < 1) = false := by simp; omega
  have g2 : decide (ct > 1000) = false := by simp; omega
  have g3 : decide (ct > 1) = true := by simpa using hc
  clear hc
  have E := ((Env.nil w).add w.heap.size 49 #[.string mk, .int .i64 sz, .int .i64 bct, .int .i64 cd, .slice p ds.length cap] rfl).add (w.heap.size + 1) 30 #[.string rm, .int .i64 tx, .int .i64 ty, .int .i64 ax, .int .i64 ay, .int .i64 az, .int .i64 sx, .int .i64 sy, .int .i64 sz', .int .i64 ct] (by simp)
  have C := E.cells
  simp [BC, CF] at C
  go_enter Try.func52, Try.ntmps52
  go_upto_region 6 with (first | (go_at_call 68; (with_reducible refine (h68 _).mono ?_); rintro X wq ⟨rfl, hb⟩; replace E := E.on hb; replace C := E.cells; simp [BC, CF] at C; clear hb) | (go_at_call 34; (with_reducible refine (h34 _).mono ?_); rintro X wq ⟨rfl, hb⟩; replace E := E.on hb; replace C := E.cells; simp [BC, CF] at C; clear hb) | (go_at_call 69; (with_reducible refine (h69 _ (envb E)).mono ?_); rintro X wq ⟨v, rfl, hO, hb⟩; obtain ⟨q, c, rfl, -⟩ := own_slp hO; simp only [List.length_nil]; replace E := E.on hb; replace C := E.cells; simp [BC, CF] at C; clear hb))
  replace E := E.add _ 83 #[.string rm, .slice q 0 c] rfl
  replace C := E.cells
  simp [BC, CF] at C
  go_wp2
  go_ret
  exact ⟨rfl, envb E⟩
set_option maxHeartbeats 8000000 in
set_option maxRecDepth 100000 in
theorem fits_out_more (b : Bar) (r : Rn) (w : World) (hk : b.Ok w) (hv : barB b = true) (ht : Fm.vT r.tn = true) (hc : 1 < r.ct) (hc2 : r.ct ≤ 1000) (hz : decide (r.st = ⟨0, 0, 0⟩) = false) (hs : inB 2097152 r.st = true) (hn : Fm.nearB r.at_ = true) (hf : (fst b r).all (inB 1048576) = false) :
    Calls Try.prog 52 #[b.val, r.val] w fun e w' => e = .returned (.bool false) ∧ Below w.heap.size w w' := by
  have h69 := fun W (h : Below w.heap.size w W) => first_ok b r W (hk.on h) hv ht hn
  have hpos : 0 < (fst b r).length := by rw [fst_len]; omega
  have hlen : (fst b r).length ≤ 1000 := by rw [fst_len]; have := pts_le hv; omega
  have HBD := Lib.hid (fst_bd hv ht hn)
  rw [vcs, rvs] at h69
  have h68 := fun W => Fm.valid_11 r.tn W
  have h34 := fun W => within_34 r.st 2097152 (by decide) (by decide) W
  have hq := fun W => eq24 r.st ⟨0, 0, 0⟩ W
  rw [vcs, rvs]
  rw [ht] at h68
  rw [hz] at hq
  rw [hs] at h34
  clear hk hv ht hn hz hs
  generalize fst b r = L at *
  obtain ⟨mk, sz, bct, cd, p, ds, cap⟩ := b
  obtain ⟨rm, ⟨tx, ty⟩, ⟨ax, ay, az⟩, ⟨sx, sy, sz'⟩, ct⟩ := r
  unfold Tn.val at h68
  unfold Pt.val at h34 hq
  dsimp only at *
  have g1 : decide (ct < 1) = false := by simp; omega
  have g2 : decide (ct > 1000) = false := by simp; omega
  have g3 : decide (ct > 1) = true := by simpa using hc
  clear hc
  have E := ((Env.nil w).add w.heap.size 49 #[.string mk, .int .i64 sz, .int .i64 bct, .int .i64 cd, .slice p ds.length cap] rfl).add (w.heap.size + 1) 30 #[.string rm, .int .i64 tx, .int .i64 ty, .int .i64 ax, .int .i64 ay, .int .i64 az, .int .i64 sx, .int .i64 sy, .int .i64 sz', .int .i64 ct] (by simp)
  have C := E.cells
  simp [BC, CF] at C
  go_enter Try.func52, Try.ntmps52
  go_upto_region 6 with (first | (go_at_call 68; (with_reducible refine (h68 _).mono ?_); rintro X wq ⟨rfl, hb⟩; replace E := E.on hb; replace C := E.cells; simp [BC, CF] at C; clear hb) | (go_at_call 34; (with_reducible refine (h34 _).mono ?_); rintro X wq ⟨rfl, hb⟩; replace E := E.on hb; replace C := E.cells; simp [BC, CF] at C; clear hb) | (go_at_call 69; (with_reducible refine (h69 _ (envb E)).mono ?_); rintro X wq ⟨v, rfl, hO, hb⟩; have hlt := E.lt 0 (by simp); obtain ⟨g, cp, rfl, -⟩ := Own.fn hO hpos; have hO := Own.mono (B' := w.heap.size + 1 + 1) hO (by simp only [numB] at hlt; omega); clear hlt; replace E := E.on hb; replace C := E.cells; simp [BC, CF] at C; clear hb))
  replace E := E.add _ 83 #[.string rm, .slice (some ⟨g, 0, none⟩) L.length cp] rfl
  replace C := E.cells
  simp [BC, CF] at C
  have hO1 := own_on hO (al1 wq (.cells #[.string rm, .slice (some ⟨g, 0, none⟩) L.length cp] 83))
  have hgw := (own_cells hO rfl hpos).2.2
  have h70 := near_70 rm (some ⟨g, 0, none⟩) L cp _ (own_slp' hO1)
  rw [hf] at h70
  clear hO hO1
  go_wp2_with (go_at_call 70; (with_reducible refine h70.mono ?_); rintro X w3 ⟨rfl, hb⟩; replace E := E.on hb; replace C := E.cells; simp [BC, CF] at C; clear hb)
  go_ret
  exact ⟨rfl, envb E⟩
set_option maxHeartbeats 8000000 in
set_option maxRecDepth 100000 in
theorem fits_ok_more (b : Bar) (r : Rn) (w : World) (hk : b.Ok w) (hv : barB b = true) (ht : Fm.vT r.tn = true) (hc : 1 < r.ct) (hc2 : r.ct ≤ 1000) (hz : decide (r.st = ⟨0, 0, 0⟩) = false) (hs : inB 2097152 r.st = true) (hn : Fm.nearB r.at_ = true) (hf : (fst b r).all (inB 1048576) = true) :
    Calls Try.prog 52 #[b.val, r.val] w fun e w' => e = .returned (.bool ((mvd (scp r.st (r.ct - 1)) (fst b r)).all (inB 1048576))) ∧ Below w.heap.size w w' := by
  have hsb : (scp r.st (r.ct - 1)).bd 2097152000 := by
    exact bd_scl (M := 1000) (inB_bd.1 hs) (by omega) (by omega)
  have h69 := fun W (h : Below w.heap.size w W) => first_ok b r W (hk.on h) hv ht hn
  have hpos : 0 < (fst b r).length := by rw [fst_len]; omega
  have hlen : (fst b r).length ≤ 1000 := by rw [fst_len]; have := pts_le hv; omega
  have HBD := Lib.hid (fst_bd hv ht hn)
  rw [vcs, rvs] at h69
  have h68 := fun W => Fm.valid_11 r.tn W
  have h34 := fun W => within_34 r.st 2097152 (by decide) (by decide) W
  have hq := fun W => eq24 r.st ⟨0, 0, 0⟩ W
  rw [vcs, rvs]
  rw [ht] at h68
  rw [hz] at hq
  rw [hs] at h34
  have h72 := fun W => times_72 r.st (r.ct - 1) (bd_ok hsb (by decide)) W
  have HOK : Hid (∀ p ∈ fst b r, (adp p (scp r.st (r.ct - 1))).ok) := Lib.hid fun p hp => bd_ok (bd_add (HBD.out p hp) hsb) (by decide)
  have W1 : IntKind.i64.wrap (r.ct - 1) = r.ct - 1 := i64w (by unfold I64; omega)
  clear hk hv ht hn hz hs hsb HBD
  generalize fst b r = L at *
  generalize hss : scp r.st (r.ct - 1) = ss at *
  clear hss
  obtain ⟨mk, sz, bct, cd, p, ds, cap⟩ := b
  obtain ⟨rm, ⟨tx, ty⟩, ⟨ax, ay, az⟩, ⟨sx, sy, sz'⟩, ct⟩ := r
  unfold Tn.val at h68
  unfold Pt.val at h34 hq h72
  dsimp only at *
  have g1 : decide (ct < 1) = false := by simp; omega
  have g2 : decide (ct > 1000) = false := by simp; omega
  have g3 : decide (ct > 1) = true := by simpa using hc
  clear hc
  have E := ((Env.nil w).add w.heap.size 49 #[.string mk, .int .i64 sz, .int .i64 bct, .int .i64 cd, .slice p ds.length cap] rfl).add (w.heap.size + 1) 30 #[.string rm, .int .i64 tx, .int .i64 ty, .int .i64 ax, .int .i64 ay, .int .i64 az, .int .i64 sx, .int .i64 sy, .int .i64 sz', .int .i64 ct] (by simp)
  have C := E.cells
  simp [BC, CF] at C
  go_enter Try.func52, Try.ntmps52
  go_upto_region 6 with (first | (go_at_call 68; (with_reducible refine (h68 _).mono ?_); rintro X wq ⟨rfl, hb⟩; replace E := E.on hb; replace C := E.cells; simp [BC, CF] at C; clear hb) | (go_at_call 34; (with_reducible refine (h34 _).mono ?_); rintro X wq ⟨rfl, hb⟩; replace E := E.on hb; replace C := E.cells; simp [BC, CF] at C; clear hb) | (go_at_call 69; (with_reducible refine (h69 _ (envb E)).mono ?_); rintro X wq ⟨v, rfl, hO, hb⟩; have hlt := E.lt 0 (by simp); obtain ⟨g, cp, rfl, -⟩ := Own.fn hO hpos; have hO := Own.mono (B' := w.heap.size + 1 + 1) hO (by simp only [numB] at hlt; omega); clear hlt; replace E := E.on hb; replace C := E.cells; simp [BC, CF] at C; clear hb))
  replace E := E.add _ 83 #[.string rm, .slice (some ⟨g, 0, none⟩) L.length cp] rfl
  replace C := E.cells
  simp [BC, CF] at C
  have hO1 := own_on hO (al1 wq (.cells #[.string rm, .slice (some ⟨g, 0, none⟩) L.length cp] 83))
  have hgw := (own_cells hO rfl hpos).2.2
  have h70 := near_70 rm (some ⟨g, 0, none⟩) L cp _ (own_slp' hO1)
  rw [hf] at h70
  clear hf
  go_upto_region 8 with (go_at_call 70; (with_reducible refine h70.mono ?_); rintro X w3 ⟨rfl, hb⟩; have hO2 := own_on hO1 hb; replace E := E.on hb; replace C := E.cells; simp [BC, CF] at C; clear hb)
  clear h70 hO1 hO
  refine wp_region_plan 7 [(0, true), (1, true), (2, true), (3, true), (4, true), (5, true), (6, false)] (fun W' => Env w W' [⟨wq.heap.size, 83, #[.string rm, .slice (some ⟨g, 0, none⟩) L.length cp]⟩, ⟨w.heap.size + 1, 30, #[.string rm, .int .i64 tx, .int .i64 ty, .int .i64 ax, .int .i64 ay, .int .i64 az, .int .i64 sx, .int .i64 sy, .int .i64 sz', .int .i64 ct]⟩, ⟨w.heap.size, 49, #[.string mk, .int .i64 sz, .int .i64 bct, .int .i64 cd, .slice p ds.length cap]⟩] ∧ W'.cell? ⟨wq.heap.size, 0, none⟩ = some (.string rm) ∧ W'.cell? ⟨wq.heap.size, 1, none⟩ = some (.slice (some ⟨g, 0, none⟩) L.length cp) ∧ W'.cell? ⟨w.heap.size + 1, 0, none⟩ = some (.string rm) ∧ W'.cell? ⟨w.heap.size + 1, 1, none⟩ = some (.int .i64 tx) ∧ W'.cell? ⟨w.heap.size + 1, 2, none⟩ = some (.int .i64 ty) ∧ W'.cell? ⟨w.heap.size + 1, 3, none⟩ = some (.int .i64 ax) ∧ W'.cell? ⟨w.heap.size + 1, 4, none⟩ = some (.int .i64 ay) ∧ W'.cell? ⟨w.heap.size + 1, 5, none⟩ = some (.int .i64 az) ∧ W'.cell? ⟨w.heap.size + 1, 6, none⟩ = some (.int .i64 sx) ∧ W'.cell? ⟨w.heap.size + 1, 7, none⟩ = some (.int .i64 sy) ∧ W'.cell? ⟨w.heap.size + 1, 8, none⟩ = some (.int .i64 sz') ∧ W'.cell? ⟨w.heap.size + 1, 9, none⟩ = some (.int .i64 ct)) (by kernel_rfl) (by kernel_rfl) (fun _ _ d _ _ h => by cases d <;> exact h) (s_fi E.drw) ?_
  simp only [List.filterMap_cons, List.filterMap_nil, List.getElem?_cons_zero, List.getElem?_cons_succ, Option.map_some, List.drop_succ_cons, List.drop_zero]
  replace E := E.drw
  iterate 6 (first | (refine wpPlan_still (v := ?_) (Or.inl ⟨by rfl, ?_⟩) ?_; rotate_left; (focus (intro W hW; (try dsimp only at hW); go_split_ands; go_simp; try with_reducible rfl)); try simp only [Act.put, List.setIfInBounds_toArray, List.set_cons_zero, List.set_cons_succ]) | (refine wpPlan_still (Or.inr ⟨by rfl, rfl⟩) ?_; try simp only [Act.put, List.setIfInBounds_toArray, List.set_cons_zero, List.set_cons_succ]))
  refine wpPlan_only (fun K hK => ?_)
  try go_simp
  (go_at_call 72; (with_reducible refine (h72 _).mono ?_); rintro X w4 ⟨rfl, hb⟩)
  have hO3 := own_on (own_on hO2 (below_dr (Below.refl _ _))) hb
  replace E := E.on hb
  clear hb
  refine hK.out _ _ (s_fi E) ?_
  clear hK K
  try simp only [Act.put, List.setIfInBounds_toArray, List.set_cons_zero, List.set_cons_succ]
  refine wpPlan_end ?_
  replace C := E.cells
  simp [BC, CF] at C
  have hlt := E.lt 0 (by simp)
  have h71 := fun W (h : Own pc 24 3 (w.heap.size + 1 + 1) W (.slice (some ⟨g, 0, none⟩) L.length cp) L) (hc : L.length ≤ cp) => move_71 rm g cp L ss _ W h hc HOK.out hlen
  unfold Pt.val at h71
  replace hO3 : Own pc 24 3 (w.heap.size + 1 + 1) w4 (.slice (some ⟨g, 0, none⟩) L.length cp) L := hO3
  have hcp : L.length ≤ cp := by
    obtain ⟨hl, ⟨h0, -⟩ | ⟨g', cap', cur, e', hB, hg, hn, hm, hs, ht⟩⟩ := hO3
    · cases h0
    · simp only [Value.slice.injEq] at e'
      omega
  go_upto_region 9 with (go_at_call 71; (with_reducible refine (h71 _ hO3 hcp).mono ?_); rintro X w5 ⟨rfl, hO5, hc5⟩; replace E := E.chg hc5 (by intro y hy; simp only [List.mem_cons, List.not_mem_nil, or_false] at hy; rcases hy with rfl | rfl | rfl <;> (dsimp only; omega)) (by omega))
  replace C := E.cells
  simp [BC, CF] at C
  have h70b := near_70 rm (some ⟨g, 0, none⟩) (mvd ss L) cp w5 (own_slp' hO5)
  rw [mvd_len] at h70b
  go_wp2_with (go_at_call 70; (with_reducible refine h70b.mono ?_); rintro X w6 ⟨rfl, hb⟩; replace E := E.on hb)
  go_ret
  exact ⟨rfl, envb E⟩
end Go.Proofs.Ytfkcogocaecodaa
namespace Go.Proofs.Ytfkcogocaecodaa
open Go.ChangeShapes Go.WideShapes Go.ChangeAt Go.RowKit Go.Maps
set_option linter.unusedVariables false
set_option linter.unusedSimpArgs false

set_option maxHeartbeats 8000000 in
set_option maxRecDepth 100000 in
theorem fits_52 (b : Bar) (r : Rn) (w : World) (hk : b.Ok w) (hv : barB b = true) :
    Calls Try.prog 52 #[b.val, r.val] w fun e w' => e = .returned (.bool (fitsB b r)) ∧ Below w.heap.size w w' := by
  cases ht : Fm.vT r.tn
  · rw [show fitsB b r = false by simp [fitsB, ht]]; exact fits_turn b r w ht
  rcases Int.lt_or_le r.ct 1 with hc | hc
  · rw [show fitsB b r = false by simp [fitsB, ht]; omega]; exact fits_less b r w ht hc
  rcases Int.lt_or_le 1000 r.ct with hc2 | hc2
  · rw [show fitsB b r = false by simp [fitsB, ht]; omega]; exact fits_more b r w ht hc2
  rcases (by omega : r.ct = 1 ∨ 1 < r.ct) with h1 | h1
  · cases hn : Fm.nearB r.at_
    · rw [show fitsB b r = false by simp [fitsB, hn]]; exact fits_far_one b r w hk hv ht h1 hn
    cases hf : (fst b r).all (inB 1048576)
    · rw [show fitsB b r = false by unfold fitsB; rw [hf]; simp]; exact fits_out_one b r w hk hv ht h1 hn hf
    rw [show fitsB b r = (mvd (scp r.st (r.ct - 1)) (fst b r)).all (inB 1048576) by unfold fitsB; rw [hf, ht, hn, h1]; simp]
    exact fits_ok_one b r w hk hv ht h1 hn hf
  · cases hz : decide (r.st = ⟨0, 0, 0⟩)
    · cases hs : inB 2097152 r.st
      · rw [show fitsB b r = false by unfold fitsB; rw [hs, hz, show decide (r.ct ≤ 1) = false by simp; omega]; simp]; exact fits_step b r w ht h1 hc2 hz hs
      cases hn : Fm.nearB r.at_
      · rw [show fitsB b r = false by simp [fitsB, hn]]; exact fits_far_more b r w hk hv ht h1 hc2 hz hs hn
      cases hf : (fst b r).all (inB 1048576)
      · rw [show fitsB b r = false by unfold fitsB; rw [hf]; simp]; exact fits_out_more b r w hk hv ht h1 hc2 hz hs hn hf
      rw [show fitsB b r = (mvd (scp r.st (r.ct - 1)) (fst b r)).all (inB 1048576) by unfold fitsB; rw [hf, ht, hn, hs, hz, show decide (1 ≤ r.ct) = true by simpa using hc, show decide (r.ct ≤ 1000) = true by simpa using hc2]; simp]
      exact fits_ok_more b r w hk hv ht h1 hc2 hz hs hn hf
    · rw [show fitsB b r = false by unfold fitsB; rw [hz, show decide (r.ct ≤ 1) = false by simp; omega]; simp]; exact fits_zero b r w ht h1 hc2 hz
theorem fits_ct {b : Bar} {r : Rn} (h : fitsB b r = true) : 1 ≤ r.ct ∧ r.ct ≤ 1000 := by
  unfold fitsB at h
  simp only [Bool.and_eq_true, decide_eq_true_eq] at h
  exact ⟨h.2.1, h.2.2.1⟩
/-- How many bars all runs have together. -/
def totR (l : List Rn) : Int := (l.map (·.ct)).sum
theorem totR_take {l : List Rn} {k : Nat} (h : k < l.length) : totR (l.take (k + 1)) = totR (l.take k) + l[k].ct := by
  unfold totR
  rw [List.take_succ_eq_append_getElem h, List.map_append, List.sum_append]; simp
theorem totR_bd : ∀ {l : List Rn}, (∀ r ∈ l, 1 ≤ r.ct ∧ r.ct ≤ 1000) → l.length ≤ totR l ∧ totR l ≤ l.length * 1000
  | [], h => by simp [totR]
  | r :: l, h => by
    have h1 := h r (by simp)
    have ih := totR_bd (l := l) fun x hx => h x (by simp [hx])
    have e : totR (r :: l) = r.ct + totR l := by simp [totR]
    rw [e, List.length_cons]; omega
set_option maxHeartbeats 4000000 in
theorem total_53 (q : Option Addr) (rs : List Rn) (cap : Nat) (w : World) (hR : Slr w q rs cap) (hl : rs.length ≤ 60) (hc : ∀ r ∈ rs, 1 ≤ r.ct ∧ r.ct ≤ 1000) :
    Calls Try.prog 53 #[.slice q rs.length cap] w fun e w' => e = .returned (.int .i64 (totR rs)) ∧ Below w.heap.size w w' := by
  have HC := Lib.hid hc
  clear hc
  go_enter Try.func53, Try.ntmps53
  go_wp2
  go_loopw [3, 8] (fun a v wr => ∃ k : Nat, v = .int .i64 k ∧ a = .int .i64 (totR (rs.take k)) ∧ k ≤ rs.length ∧ Below w.heap.size w wr) (fun _ v _ => rs.length - (intOf v).toNat)
  case atStart => exact ⟨0, rfl, rfl, Nat.zero_le _, Below.refl _ _⟩
  case round =>
    obtain ⟨k, rfl, rfl, hk, hB⟩ := hrel
    by_cases hlt : k < rs.length
    · have g1 : decide ((k : Int) < (rs.length : Int)) = true := by simp [hlt]
      have W1 : IntKind.i64.wrap ((k : Int) + 1) = ((k + 1 : Nat) : Int) := by rw [IntWalk.i64_in _ (by omega)]; omega
      obtain ⟨a, rfl, h0, h1, h2, h3, h4, h5, h6, h7, h8, h9⟩ := (hR.on hB).at_ k hlt
      have e1 := totR_take hlt
      have b1 := totR_bd (l := rs.take (k + 1)) fun x hx => HC.out x (List.mem_of_mem_take hx)
      have hlk : (rs.take (k + 1)).length ≤ 60 := by simp; omega
      have W2 : IntKind.i64.wrap (totR (rs.take k) + rs[k].ct) = totR (rs.take (k + 1)) := by rw [← e1]; exact i64w (by unfold I64; omega)
      clear e1 b1 hlk
      generalize ht1 : totR (rs.take (k + 1)) = t1 at *
      have HT := Lib.hid ht1
      clear ht1
      generalize rs[k].ct = ct at *
      have E := (Env.nil wr).add wr.heap.size 30 #[.string rs[k].mark, .int .i64 rs[k].tn.x, .int .i64 rs[k].tn.y, .int .i64 rs[k].at_.x, .int .i64 rs[k].at_.y, .int .i64 rs[k].at_.z, .int .i64 rs[k].st.x, .int .i64 rs[k].st.y, .int .i64 rs[k].st.z, .int .i64 ct] rfl
      have C := E.cells
      simp [BC, CF] at C
      go_wp2
      exact ⟨⟨k + 1, rfl, by rw [HT.out], hlt, al hB _⟩, by simp [intOf]; omega⟩
    · have g1 : decide ((k : Int) < (rs.length : Int)) = false := by simp; omega
      go_wp2
      go_ret
      rw [List.take_of_length_le (by omega)]
      exact ⟨rfl, hB⟩

/-- The bars by their marks, as they are put in one after another. -/
def mkF (l : List Bar) : ByteArray → Option Value := l.foldl (fun f b => fun x => if x = b.mark then some b.val else f x) (fun _ => none)
theorem mkF_take {l : List Bar} {k : Nat} (h : k < l.length) : mkF (l.take (k + 1)) = fun x => if x = l[k].mark then some l[k].val else mkF (l.take k) x := by
  unfold mkF
  rw [List.take_succ_eq_append_getElem h, List.foldl_append]; rfl
/-- The bar with a mark. -/
def barOf (l : List Bar) (m : ByteArray) : Option Bar := l[fnd m l]?
theorem okAt_of {l : List Bar} (hv : validL l = true) {k : Nat} (hk : k < l.length) : barB l[k] = true ∧ fnd l[k].mark l = k := by
  unfold validL at hv
  simp only [Bool.and_eq_true, List.all_eq_true] at hv
  have h := hv.2 k (List.mem_range.2 hk)
  rw [okAt_eq hk] at h
  simp only [Bool.and_eq_true, decide_eq_true_eq] at h
  refine ⟨h.1, ?_⟩
  have := (fnd_take hk).2 h.2
  unfold fndV at this
  split at this <;> omega
theorem mkF_valid {l : List Bar} (hv : validL l = true) (m : ByteArray) : mkF l m = (barOf l m).map Bar.val := by
  have key : ∀ k, k ≤ l.length → mkF (l.take k) m = if h : fnd m l < k ∧ fnd m l < l.length then some (l[fnd m l]'h.2).val else none := by
    intro k
    induction k with
    | zero => intro _; rw [dif_neg (by omega)]; rfl
    | succ k ih =>
      intro hk
      have hkl : k < l.length := by omega
      rw [mkF_take hkl]
      dsimp only
      by_cases e : m = l[k].mark
      · have := (okAt_of hv hkl).2
        rw [← e] at this
        rw [if_pos e, dif_pos (by omega)]
        congr 2
        simp only [this]
      · rw [if_neg e, ih (by omega)]
        have hne : fnd m l ≠ k := fun e2 => by
          have h3 : fnd m l < l.length := by omega
          have := eqN_iff.1 (fnd_at h3)
          apply e
          rw [← this]; simp only [e2]
        by_cases h4 : fnd m l < k ∧ fnd m l < l.length
        · rw [dif_pos h4, dif_pos (by omega)]
        · rw [dif_neg h4, dif_neg (by omega)]
  have := key l.length (Nat.le_refl _)
  rw [List.take_length] at this
  rw [this]
  unfold barOf
  by_cases h : fnd m l < l.length
  · rw [dif_pos ⟨h, h⟩, List.getElem?_eq_getElem h]; rfl
  · rw [dif_neg (by omega), List.getElem?_eq_none (by omega)]; rfl
theorem zero49 (w : World) : (zeroValue 49).run Try.prog w = .ok (.agg #[.string ⟨#[]⟩, .int .i64 0, .int .i64 0, .int .i64 0, .slice none 0 0]) w := by kernel_rfl
set_option maxHeartbeats 8000000 in
set_option maxRecDepth 100000 in
theorem marked_51 (p : Option Addr) (l : List Bar) (cap : Nat) (w : World) (hS : Slb w p l cap) (hl : l.length ≤ 60) :
    Calls Try.prog 51 #[.slice p l.length cap] w fun e w' => ∃ mb, e = .returned (.map (some mb)) ∧ w.heap.size ≤ mb ∧ Smap w' mb 60 (mkF l) ∧ Below w.heap.size w w' := by
  have hmm := @run_makeMap Try.prog
  have HO := Lib.hid hS.ok
  go_enter Try.func51, Try.ntmps51
  go_upto_region 2 with fail
  have M0 := Smap.made w
  have B0 := al1 w (.map #[] 0)
  generalize w.alloc (.map #[] 0) = wz at *
  have hmb : w.heap.size ≤ w.heap.size := Nat.le_refl _
  generalize hmbe : w.heap.size = mb at *
  go_wp2
  go_loopw [9] (fun v wr => ∃ k : Nat, v = .int .i64 k ∧ k ≤ l.length ∧ Smap wr mb k (mkF (l.take k)) ∧ Below w.heap.size w wr) (fun v _ => l.length - (intOf v).toNat)
  case atStart => exact ⟨0, rfl, Nat.zero_le _, M0, by rw [hmbe]; exact B0⟩
  case round =>
    clear M0 B0
    obtain ⟨k, rfl, hk, M, hB⟩ := hrel
    by_cases hlt : k < l.length
    · have g1 : decide ((k : Int) < (l.length : Int)) = true := by simp [hlt]
      have W1 : IntKind.i64.wrap ((k : Int) + 1) = ((k + 1 : Nat) : Int) := by rw [IntWalk.i64_in _ (by omega)]; omega
      have HM := Lib.hid (mkF_take hlt)
      have hnm := (HO.out _ (List.getElem_mem hlt)).nm
      obtain ⟨a, rfl, c0, c1, c2, c3, c4⟩ := (hS.on hB).at_ k hlt
      have E := (Env.nil wr).add wr.heap.size 49 l[k].cs rfl
      rw [bcs] at E
      obtain ⟨-, C0, C1, C2, C3, C4⟩ := s_b5 E
      obtain ⟨w5, R5, M5, hg5⟩ := (M.on (envb E)).put l[k].mark l[k].val hnm (by omega) Try.underlying98
      rw [vcs] at R5
      have HM5 := Lib.hid M5
      have HB5 : Hid (Below w.heap.size w w5) := Lib.hid ((belows hB (envb E)).grown hg5 (belows hB (envb E)).size (fun j hj => by cases hj; omega))
      clear M5 M hg5
      generalize l[k].mark = mk at *
      generalize l[k].size = sz at *
      generalize l[k].count = ct at *
      generalize l[k].code = cd at *
      generalize l[k].ds.length = dl at *
      generalize l[k].cap = dc at *
      generalize l[k].p = dp at *
      go_wp2
      exact ⟨⟨k + 1, rfl, hlt, (by rw [HM.out]; exact HM5.out), HB5.out⟩, by simp [intOf]; omega⟩
    · have g1 : decide ((k : Int) < (l.length : Int)) = false := by simp; omega
      go_wp2
      go_ret
      rw [List.take_of_length_le (by omega)] at M
      obtain ⟨D, ho, h1, h2⟩ := M
      refine ⟨mb, rfl, by omega, ⟨D, ?_, h1, h2⟩, hB⟩
      obtain ⟨es, clock, hb, F, hs, hD⟩ := ho
      exact ⟨es, clock, hb, F, by omega, hD⟩

def fitsM (l : List Bar) (r : Rn) : Bool := match barOf l r.mark with
  | some b => fitsB b r
  | none => false
def validR (l : List Bar) (rs : List Rn) : Bool := validL l && (decide (rs.length ≤ 60) && (rs.all (fitsM l) && decide (totR rs ≤ 2000)))
theorem fitsM_ct {l : List Bar} {r : Rn} (h : fitsM l r = true) : 1 ≤ r.ct ∧ r.ct ≤ 1000 := by
  unfold fitsM at h
  split at h
  · exact fits_ct h
  · cases h
theorem validL_le {l : List Bar} (h : validL l = true) : l.length ≤ 60 := by
  unfold validL at h
  simp only [Bool.and_eq_true, decide_eq_true_eq] at h
  exact h.1
theorem barOf_mem {l : List Bar} {m : ByteArray} {b : Bar} (h : barOf l m = some b) : ∃ k, ∃ hk : k < l.length, l[k] = b ∧ k = fnd m l := by
  unfold barOf at h
  obtain ⟨hk, e⟩ := List.getElem?_eq_some_iff.1 h
  exact ⟨_, hk, e, rfl⟩
theorem barOf_ok {l : List Bar} (hv : validL l = true) {m : ByteArray} {b : Bar} (h : barOf l m = some b) : barB b = true ∧ b ∈ l ∧ b.mark = m := by
  obtain ⟨k, hk, e, ek⟩ := barOf_mem h
  refine ⟨e ▸ (okAt_of hv hk).1, e ▸ List.getElem_mem hk, ?_⟩
  have := eqN_iff.1 (fnd_at (m := m) (l := l) (by omega))
  rw [← this, ← e]
  simp only [ek]
set_option maxHeartbeats 8000000 in
set_option maxRecDepth 100000 in
theorem Valid_26 (p : Option Addr) (l : List Bar) (cap : Nat) (q : Option Addr) (rs : List Rn) (capr : Nat) (w : World) (hS : Slb w p l cap) (hR : Slr w q rs capr) :
    Calls Try.prog 26 #[.slice p l.length cap, .slice q rs.length capr] w fun e w' => e = .returned (.bool (validR l rs)) ∧ Below w.heap.size w w' := by
  have h50 := Valid_list p l cap w hS
  cases hv : validL l
  · rw [hv] at h50
    rw [show validR l rs = false by simp [validR, hv]]
    clear hv
    go_enter Try.func26, Try.ntmps26
    go_wp2_with (go_at_call 50; (with_reducible refine h50.mono ?_); rintro X w1 ⟨rfl, hb⟩)
    go_ret
    exact ⟨rfl, hb⟩
  rw [hv] at h50
  by_cases h60 : rs.length ≤ 60
  case neg =>
    rw [show validR l rs = false by simp [validR, hv]; omega]
    have g1 : decide ((rs.length : Int) > 60) = true := by simp; omega
    clear hv h60
    go_enter Try.func26, Try.ntmps26
    go_wp2_with (go_at_call 50; (with_reducible refine h50.mono ?_); rintro X w1 ⟨rfl, hb⟩)
    go_ret
    exact ⟨rfl, hb⟩
  have g60 : decide ((rs.length : Int) > 60) = false := by simp; omega
  have h51 := fun W (h : Below w.heap.size w W) => marked_51 p l cap W (hS.on h) (validL_le hv)
  have HV := Lib.hid hv
  have H60 := Lib.hid h60
  have hlr := h60
  clear hv h60
  go_enter Try.func26, Try.ntmps26
  go_wp2_with (first
    | (go_at_call 50; (with_reducible refine h50.mono ?_); rintro X w1 ⟨rfl, hb1⟩)
    | (go_at_call 51; (with_reducible refine (h51 _ hb1).mono ?_); rintro X w2 ⟨mb, rfl, hmb, M, hb2⟩; have B0 := belows hb1 hb2; clear hb1 hb2))
  clear h51 h50
  go_loopw [22] (fun v wr => ∃ k : Nat, v = .int .i64 k ∧ k ≤ rs.length ∧ Hid (∀ r ∈ rs.take k, fitsM l r = true) ∧ Smap wr mb 60 (mkF l) ∧ Below w.heap.size w wr) (fun v _ => rs.length - (intOf v).toNat)
  case atStart => exact ⟨0, rfl, Nat.zero_le _, Lib.hid (by simp), M, B0⟩
  case round =>
    clear M B0
    obtain ⟨k, rfl, hk, hG, M, hB⟩ := hrel
    by_cases hlt : k < rs.length
    · have g1 : decide ((k : Int) < (rs.length : Int)) = true := by simp [hlt]
      have W1 : IntKind.i64.wrap ((k : Int) + 1) = ((k + 1 : Nat) : Int) := by rw [IntWalk.i64_in _ (by omega)]; omega
      obtain ⟨a, rfl, h0, h1, h2, h3, h4, h5, h6, h7, h8, h9⟩ := (hR.on hB).at_ k hlt
      have hnm := (hR.ok _ (List.getElem_mem hlt)).nm
      have R5 := (M.on (al1 wr (.cells rs[k].cs 30))).look2 rs[k].mark hnm Try.underlying98 (zero49 _)
      have HM5 := Lib.hid (M.on (al1 wr (.cells rs[k].cs 30)))
      have E := (Env.nil wr).add wr.heap.size 30 rs[k].cs rfl
      have HB := Lib.hid hB
      rw [mkF_valid HV.out] at R5
      cases hb : barOf l rs[k].mark with
      | none =>
        have hf : fitsM l rs[k] = false := by unfold fitsM; rw [hb]
        have hvr : validR l rs = false := by
          unfold validR
          rw [List.all_eq_false.2 ⟨_, List.getElem_mem hlt, by simp [hf]⟩]; simp
        rw [hb] at R5
        simp only [Option.map_none, Option.getD_none, Option.isSome_none] at R5
        have HVR := Lib.hid hvr
        rw [rcs] at E R5
        have C := E.cells
        simp [BC, CF] at C
        clear hf hvr hb
        generalize rs[k] = r at *
        obtain ⟨rm, ⟨tx, ty⟩, ⟨ax, ay, az⟩, ⟨sx, sy, sz⟩, ct⟩ := r
        dsimp only at *
        go_wp2
        go_ret
        exact ⟨by rw [HVR.out]; rfl, al (belows HB.out (envb E)) _⟩
      | some b =>
        obtain ⟨hbb, hbm, hbe⟩ := barOf_ok HV.out hb
        have hf : fitsM l rs[k] = fitsB b rs[k] := by unfold fitsM; rw [hb]
        rw [hb] at R5
        simp only [Option.map_some, Option.getD_some, Option.isSome_some] at R5
        have h52 := fun W (h : Below w.heap.size w W) => fits_52 b rs[k] W ((hS.ok b hbm).on h) hbb
        have HF : Hid (fitsB b rs[k] = true → ∀ r ∈ rs.take (k + 1), fitsM l r = true) := Lib.hid fun e => all_drop hlt hG.out (by rw [hf]; exact e)
        have HN : Hid (fitsB b rs[k] = false → validR l rs = false) := Lib.hid fun e => by
          unfold validR
          rw [List.all_eq_false.2 ⟨_, List.getElem_mem hlt, by simp [hf, e]⟩]; simp
        rw [rcs] at E R5
        rw [vcs] at R5
        rw [vcs, rvs] at h52
        clear hf hb hbe hbm
        generalize fitsB b rs[k] = FB at *
        generalize hrr : rs[k] = r at *
        clear hrr
        obtain ⟨rm, ⟨tx, ty⟩, ⟨ax, ay, az⟩, ⟨sx, sy, sz⟩, ct⟩ := r
        obtain ⟨mk, bs, bct, cd, bp, ds, bcap⟩ := b
        dsimp only at *
        have E2 := E.add (wr.heap.size + 1) 49 #[.string mk, .int .i64 bs, .int .i64 bct, .int .i64 cd, .slice bp ds.length bcap] (by simp)
        have C := E2.cells
        simp [BC, CF] at C
        cases FB
        · go_wp2_with (go_at_call 52; (with_reducible refine (h52 _ (belows HB.out (envb E2))).mono ?_); rintro X w5 ⟨rfl, hb5⟩)
          go_ret
          exact ⟨by rw [HN.out trivial]; rfl, belows (belows HB.out (envb E2)) hb5⟩
        · go_wp2_with (go_at_call 52; (with_reducible refine (h52 _ (belows HB.out (envb E2))).mono ?_); rintro X w5 ⟨rfl, hb5⟩)
          exact ⟨⟨k + 1, rfl, hlt, Lib.hid (HF.out trivial), (HM5.out.on (al1 _ _)).on hb5, belows (belows HB.out (envb E2)) hb5⟩, by simp [intOf]; omega⟩
    · have g1 : decide ((k : Int) < (rs.length : Int)) = false := by simp; omega
      have hall : ∀ r ∈ rs, fitsM l r = true := by
        have := hG.out
        rwa [List.take_of_length_le (by omega)] at this
      have h53 := fun W (h : Below w.heap.size w W) => total_53 q rs capr W (hR.on h) H60.out fun r hr => fitsM_ct (hall r hr)
      have hvr : validR l rs = decide (totR rs ≤ 2000) := by
        unfold validR
        rw [HV.out, List.all_eq_true.2 hall, show decide (rs.length ≤ 60) = true by simpa using H60.out]; simp
      have HVR := Lib.hid hvr
      clear hvr hall hG
      generalize totR rs = tt at *
      go_wp2_with (go_at_call 53; (with_reducible refine (h53 _ hB).mono ?_); rintro X w5 ⟨rfl, hb5⟩)
      go_ret
      exact ⟨by rw [HVR.out]; rfl, belows hB hb5⟩
end Go.Proofs.Ytfkcogocaecodaa
namespace Go.Proofs.Ytfkcogocaecodaa
open Go.ChangeShapes Go.WideShapes Go.ChangeAt Go.RowKit Go.Maps Go.Shelf
set_option linter.unusedVariables false
set_option linter.unusedSimpArgs false

attribute [local go_sem] Oper.semAt_some
/-- The paths of the bars of a run. -/
def rpaths (b : Bar) (r : Rn) : List (ByteArray × List Pt) := (List.range r.ct.toNat).map fun k => (r.mark, bpts b r k)
theorem rpaths_len (b : Bar) (r : Rn) : (rpaths b r).length = r.ct.toNat := by simp [rpaths]
theorem rpaths_at (b : Bar) (r : Rn) {k : Nat} (h : k < r.ct.toNat) : (rpaths b r)[k]? = some (r.mark, bpts b r k) := by simp [rpaths, h]
def layR (l : List Bar) (r : Rn) : List (ByteArray × List Pt) := match barOf l r.mark with
  | some b => rpaths b r
  | none => []
/-- The marks and paths of all laid bars. -/
def lay (l : List Bar) (rs : List Rn) : List (ByteArray × List Pt) := rs.flatMap (layR l)
theorem lay_take {l : List Bar} {rs : List Rn} {j : Nat} (hj : j < rs.length) : lay l (rs.take (j + 1)) = lay l (rs.take j) ++ layR l rs[j] := by
  unfold lay
  rw [List.take_succ_eq_append_getElem hj, List.flatMap_append]; simp
theorem lay_split {l : List Bar} {rs : List Rn} {j : Nat} (hj : j < rs.length) : lay l rs = lay l (rs.take j) ++ layR l rs[j] ++ lay l (rs.drop (j + 1)) := by
  rw [← lay_take hj]
  unfold lay
  rw [← List.flatMap_append, List.take_append_drop]
theorem validR_and {l : List Bar} {rs : List Rn} (h : validR l rs = true) : validL l = true ∧ rs.length ≤ 60 ∧ (∀ r ∈ rs, fitsM l r = true) ∧ totR rs ≤ 2000 := by
  unfold validR at h
  simp only [Bool.and_eq_true, decide_eq_true_eq, List.all_eq_true] at h
  exact h
theorem fitsM_bar {l : List Bar} {r : Rn} (h : fitsM l r = true) : ∃ b, barOf l r.mark = some b ∧ fitsB b r = true := by
  unfold fitsM at h
  split at h
  · rename_i b hb; exact ⟨b, hb, h⟩
  · cases h
theorem fitsB_and {b : Bar} {r : Rn} (h : fitsB b r = true) : Fm.vT r.tn = true ∧ (1 ≤ r.ct ∧ r.ct ≤ 1000) ∧ (r.ct ≤ 1 ∨ r.st.bd 2097152) ∧ Fm.nearB r.at_ = true := by
  unfold fitsB at h
  simp only [Bool.and_eq_true, Bool.or_eq_true, decide_eq_true_eq] at h
  refine ⟨h.1, ⟨h.2.1, h.2.2.1⟩, ?_, h.2.2.2.2.1⟩
  rcases h.2.2.2.1 with h | h
  · exact .inl h
  · exact .inr (inB_bd.1 h.2)
theorem totR_le {l : List Rn} (h : ∀ r ∈ l, 1 ≤ r.ct ∧ r.ct ≤ 1000) {j : Nat} (hj : j < l.length) : 0 ≤ totR (l.take j) ∧ totR (l.take j) + l[j].ct ≤ totR l := by
  have e := totR_take hj
  have b1 := totR_bd (l := l.take j) fun x hx => h x (List.mem_of_mem_take hx)
  have b2 := totR_bd (l := l.drop (j + 1)) fun x hx => h x (List.mem_of_mem_drop hx)
  have e2 : totR l = totR (l.take (j + 1)) + totR (l.drop (j + 1)) := by
    unfold totR
    rw [← List.sum_append, ← List.map_append, List.take_append_drop]
  omega
theorem lay_len {l : List Bar} : ∀ {rs : List Rn}, (∀ r ∈ rs, fitsM l r = true) → ((lay l rs).length : Int) = totR rs
  | [], _ => rfl
  | r :: rs, h => by
    have ih := lay_len (l := l) (rs := rs) fun x hx => h x (by simp [hx])
    obtain ⟨b, hb, hf⟩ := fitsM_bar (h r (by simp))
    have hc := (fitsB_and hf).2.1
    have e : lay l (r :: rs) = layR l r ++ lay l rs := by simp [lay]
    have e2 : totR (r :: rs) = r.ct + totR rs := by simp [totR]
    rw [e, e2, List.length_append]
    unfold layR
    rw [hb]
    dsimp only
    rw [rpaths_len]; omega
/-- The points of each bar of a run are within bounds, for one more step. -/
theorem bpts_ok {b : Bar} {r : Rn} (hb : barB b = true) (hf : fitsB b r = true) {k : Nat} (hk : (k : Int) < r.ct) (h1 : 0 < k) : ∀ p ∈ bpts b r (k - 1), (adp p r.st).ok := by
  obtain ⟨ht, hc, hs, hn⟩ := fitsB_and hf
  have hst : r.st.bd 2097152 := by
    rcases hs with h | h
    · omega
    · exact h
  intro p hp
  have hin : adp p r.st ∈ bpts b r (k - 1 + 1) := by
    rw [← bpts_succ]
    exact List.mem_map.2 ⟨p, hp, rfl⟩
  unfold bpts mvd at hin
  obtain ⟨x, hx, e⟩ := List.mem_map.1 hin
  rw [← e]
  exact bd_ok (bd_add (fst_bd hb ht hn x hx) (bd_scl (M := 1000) hst (by omega) (by omega))) (by decide)
/-- What is yielded: a number, a mark, and a path of the iterator's own. -/
def Ry (B i : Nat) (x : ByteArray × List Pt) (W : World) (vs : Array Value) : Prop := ∃ q c, vs = #[.int .i64 i, .agg #[.string x.1, .slice q x.2.length c]] ∧ Own pc 24 3 B W (.slice q x.2.length c) x.2
theorem Kpo.below {N M : Nat} {V A B : World} (h : Below N V A) (k : Kpo (fun k => k < N ∨ M ≤ k) A B) (hN : N ≤ A.heap.size) : Below N V B :=
  ⟨k.os.trans h.os, k.tape.trans h.tape, k.output.trans h.output, Nat.le_trans h.size k.size, fun j hj => (k.block j (by omega) (.inl hj)).trans (h.block j hj)⟩
/-- The invariant between two runs. -/
structure Ito (J : List (ByteArray × List Pt) → World → Prop) (l : List Bar) (rs : List Rn) (V : World) (M mb j : Nat) (w : World) : Prop where
  le : j ≤ rs.length
  jj : J (lay l (rs.take j)) w
  mp : Smap w mb 60 (mkF l)
  hb : Below V.heap.size V w
  sz : M ≤ w.heap.size
/-- The invariant between two bars of a run. -/
structure Iti (J : List (ByteArray × List Pt) → World → Prop) (l : List Bar) (rs : List Rn) (V : World) (M mb : Nat) (b : Bar) (r : Rn) (j rb lb g cp k : Nat) (w : World) : Prop where
  le : (k : Int) ≤ r.ct
  jj : J (lay l (rs.take j) ++ (rpaths b r).take k) w
  mp : Smap w mb 60 (mkF l)
  hb : Below V.heap.size V w
  sz : M ≤ w.heap.size
  run : Has w rb 30 r.cs
  pth : Has w lb 83 #[.string r.mark, .slice (some ⟨g, 0, none⟩) (nl b.code + 1) cp]
  own : Own pc 24 3 M w (.slice (some ⟨g, 0, none⟩) (nl b.code + 1) cp) (bpts b r (k - 1))
theorem Has.kps {S : Nat → Prop} {A B : World} {g : Nat} {t : TypeId} {cs : Array Value} (h : Has A g t cs) (hk : Kps S A B) (hs : S g) : Has B g t cs := by
  unfold Has; rw [hk.block g h.size_ hs]; exact h
theorem own_kps {B : Nat} {w w' : World} {e : TypeId} {s : Nat} {v : Value} {n : Nat} {xs : List Value} (h : w.ownsRow B e s v n xs) (hk : ∀ k, v.ownBlock = some k → w'.heap[k]? = w.heap[k]?) : w'.ownsRow B e s v n xs := by
  obtain ⟨hl, h0 | ⟨g, cap, cur, rfl, hB, hg, r⟩⟩ := h
  · exact ⟨hl, .inl h0⟩
  · exact ⟨hl, .inr ⟨g, cap, cur, rfl, hB, by rw [hk g rfl]; exact hg, r⟩⟩
structure StopI (p : Prop) : Prop where
  out : p
set_option maxHeartbeats 8000000 in
set_option maxRecDepth 100000 in
theorem paths_yields (n gb gr : Nat) (p : Option Addr) (l : List Bar) (cap : Nat) (q : Option Addr) (rs : List Rn) (capr : Nat) (V W : World) (hS : Slb V p l cap) (hR : Slr V q rs capr) (hv : validR l rs = true)
    (c0 : V.cell? ⟨gb, 0, none⟩ = some (.slice p l.length cap)) (c1 : V.cell? ⟨gr, 0, none⟩ = some (.slice q rs.length capr)) (hW : Below V.heap.size V W) (hWs : W.heap.size = V.heap.size + 2) :
    YieldsB n Try.prog 73 #[] #[.pointer (some ⟨gb, 0, none⟩), .pointer (some ⟨gr, 0, none⟩)] (Ry (V.heap.size + 2)) (fun k => k < V.heap.size) (lay l rs) W := by
  intro y J Jx hJ hJx hY h0
  obtain ⟨hvl, hl60, hfit, htot⟩ := validR_and hv
  rw [hWs] at hJ hY
  have HY := Lib.hid hY
  have HJ := Lib.hid hJ
  have HF := Lib.hid hfit
  have HS := Lib.hid hS
  have HR := Lib.hid hR
  have HV := Lib.hid hvl
  have H51 := Lib.hid (fun W (h : Slb W p l cap) => marked_51 p l cap W h (validL_le hvl))
  have HT := Lib.hid htot
  clear hY hJ hJx hfit hvl hv htot
  have cw0 := cell_later hW c0
  have cw1 := cell_later hW c1
  refine callsIn_of_wp Try.func73 rfl trivial ?_
  simp only [Try.ntmps73, List.size_toArray, List.length_cons, List.length_nil, Nat.reduceAdd, Nat.reduceSub, Array.replicate_succ, Array.replicate_zero, List.push_toArray, List.append_toArray, List.nil_append, List.cons_append]
  have hf51 : Fence.wide.fn 51 := trivial
  have hf69 : Fence.wide.fn 69 := trivial
  have hf71 : Fence.wide.fn 71 := trivial
  have h51 := (callsIn_wide (n := n - 1)).2 (H51.out W (hS.on hW))
  gi_wp2_with (refine ⟨fun h => (by cases h), h51.mono ?_⟩; rintro X w1 ⟨mb, rfl, hmb, hM, hb1⟩; have cz1 := cell_later hb1 cw1)
  have I0 : Ito J l rs V (V.heap.size + 2) mb 0 w1 := ⟨Nat.zero_le _, HJ.out _ _ _ h0 (by omega) (Below.less hb1 (by omega)), hM, hW.trans (Below.less hb1 (by omega)), by have := hb1.size; omega⟩
  have hmv : V.heap.size + 2 ≤ mb := by omega
  clear h51 h0 hM hb1 cw0 cw1
  gi_loopw [5, 15] (fun a v wr => ∃ j : Nat, v = .int .i64 j ∧ a = .int .i64 ((lay l (rs.take j)).length : Nat) ∧ Ito J l rs V (V.heap.size + 2) mb j wr) (fun _ v _ => rs.length - (intOf v).toNat)
  case atStart => exact ⟨0, rfl, rfl, I0⟩
  case round =>
    clear I0 cz1
    obtain ⟨j, rfl, rfl, I⟩ := hrel
    have hj := I.le
    by_cases hlt : j < rs.length
    · have g1 : decide ((j : Int) < (rs.length : Int)) = true := by simp [hlt]
      have W1 : IntKind.i64.wrap ((j : Int) + 1) = ((j + 1 : Nat) : Int) := by rw [IntWalk.i64_in _ (by omega)]; omega
      obtain ⟨a, rfl, h0, h1, h2, h3, h4, h5, h6, h7, h8, h9⟩ := (HR.out.on I.hb).at_ j hlt
      have hrm := List.getElem_mem hlt
      have hnm := (HR.out.ok _ hrm).nm
      obtain ⟨b, hb, hf⟩ := fitsM_bar (HF.out _ hrm)
      obtain ⟨hbb, hbm, hbe⟩ := barOf_ok HV.out hb
      obtain ⟨hvt, hct, hst, hnr⟩ := fitsB_and hf
      have hlj := lay_len (l := l) (rs := rs.take j) fun x hx => HF.out x (List.mem_of_mem_take hx)
      have htj := totR_le (fun x hx => fitsM_ct (HF.out x hx)) hlt
      have HT1 : Hid (((lay l (rs.take j)).length : Int) + rs[j].ct ≤ 2000) := Lib.hid (by have := HT.out; omega)
      have HSp : Hid (lay l rs = lay l (rs.take j) ++ rpaths b rs[j] ++ lay l (rs.drop (j + 1)) ∧ lay l (rs.take (j + 1)) = lay l (rs.take j) ++ rpaths b rs[j]) := Lib.hid (by
        have e : layR l rs[j] = rpaths b rs[j] := by unfold layR; rw [hb]
        rw [← e]; exact ⟨lay_split hlt, lay_take hlt⟩)
      have bV := al I.hb (.cells rs[j].cs 30)
      have R5 := (I.mp.on (al1 wr (.cells rs[j].cs 30))).look rs[j].mark hnm Try.underlying98 (zero49 _)
      rw [mkF_valid HV.out, hb] at R5
      simp only [Option.map_some, Option.getD_some] at R5
      have H69 := first_ok b rs[j] (wr.alloc (.cells rs[j].cs 30)) ((HS.out.ok b hbm).on bV) hbb hvt hnr
      have hlf : (fst b rs[j]).length = nl b.code + 1 := fst_len _ _
      have HOK := Lib.hid (fun (k : Nat) (hk : (k : Int) < rs[j].ct) h1 => bpts_ok hbb hf hk h1)
      have hn7 := pts_le hbb
      have Run0 := Has.new_ wr 30 rs[j].cs
      have hz0 : (wr.alloc (.cells rs[j].cs 30)).heap.size = wr.heap.size + 1 := World.size_alloc _ _
      have I1 : Hid (J (lay l (rs.take j)) wr ∧ Smap wr mb 60 (mkF l) ∧ Below V.heap.size V wr ∧ V.heap.size + 2 ≤ wr.heap.size) := Lib.hid ⟨I.jj, I.mp, I.hb, I.sz⟩
      clear hlj htj hb hbe hbm hvt hst hnr hf I hrm
      rw [rcs] at R5 H69 bV Run0 hz0
      rw [vcs] at R5
      rw [vcs, rvs] at H69
      generalize hfst : fst b rs[j] = L0 at *
      have HL0 := Lib.hid hfst
      clear hfst
      gi_upto_region 5 with fail
      have C := ((Env.nil wr).add wr.heap.size 30 #[.string rs[j].mark, .int .i64 rs[j].tn.x, .int .i64 rs[j].tn.y, .int .i64 rs[j].at_.x, .int .i64 rs[j].at_.y, .int .i64 rs[j].at_.z, .int .i64 rs[j].st.x, .int .i64 rs[j].st.y, .int .i64 rs[j].st.z, .int .i64 rs[j].ct] rfl).cells
      simp [BC, CF] at C
      gi_upto_region 6 with (refine ⟨fun h => (by cases h), (callsIn_wide.2 H69).mono ?_⟩; rintro X w3 ⟨v, rfl, hO, hb3⟩; obtain ⟨g, cp, rfl, -⟩ := Own.fn hO (by omega); rw [hlf])
      rw [hlf] at hO
      have hO1 := (own_cells hO hlf (k := 0) (by omega)).2.2
      have hcp : nl b.code + 1 ≤ cp := by
        obtain ⟨hl, ⟨h0, -⟩ | ⟨g', cap', cur, e', hB, hg, hn, hm, hs, ht⟩⟩ := hO
        · cases h0
        · simp only [Value.slice.injEq] at e'
          omega
      have hl3 := hb3.size
      have HZ : Hid (V.heap.size + 2 ≤ wr.heap.size ∧ V.heap.size + 2 ≤ w3.heap.size) := Lib.hid (by have := I1.out.2.2.2; omega)
      have bw4 : Below wr.heap.size wr (w3.alloc (.cells #[.string rs[j].mark, .slice (some ⟨g, 0, none⟩) (nl b.code + 1) cp] 83)) := al (belows (al1 wr _) hb3) _
      have K0 : Iti J l rs V (V.heap.size + 2) mb b rs[j] j wr.heap.size w3.heap.size g cp 0 (w3.alloc (.cells #[.string rs[j].mark, .slice (some ⟨g, 0, none⟩) (nl b.code + 1) cp] 83)) := by
        obtain ⟨i1, i2, i3, i4⟩ := I1.out
        refine ⟨by omega, by rw [List.take_zero, List.append_nil]; exact HJ.out _ _ _ i1 i4 (Below.less bw4 i4), i2.on bw4, i3.trans (Below.less bw4 (by omega)), by have := bw4.size; omega, (Run0.on hb3).on (al1 _ _), Has.new_ _ _ _, ?_⟩
        rw [bpts_zero, HL0.out]
        exact Own.mono (own_on hO (al1 _ _)) (by omega)
      have hG : V.heap.size + 2 ≤ g ∧ g ≠ wr.heap.size ∧ g ≠ w3.heap.size ∧ g ≠ mb := by
        have := I1.out.2.2.2
        have := I1.out.2.1.lt
        omega
      have R9 : (w3.alloc (.cells #[.string rs[j].mark, .slice (some ⟨g, 0, none⟩) (nl b.code + 1) cp] 83)).cell? ⟨wr.heap.size, 9, none⟩ = some (.int .i64 rs[j].ct) := K0.run.read 9
      clear hO hO1 hl3 hb3 bw4 C R5 H69 Run0 bV I1 HL0 hlf hz0 h0 h1 h2 h3 h4 h5 h6 h7 h8 h9
      generalize w3.alloc (.cells #[.string rs[j].mark, .slice (some ⟨g, 0, none⟩) (nl b.code + 1) cp] 83) = w4 at *
      generalize wr.heap.size = rb at *
      generalize w3.heap.size = lb at *
      gi_wp2
      gi_loopw [5, 30] (fun a v wr => ∃ k : Nat, v = .int .i64 k ∧ a = .int .i64 (((lay l (rs.take j)).length + k : Nat) : Int) ∧ Iti J l rs V (V.heap.size + 2) mb b rs[j] j rb lb g cp k wr) (fun _ v _ => rs[j].ct.toNat - (intOf v).toNat)
      case atStart => exact ⟨0, rfl, rfl, K0⟩
      case round =>
        clear K0 R9
        obtain ⟨k, rfl, rfl, K⟩ := hrel
        have hkc := K.le
        by_cases hlk : (k : Int) < rs[j].ct
        · have g2 : decide ((k : Int) < rs[j].ct) = true := by simpa using hlk
          have hN := HT1.out
          have W2 : IntKind.i64.wrap ((k : Int) + 1) = ((k + 1 : Nat) : Int) := by rw [IntWalk.i64_in _ (by omega)]; omega
          have W3 : Hid (IntKind.i64.wrap ((((lay l (rs.take j)).length + k : Nat) : Int) + 1) = (((lay l (rs.take j)).length + (k + 1) : Nat) : Int)) := Lib.hid (by rw [IntWalk.i64_in _ (by omega)]; omega)
          have W4 : Hid (wrap64 (((lay l (rs.take j)).length : Int) + (k : Int) + 1) = (((lay l (rs.take j)).length + (k + 1) : Nat) : Int)) := Lib.hid (by rw [IntWalk.wrap64_in _ (by omega)]; omega)
          have HX : Hid (lay l rs = (lay l (rs.take j) ++ (rpaths b rs[j]).take k) ++ (rs[j].mark, bpts b rs[j] k) :: ((rpaths b rs[j]).drop (k + 1) ++ lay l (rs.drop (j + 1))) ∧ (lay l (rs.take j) ++ (rpaths b rs[j]).take k) ++ [(rs[j].mark, bpts b rs[j] k)] = lay l (rs.take j) ++ (rpaths b rs[j]).take (k + 1) ∧ (lay l (rs.take j) ++ (rpaths b rs[j]).take k).length = (lay l (rs.take j)).length + k) := Lib.hid (by
            have hkr : k < (rpaths b rs[j]).length := by rw [rpaths_len]; omega
            have e1 : (rpaths b rs[j])[k] = (rs[j].mark, bpts b rs[j] k) := by
              have := rpaths_at b rs[j] (k := k) (by omega)
              rw [List.getElem?_eq_getElem hkr] at this
              simpa using this
            have e2 : rpaths b rs[j] = (rpaths b rs[j]).take k ++ (rs[j].mark, bpts b rs[j] k) :: (rpaths b rs[j]).drop (k + 1) := by
              conv => lhs; rw [← List.take_append_drop k (rpaths b rs[j]), List.drop_eq_getElem_cons hkr, e1]
            refine ⟨?_, ?_, ?_⟩
            · rw [HSp.out.1]
              conv => lhs; rw [e2]
              simp [List.append_assoc]
            · rw [List.take_succ_eq_append_getElem hkr, e1, List.append_assoc]
            · rw [List.length_append, List.length_take]; omega)
          have hgk : V.heap.size + 2 ≤ g ∧ True ∧ g < wr.heap.size := ⟨hG.1, trivial, (own_cells K.own (bpts_len _ _ _) (k := 0) (by rw [bpts_len]; omega)).2.2.2⟩
          clear hN
          rcases Nat.eq_zero_or_pos k with hk0 | hk0
          · have g3 : decide ((k : Int) > 0) = false := by simp; omega
            have g4 : decide (0 < k) = false := by simp; omega
            have Y5 : Hid (J (lay l (rs.take j) ++ (rpaths b rs[j]).take k) wr ∧ Smap wr mb 60 (mkF l) ∧ Below V.heap.size V wr ∧ V.heap.size + 2 ≤ wr.heap.size ∧ Has wr rb 30 rs[j].cs ∧ Has wr lb 83 #[.string rs[j].mark, .slice (some ⟨g, 0, none⟩) (nl b.code + 1) cp] ∧ Own pc 24 3 (V.heap.size + 2) wr (.slice (some ⟨g, 0, none⟩) (nl b.code + 1) cp) (bpts b rs[j] k)) := Lib.hid ⟨K.jj, K.mp, K.hb, K.sz, K.run, K.pth, by have := K.own; rw [show k - 1 = k by omega] at this; exact this⟩
            clear K hk0
            have hY := HY.out (lay l (rs.take j) ++ (rpaths b rs[j]).take k) (rs[j].mark, bpts b rs[j] k) ((rpaths b rs[j]).drop (k + 1) ++ lay l (rs.drop (j + 1))) wr #[.int .i64 (((lay l (rs.take j)).length : Int) + (k : Int)), .agg #[.string rs[j].mark, .slice (some ⟨g, 0, none⟩) (nl b.code + 1) cp]] HX.out.1 Y5.out.1 Y5.out.2.2.2.1 ⟨some ⟨g, 0, none⟩, cp, (by rw [HX.out.2.2, Int.natCast_add]; simp only [bpts_len]), (by simp only [bpts_len]; exact Y5.out.2.2.2.2.2.2)⟩
            obtain ⟨fn, tmps, assign, body, hy, hR⟩ := hY
            have P0 := Y5.out.2.2.2.2.2.1.read 0
            have P1 := Y5.out.2.2.2.2.2.1.read 1
            simp only [List.getElem?_toArray, List.getElem?_cons_succ, List.getElem?_cons_zero] at P0 P1
            gi_wp2
            refine ⟨fun h => (by cases h), hR.mono ?_⟩
            rintro e w6 (⟨rfl, hJ6, hk6⟩ | ⟨rfl, hJx6⟩)
            · have K6 : Hid (Iti J l rs V (V.heap.size + 2) mb b rs[j] j rb lb g cp (k + 1) w6) := Lib.hid (by
                obtain ⟨-, y1, y2, y3, y4, y5, y6⟩ := Y5.out
                refine ⟨by omega, by rw [← HX.out.2.1]; exact hJ6, y1.same (hk6.block mb y1.lt (.inr hmv)), Kpo.below y2 hk6 (by omega), by have := hk6.size; omega, y4.kps hk6.toKps (.inr HZ.out.1), y5.kps hk6.toKps (.inr HZ.out.2), ?_⟩
                rw [Nat.add_sub_cancel]
                refine own_kps y6 fun z hz => ?_
                have hzz : g = z := by simpa [Value.ownBlock] using hz
                subst hzz
                exact hk6.block _ hgk.2.2 (.inr hgk.1))
              clear hJ6 hk6 hR hy P0 P1
              gi_wp2
              go_roundw
              case rel => exact ⟨k + 1, rfl, congrArg (Value.int .i64) W4.out, K6.out⟩
              case measure => simp [intOf]; omega
            · gi_wp2
              refine bodyPost_ret (results_none rfl _ _ _) rfl ⟨⟨_, rfl⟩, .inr ⟨_, (rpaths b rs[j]).drop (k + 1) ++ lay l (rs.drop (j + 1)), (by rw [HX.out.1]; simp), hJx6⟩⟩
          · have g3 : decide ((k : Int) > 0) = true := by simp; omega
            have g4 : decide (0 < k) = true := by simp; omega
            have HK := Lib.hid K
            have P0 := K.pth.read 0
            have P1 := K.pth.read 1
            have P6 := K.run.read 6
            have P7 := K.run.read 7
            have P8 := K.run.read 8
            simp only [rcs, List.getElem?_toArray, List.getElem?_cons_succ, List.getElem?_cons_zero] at P0 P1 P6 P7 P8
            have hKo := K.own
            rw [← bpts_len b rs[j] (k - 1)] at hKo
            have h71 := move_71 rs[j].mark g cp (bpts b rs[j] (k - 1)) rs[j].st (V.heap.size + 2) wr hKo (by rw [bpts_len]; exact hcp) (HOK.out k hlk hk0) (by rw [bpts_len]; omega)
            rw [bpts_len] at h71
            unfold Pt.val at h71
            clear K hKo
            gi_upto_region 11 with (refine ⟨fun h => (by cases h), (callsIn_wide.2 h71).mono ?_⟩; rintro X w5 ⟨rfl, hO5, hc5⟩)
            have Y5 : Hid (J (lay l (rs.take j) ++ (rpaths b rs[j]).take k) w5 ∧ Smap w5 mb 60 (mkF l) ∧ Below V.heap.size V w5 ∧ V.heap.size + 2 ≤ w5.heap.size ∧ Has w5 rb 30 rs[j].cs ∧ Has w5 lb 83 #[.string rs[j].mark, .slice (some ⟨g, 0, none⟩) (nl b.code + 1) cp] ∧ Own pc 24 3 (V.heap.size + 2) w5 (.slice (some ⟨g, 0, none⟩) (nl b.code + 1) cp) (bpts b rs[j] k)) := Lib.hid (by
              have K := HK.out
              have bb : Below (V.heap.size + 2) wr w5 := Below.less (Chg.below' hc5 (by omega)) hgk.1
              have hx : ∀ z, z ≠ g → z < g ∨ g + 1 ≤ z := fun z hz => by omega
              refine ⟨HJ.out _ _ _ K.jj K.sz bb, K.mp.same (hc5.block mb K.mp.lt (hx _ (Ne.symm hG.2.2.2))), K.hb.trans (Below.less bb (by omega)), by have := K.sz; have := hc5.size; omega, ?_, ?_, ?_⟩
              · unfold Has; rw [hc5.block rb K.run.size_ (hx _ (Ne.symm hG.2.1))]; exact K.run
              · unfold Has; rw [hc5.block lb K.pth.size_ (hx _ (Ne.symm hG.2.2.1))]; exact K.pth
              · rw [bpts_succ, show k - 1 + 1 = k by omega] at hO5
                exact hO5)
            have hgk : V.heap.size + 2 ≤ g ∧ True ∧ g < w5.heap.size := ⟨hgk.1, trivial, by have := hc5.size; omega⟩
            clear hO5 hc5 h71 HK P0 P1 P6 P7 P8 hk0
            have hY := HY.out (lay l (rs.take j) ++ (rpaths b rs[j]).take k) (rs[j].mark, bpts b rs[j] k) ((rpaths b rs[j]).drop (k + 1) ++ lay l (rs.drop (j + 1))) w5 #[.int .i64 (((lay l (rs.take j)).length : Int) + (k : Int)), .agg #[.string rs[j].mark, .slice (some ⟨g, 0, none⟩) (nl b.code + 1) cp]] HX.out.1 Y5.out.1 Y5.out.2.2.2.1 ⟨some ⟨g, 0, none⟩, cp, (by rw [HX.out.2.2, Int.natCast_add]; simp only [bpts_len]), (by simp only [bpts_len]; exact Y5.out.2.2.2.2.2.2)⟩
            obtain ⟨fn, tmps, assign, body, hy, hR⟩ := hY
            have P0 := Y5.out.2.2.2.2.2.1.read 0
            have P1 := Y5.out.2.2.2.2.2.1.read 1
            simp only [List.getElem?_toArray, List.getElem?_cons_succ, List.getElem?_cons_zero] at P0 P1
            gi_wp2
            refine ⟨fun h => (by cases h), hR.mono ?_⟩
            rintro e w6 (⟨rfl, hJ6, hk6⟩ | ⟨rfl, hJx6⟩)
            · have K6 : Hid (Iti J l rs V (V.heap.size + 2) mb b rs[j] j rb lb g cp (k + 1) w6) := Lib.hid (by
                obtain ⟨-, y1, y2, y3, y4, y5, y6⟩ := Y5.out
                refine ⟨by omega, by rw [← HX.out.2.1]; exact hJ6, y1.same (hk6.block mb y1.lt (.inr hmv)), Kpo.below y2 hk6 (by omega), by have := hk6.size; omega, y4.kps hk6.toKps (.inr HZ.out.1), y5.kps hk6.toKps (.inr HZ.out.2), ?_⟩
                rw [Nat.add_sub_cancel]
                refine own_kps y6 fun z hz => ?_
                have hzz : g = z := by simpa [Value.ownBlock] using hz
                subst hzz
                exact hk6.block _ hgk.2.2 (.inr hgk.1))
              clear hJ6 hk6 hR hy P0 P1
              gi_wp2
              go_roundw
              case rel => exact ⟨k + 1, rfl, congrArg (Value.int .i64) W4.out, K6.out⟩
              case measure => simp [intOf]; omega
            · gi_wp2
              refine bodyPost_ret (results_none rfl _ _ _) rfl ⟨⟨_, rfl⟩, .inr ⟨_, (rpaths b rs[j]).drop (k + 1) ++ lay l (rs.drop (j + 1)), (by rw [HX.out.1]; simp), hJx6⟩⟩
        · have g2 : decide ((k : Int) < rs[j].ct) = false := by simp; omega
          have HN : Hid (Ito J l rs V (V.heap.size + 2) mb (j + 1) wr ∧ (lay l (rs.take j)).length + k = (lay l (rs.take (j + 1))).length) := Lib.hid (by
            have e : k = (rpaths b rs[j]).length := by rw [rpaths_len]; omega
            have hJ := K.jj
            rw [e, List.take_length, ← HSp.out.2] at hJ
            exact ⟨⟨hlt, hJ, K.mp, K.hb, K.sz⟩, by rw [HSp.out.2, List.length_append, e]⟩)
          clear K
          gi_wp2
          go_roundw
          case rel => exact ⟨j + 1, rfl, by rw [← HN.out.2], HN.out.1⟩
          case measure => simp [intOf]; omega
    · have g1 : decide ((j : Int) < (rs.length : Int)) = false := by simp; omega
      have hJe := I.jj
      rw [List.take_of_length_le (by omega)] at hJe
      have HJe := Lib.hid hJe
      clear I hJe
      gi_wp2
      go_end0
      exact ⟨⟨_, rfl⟩, .inl HJe.out⟩
end Go.Proofs.Ytfkcogocaecodaa
namespace Go.Proofs.Ytfkcogocaecodaa
open Go.ChangeShapes Go.WideShapes Go.ChangeAt Go.RowKit Go.Maps Go.Shelf
set_option linter.unusedVariables false
set_option linter.unusedSimpArgs false

attribute [local go_sem] Oper.semAt_some
theorem paths_55 (p : Option Addr) (n cap : Nat) (q : Option Addr) (m capr : Nat) (w : World) : Calls Try.prog 55 #[.slice p n cap, .slice q m capr] w fun e w' => e = .returned (.func (.func 73) #[] #[.pointer (some ⟨w.heap.size, 0, none⟩), .pointer (some ⟨w.heap.size + 1, 0, none⟩)]) ∧ w' = (w.alloc (.cells #[.slice p n cap] 39)).alloc (.cells #[.slice q m capr] 22) := by
  go_enter Try.func55, Try.ntmps55
  go_wp2
  go_ret
  exact ⟨rfl, rfl⟩
theorem Has.chg {lo hi : Nat} {A B : World} {g : Nat} {t : TypeId} {cs : Array Value} (h : Has A g t cs) (hc : Chg lo hi A B) (hg : g < lo ∨ hi ≤ g) : Has B g t cs := by
  unfold Has; rw [hc.block g h.size_ hg]; exact h
theorem own_kept {B : Nat} {w w' : World} {e : TypeId} {s : Nat} {v : Value} {n : Nat} {xs : List Value} (h : w.ownsRow B e s v n xs) (hk : ∀ k, k < w.heap.size → B ≤ k → w'.heap[k]? = w.heap[k]?) : w'.ownsRow B e s v n xs := by
  have k := World.ownsRow.lt h
  obtain ⟨hl, h0 | ⟨g, cap, cur, rfl, hB, hg, r⟩⟩ := h
  · exact ⟨hl, .inl h0⟩
  · have := k g rfl
    exact ⟨hl, .inr ⟨g, cap, cur, rfl, hB, by rw [hk g this.2 hB]; exact hg, r⟩⟩
theorem below_obj {B : Nat} {a w : World} (h : Below B a w) {l : Nat} (o : Obj) (hl : B ≤ l) : Below B a (w.putObj l o) :=
  ⟨h.os, h.tape, h.output, by have := h.size; simp; omega, fun k hk => (World.putObj_heap_other (by omega)).trans (h.block k hk)⟩
/-- The laid bar with a number. -/
def layAt (l : List Bar) (rs : List Rn) (i : Int) : Option (ByteArray × List Pt) := if 0 ≤ i then (lay l rs)[i.toNat]? else none
/-- What lies between two laid bars. -/
structure Fgo (V : World) (i : Int) (pre : List (ByteArray × List Pt)) (W : World) : Prop where
  hb : Below V.heap.size V W
  ne : ∀ k : Nat, k < pre.length → (k : Int) ≠ i
/-- What lies where it was found. -/
structure Fex (w : World) (M N : Nat) (i : Int) (j : Code) (pre : List (ByteArray × List Pt)) (W : World) : Prop where
  jr : j = .ret
  ex : ∃ (p : List (ByteArray × List Pt)) (x : ByteArray × List Pt) (q : Option Addr) (c : Nat), pre = p ++ [x] ∧ (p.length : Int) = i ∧ Has W (N + 1) 83 #[.string x.1, .slice q x.2.length c] ∧ Has W (N + 1 + 1) 32 #[.int .i64 0] ∧ Own pc 24 3 (M + 2) W (.slice q x.2.length c) x.2
  hb : Below N w W
/-- What find answers. -/
def FP (w : World) (o : Option (ByteArray × List Pt)) (e : Ending) (w' : World) : Prop := (match o with
      | some x => ∃ q' c, e = .returned (.tuple #[.agg #[.string x.1, .slice q' x.2.length c], .int .i64 0]) ∧ Own pc 24 3 w.heap.size w' (.slice q' x.2.length c) x.2
      | none => e = .returned (.tuple #[.agg #[.string ⟨#[]⟩, .slice none 0 0], .int .i64 2])) ∧ Below w.heap.size w w'
theorem Fex.abd {w : World} {M N : Nat} {i : Int} (j : Code) (h1 : N + 2 < M) (h2 : w.heap.size = N) : Abd M (M + 2) (Fex w M N i j) := fun pre W W' C hc => by
  obtain ⟨p, x, q, c, e1, e2, a, b, o⟩ := C.ex
  exact ⟨C.jr, ⟨p, x, q, c, e1, e2, a.chg hc (.inl (by omega)), b.chg hc (.inl (by omega)), own_kept o fun k hk hB => hc.block k hk (.inr hB)⟩, C.hb.trans (hc.below (by omega) (by have := C.hb.size; omega))⟩
set_option maxHeartbeats 8000000 in
set_option maxRecDepth 100000 in
theorem find_no (p : Option Addr) (l : List Bar) (cap : Nat) (q : Option Addr) (rs : List Rn) (capr : Nat) (i : Int) (w : World) (hS : Slb w p l cap) (hR : Slr w q rs capr) (hv : validR l rs = false) :
    Calls Try.prog 40 #[.slice p l.length cap, .slice q rs.length capr, .int .i64 i] w fun e w' => e = .returned (.tuple #[.agg #[.string ⟨#[]⟩, .slice none 0 0], .int .i64 1]) ∧ Below w.heap.size w w' := by
  have h26 := fun W (h : Below w.heap.size w W) => Valid_26 p l cap q rs capr W (hS.on h) (hR.on h)
  rw [hv] at h26
  have E := (((Env.nil w).add w.heap.size 3 #[.int .i64 i] rfl).add (w.heap.size + 1) 83 #[.string ⟨#[]⟩, .slice none 0 0] (by simp)).add (w.heap.size + 1 + 1) 32 #[.int .i64 0] (by simp)
  have C := E.cells
  simp [BC, CF] at C
  go_enter Try.func40, Try.ntmps40
  go_wp2_with (go_at_call 26; (with_reducible refine (h26 _ (envb E)).mono ?_); rintro X wq ⟨rfl, hb⟩; replace E := E.on hb; replace C := E.cells; simp [BC, CF] at C; clear hb)
  refine bodyPost_ret (v := .tuple #[.agg #[.string ⟨#[]⟩, .slice none 0 0], .int .i64 1]) (by simp [results, Try.results40, go_sem, *]) rfl ⟨rfl, ?_⟩
  exact envb (Env.put (Env.put (Env.put E 1 0 (.string ⟨#[]⟩) rfl) 1 1 (.slice none 0 0) rfl) 0 0 (.int .i64 1) rfl)
set_option maxHeartbeats 8000000 in
set_option maxRecDepth 100000 in
theorem find_40 (p : Option Addr) (l : List Bar) (cap : Nat) (q : Option Addr) (rs : List Rn) (capr : Nat) (i : Int) (w : World) (hS : Slb w p l cap) (hR : Slr w q rs capr) (hv : validR l rs = true) :
    Calls Try.prog 40 #[.slice p l.length cap, .slice q rs.length capr, .int .i64 i] w (FP w (layAt l rs i)) := by
  have h26 := fun W (h : Below w.heap.size w W) => Valid_26 p l cap q rs capr W (hS.on h) (hR.on h)
  rw [hv] at h26
  have E := (((Env.nil w).add w.heap.size 3 #[.int .i64 i] rfl).add (w.heap.size + 1) 83 #[.string ⟨#[]⟩, .slice none 0 0] (by simp)).add (w.heap.size + 1 + 1) 32 #[.int .i64 0] (by simp)
  refine (callsIn_wide (n := 6)).1 ?_
  refine callsIn_of_wp_marks Try.func40 rfl trivial ?_ rfl
  simp only [Try.ntmps40, List.size_toArray, List.length_cons, List.length_nil, Nat.reduceAdd, Nat.reduceSub, Array.replicate_succ, Array.replicate_zero, List.push_toArray, List.append_toArray, List.nil_append, List.cons_append]
  have hf26 : Fence.wide.fn 26 := trivial
  have hf55 : Fence.wide.fn 55 := trivial
  gi_wp2_with (first
    | (gi_at_call 26; (with_reducible refine (callsIn_wide.2 (h26 _ (envb E))).mono ?_); rintro X w1 ⟨rfl, hb1⟩; replace E := E.on hb1)
    | (gi_at_call 55; (with_reducible refine (callsIn_wide.2 (paths_55 _ _ _ _ _ _ w1)).mono ?_); rintro X w2 ⟨rfl, rfl⟩))
  have hb2 := al (al1 w1 (.cells #[.slice p l.length cap] 39)) (.cells #[.slice q rs.length capr] 22)
  have Gb := (Has.new_ w1 39 #[.slice p l.length cap]).on (al1 _ (.cells #[.slice q rs.length capr] 22))
  have Gr := Has.new_ (w1.alloc (.cells #[.slice p l.length cap] 39)) 22 #[.slice q rs.length capr]
  have hz1 : (w1.alloc (.cells #[.slice p l.length cap] 39)).heap.size = w1.heap.size + 1 := World.size_alloc _ _
  have hz2 : ((w1.alloc (.cells #[.slice p l.length cap] 39)).alloc (.cells #[.slice q rs.length capr] 22)).heap.size = w1.heap.size + 2 := by rw [World.size_alloc, hz1]
  rw [hz1] at Gr
  replace E := E.on hb2
  have hw1 : w.heap.size + 1 + 1 < w1.heap.size := by
    have := hb1.size; simp at this; omega
  clear hb1 hb2 h26
  generalize (w1.alloc (.cells #[.slice p l.length cap] 39)).alloc (.cells #[.slice q rs.length capr] 22) = V at *
  generalize w1.heap.size = g1 at *
  have A0 := E.2.2.2.2.2.2.2.2.1
  have A1 := E.2.2.2.2.2.1
  have A2 := E.2.2.1
  have hSV := hS.on (envb E)
  have hRV := hR.on (envb E)
  have hBV := envb E
  have hlen : ((lay l rs).length : Int) ≤ 2000 := by
    obtain ⟨-, -, h3, h4⟩ := validR_and hv
    rw [lay_len h3]; exact h4
  dsimp only at A0 A1 A2
  clear E
  have HA := Lib.hid (And.intro A1 A2)
  refine wpIn_range_far (by omega) (gf := 73) (ba := #[]) (lb := #[.pointer (some ⟨g1, 0, none⟩), .pointer (some ⟨g1 + 1, 0, none⟩)]) rfl (enters_of Try.func73 (by kernel_rfl) rfl) (R := Ry (V.heap.size + 2))
    (fun k => k < V.heap.size) (lay l rs) (by rintro k x W vs ⟨q, c, rfl, -⟩; rfl)
    (fun W hW hbW => paths_yields _ g1 (g1 + 1) p l cap q rs capr V W hSV hRV hv (Gb.read 0) (Gr.read 0) hbW hW)
    (Fgo V i) (Fex w V.heap.size w.heap.size i) (fun s A B hs hz hc => ⟨hs.hb.trans hc, hs.ne⟩) (fun j => Fex.abd j (by omega) rfl) ⟨Below.refl _ _, fun k hk => by simp at hk⟩ ?round (fun k hk => hk) ?done ?stop
  case round =>
    rintro L pre ⟨m, pts⟩ rest W vs hxs ⟨hIb, hIn⟩ hsz ⟨q', c, rfl, hO⟩
    have hpl : pre.length < 2000 := by
      have := congrArg List.length hxs
      simp at this; omega
    dsimp only at hO ⊢
    have A0w := A0.on hIb
    clear hxs
    gi_wp2
    refine ⟨Kpo.of (al1 _ _), fun w3 hc3 hz3 => ?_⟩
    have hF := (Has.new_ W 83 #[.string m, .slice q' pts.length c]).chg hc3 (.inr (by omega))
    have I3 : Below V.heap.size V w3 := (hIb.trans (Below.less (al1 W (.cells #[.string m, .slice q' pts.length c] 83)) (by omega))).trans (Below.less (Chg.below' hc3 (by simp; omega)) (by omega))
    have hO3 := own_kept (own_on hO (al1 W (.cells #[.string m, .slice q' pts.length c] 83))) fun k hk hB => hc3.block k hk (.inr (by omega))
    have R0 := (A0.on I3).read 0
    have R1 := (HA.out.1.on I3).read 0
    have R2 := (HA.out.1.on I3).read 1
    have R3 := (HA.out.2.on I3).read 0
    have f1 := (HA.out.1.on I3).open_ 0
    have f2 := (HA.out.1.on I3).open_ 1
    have f3 := (HA.out.2.on I3).open_ 0
    have F0 := hF.read 0
    have F1 := hF.read 1
    simp only [List.getElem?_toArray, List.getElem?_cons_succ, List.getElem?_cons_zero] at R0 R1 R2 R3 F0 F1
    have HI := Lib.hid (And.intro I3 (And.intro hO3 (And.intro hIn hz3)))
    clear A0w hF hc3 hIb hO hIn I3 hO3
    by_cases e : (pre.length : Int) = i
    · have g1 : ((pre.length : Int) == i) = true := by simp [e]
      have He := Lib.hid e
      clear e
      gi_wp2
      obtain ⟨I3, hO3, hIn, hz3⟩ := HI.out
      have P1 := ((HA.out.1.on I3).put_ 0 (.string m)).put_ 1 (.slice q' pts.length c)
      have P2 := ((HA.out.2.on I3).apart_ (p := ⟨w.heap.size + 1, 0, none⟩) (by simp) (.string m)).apart_ (p := ⟨w.heap.size + 1, 1, none⟩) (by simp) (.slice q' pts.length c)
      have P3 := (P1.apart_ (p := ⟨w.heap.size + 1 + 1, 0, none⟩) (by simp) (.int .i64 0))
      have P4 := P2.put_ 0 (.int .i64 0)
      have hVs := I3.size
      refine ⟨⟨⟨by simp [World.setCell], fun k hk hs => ?_⟩, rfl, rfl, rfl⟩, rfl, ⟨pre, (m, pts), q', c, rfl, He.out, P3, P4, ?_⟩, ?_⟩
      · rw [Below.heap_setCell _ _ _ _ (show k ≠ w.heap.size + 1 + 1 by omega), Below.heap_setCell _ _ _ _ (show k ≠ w.heap.size + 1 by omega), Below.heap_setCell _ _ _ _ (show k ≠ w.heap.size + 1 by omega)]
      · refine own_kept hO3 fun k hk hB => ?_
        rw [Below.heap_setCell _ _ _ _ (show k ≠ w.heap.size + 1 + 1 by omega), Below.heap_setCell _ _ _ _ (show k ≠ w.heap.size + 1 by omega), Below.heap_setCell _ _ _ _ (show k ≠ w.heap.size + 1 by omega)]
      · exact (((hBV.trans (Below.less I3 (by omega))).setCell (p := ⟨w.heap.size + 1, 0, none⟩) (by simp) _).setCell (p := ⟨w.heap.size + 1, 1, none⟩) (by simp) _).setCell (p := ⟨w.heap.size + 1 + 1, 0, none⟩) (by simp; omega) _
    · have g1 : ((pre.length : Int) == i) = false := by simpa using e
      have HN : Hid (∀ k : Nat, k < (pre ++ [(m, pts)]).length → (k : Int) ≠ i) := Lib.hid fun k hk => by
        rw [List.length_append, List.length_singleton] at hk
        rcases (by omega : k < pre.length ∨ k = pre.length) with h | h
        · exact HI.out.2.2.1 k h
        · rw [h]; exact e
      clear e
      gi_wp2
      exact ⟨Kpo.refl _ _, HI.out.1, HN.out⟩
  case done =>
    rintro W ⟨hIb, hIn⟩ hK
    have hno : layAt l rs i = none := by
      unfold layAt
      split
      · rename_i h0
        refine List.getElem?_eq_none (Nat.le_of_not_lt fun h => hIn i.toNat h (by omega))
      · rfl
    have B1 := HA.out.1.on hIb
    have B2 := HA.out.2.on hIb
    have R1 := B1.read 0
    have R2 := B1.read 1
    have R3 := B2.read 0
    have f1 := B1.open_ 0
    have f2 := B1.open_ 1
    have f3 := B2.open_ 0
    simp only [List.getElem?_toArray, List.getElem?_cons_succ, List.getElem?_cons_zero] at R1 R2 R3
    have HB := Lib.hid (And.intro B1 (And.intro B2 hIb))
    have HNo := Lib.hid hno
    clear B1 B2 hIb hno hIn A0 hSV hRV
    gi_wp2
    obtain ⟨B1, B2, hIb⟩ := HB.out
    have hVs := hIb.size
    have P1 := (((B1.put_ 0 (.string ⟨#[]⟩)).put_ 1 (.slice none 0 0)).apart_ (p := ⟨w.heap.size + 1 + 1, 0, none⟩) (by simp) (.int .i64 2))
    have P2 := ((B2.apart_ (p := ⟨w.heap.size + 1, 0, none⟩) (by simp) (.string ⟨#[]⟩)).apart_ (p := ⟨w.heap.size + 1, 1, none⟩) (by simp) (.slice none 0 0)).put_ 0 (.int .i64 2)
    have PB := (((hBV.trans (Below.less hIb (by omega))).setCell (p := ⟨w.heap.size + 1, 0, none⟩) (by simp) (.string ⟨#[]⟩)).setCell (p := ⟨w.heap.size + 1, 1, none⟩) (by simp) (.slice none 0 0)).setCell (p := ⟨w.heap.size + 1 + 1, 0, none⟩) (by simp; omega) (.int .i64 2)
    have hWz : V.heap.size < W.heap.size := (Array.getElem?_eq_some_iff.1 hK).1
    have hK4 : (((W.setCell ⟨w.heap.size + 1, 0, none⟩ (.string ⟨#[]⟩)).setCell ⟨w.heap.size + 1, 1, none⟩ (.slice none 0 0)).setCell ⟨w.heap.size + 1 + 1, 0, none⟩ (.int .i64 2)).heap[V.heap.size]? = some (.deferred (some [])) := by
      rw [Below.heap_setCell _ _ _ _ (show V.heap.size ≠ w.heap.size + 1 + 1 by omega), Below.heap_setCell _ _ _ _ (show V.heap.size ≠ w.heap.size + 1 by omega), Below.heap_setCell _ _ _ _ (show V.heap.size ≠ w.heap.size + 1 by omega)]; exact hK
    generalize ((W.setCell ⟨w.heap.size + 1, 0, none⟩ (.string ⟨#[]⟩)).setCell ⟨w.heap.size + 1, 1, none⟩ (.slice none 0 0)).setCell ⟨w.heap.size + 1 + 1, 0, none⟩ (.int .i64 2) = W4 at *
    refine ⟨by simp, .inl ⟨_, _, rfl, run_takeDeferred hK4, ?_⟩⟩
    have hc := fun ob => Chg.obj (lo := V.heap.size) (hi := V.heap.size + 1) (l := V.heap.size) W4 ob (Nat.le_refl _) (Nat.lt_succ_self _)
    have hob := fun ob => below_obj PB (l := V.heap.size) ob (by omega)
    generalize hW5 : W4.putObj V.heap.size _ = W5
    have hc5 : Chg V.heap.size (V.heap.size + 1) W4 W5 := by rw [← hW5]; exact hc _
    have hB5 : Below w.heap.size w W5 := by rw [← hW5]; exact hob _
    clear hc hob R1 R2 R3
    have R1 := (P1.chg hc5 (.inl (by omega))).read 0
    have R2 := (P1.chg hc5 (.inl (by omega))).read 1
    have R3 := (P2.chg hc5 (.inl (by omega))).read 0
    simp only [List.set_cons_zero, List.set_cons_succ, List.setIfInBounds_toArray, List.getElem?_toArray, List.getElem?_cons_succ, List.getElem?_cons_zero] at R1 R2 R3
    refine ⟨.tuple #[.agg #[.string ⟨#[]⟩, .slice none 0 0], .int .i64 2], by simp [results, Try.results40, go_sem, R1, R2, R3], ?_⟩
    unfold FP
    rw [HNo.out]
    exact ⟨rfl, hB5⟩
  case stop =>
    rintro j pre rest W hxs C hK
    obtain rfl := C.jr
    obtain ⟨p', x, q', c, e1, e2, a, b, o⟩ := C.ex
    have hlo : layAt l rs i = some x := by
      unfold layAt
      rw [if_pos (by omega), hxs, e1, show i.toNat = p'.length by omega, List.append_assoc, List.getElem?_append_right (Nat.le_refl _)]
      simp
    have HLo := Lib.hid hlo
    clear hlo hxs
    have hVs : w.heap.size + 1 + 1 < V.heap.size := by omega
    gi_wp2
    refine ⟨by simp, .inl ⟨_, _, rfl, run_takeDeferred hK, ?_⟩⟩
    have C5 := fun o => Fex.abd (w := w) (M := V.heap.size) (N := w.heap.size) (i := i) .ret (by omega) rfl pre _ _ C (Chg.obj (lo := V.heap.size) (hi := V.heap.size + 2) (l := V.heap.size) W o (Nat.le_refl _) (by omega))
    clear a b o C
    generalize hW5 : W.putObj V.heap.size _ = W5
    have C6 : Fex w V.heap.size w.heap.size i .ret pre W5 := by rw [← hW5]; exact C5 _
    obtain ⟨p'', x', q', c, e1', e2', a, b, o⟩ := C6.ex
    have hx : x = x' := by
      rw [e1] at e1'
      exact (List.singleton_inj.1 (List.append_inj' e1' rfl).2)
    subst hx
    have R1 := a.read 0
    have R2 := a.read 1
    have R3 := b.read 0
    simp only [List.getElem?_toArray, List.getElem?_cons_succ, List.getElem?_cons_zero] at R1 R2 R3
    refine ⟨.tuple #[.agg #[.string x.1, .slice q' x.2.length c], .int .i64 0], by simp [results, Try.results40, go_sem, R1, R2, R3], ?_⟩
    unfold FP
    rw [HLo.out]
    exact ⟨⟨q', c, rfl, Own.mono o (by omega)⟩, C6.hb⟩
end Go.Proofs.Ytfkcogocaecodaa
