/- Path of the program. -/
import Derived.Test.YtcadghenjcaaiaaMv
import Derived.Test.YtcadghenjcaaiaaPl
import Derived.Deep.CutBlock
namespace Go.Proofs.Ytcadghenjcaaiaa
open Go.ChangeShapes Go.WideShapes Go.ChangeAt Go.RowKit
set_option linter.unusedVariables false
set_option linter.unusedSimpArgs false

def way (c : Int) (j : Nat) : Int := (((dirS c).getD j 0).toNat : Int)
def pt (b : Bar) : Nat → Pt
  | 0 => ⟨0, 0, 0⟩
  | k + 1 => mv (pt b k) (way b.code k) (legF b k)
def pts (b : Bar) : List Pt := (List.range (nl b.code + 1)).map (pt b)
theorem pts_len (b : Bar) : (pts b).length = nl b.code + 1 := by simp [pts]
theorem pt_bd {b : Bar} (h : barB b = true) : ∀ k, k ≤ nl b.code → (pt b k).bd (k * 262144)
  | 0, _ => by unfold pt Pt.bd; dsimp only; omega
  | k + 1, hk => by
    have h1 := pt_bd h k (by omega)
    have h2 := leg_bd h (j := k) (by omega)
    have h3 := mv_bd (c := way b.code k) h1 (n := legF b k) (by omega)
    unfold pt
    unfold Pt.bd at h3 ⊢
    omega
theorem pt_big {b : Bar} (h : barB b = true) {k : Nat} (hk : k ≤ nl b.code) : (pt b k).bd 1572864 := by
  have h1 := pt_bd h k hk
  have h2 := nl_le (barB_and h).1
  unfold Pt.bd at h1 ⊢
  omega
theorem str_at (l : List UInt8) (k : Nat) (h : k < l.length) (w : World) : Sem.run Try.prog (Instr.index 9 (.string ⟨l.toArray⟩) (.int .i64 k)) w = .ok (.int .u8 (l.getD k 0).toNat) w := by
  have e : ((⟨l.toArray⟩ : ByteArray).size : Nat) = l.length := by simp [ByteArray.size]
  have e2 : l.getD k 0 = l[k] := by rw [List.getD_eq_getElem?_getD, List.getElem?_eq_getElem h]; rfl
  simp [Instr.index, go_sem, Try.underlying9, h, e, e2]
  rfl
theorem info40 : (Try.prog.info? 40).map (fun i => (i.zero, i.size, i.bytes)) = some (some (.agg #[.int .i64 0, .int .i64 0, .int .i64 0]), 3, 24) := by kernel_rfl
theorem own_snoc {α : Type} {f : α → List Value} {t : TypeId} {s B : Nat} {w : World} {v : Value} {O : List α} {y : α} (h : w.ownsRow B t s v (O.length + 1) (O.flatMap f ++ f y)) : Own f t s B w v (O ++ [y]) := by
  unfold Own
  rw [List.length_append, List.flatMap_append]
  simpa using h
theorem own_lit {w : World} {B g n s : Nat} {t : TypeId} {cs : Array Value} (h : Has w g t cs) (hs : cs.size = n * s) (hB : B ≤ g) (hn : n ≤ maxLen) : w.ownsRow B t s (.slice (some ⟨g, 0, none⟩) n n) n cs.toList := by
  refine ⟨by simpa using hs, .inr ⟨g, n, cs, rfl, hB, h, Nat.le_refl _, hn, hs, ?_⟩⟩
  rw [List.take_of_length_le (by simp [hs])]
theorem env_row {w w1 w2 : World} {g : Nat} {t : TypeId} {cs : Array Value} {row : Option Nat} (E : Env w w1 [⟨g, t, cs⟩]) (hg : w1.grownBy w2 row) (hr : ∀ k, row = some k → w.heap.size + 1 ≤ k) (hgw : g = w.heap.size := by rfl) : Env w w2 [⟨g, t, cs⟩] := by
  obtain ⟨h1, h2, h3, h4, h5⟩ := E
  refine ⟨h1.grown hg h1.size (fun k hk => by have := hr k hk; omega), h2, Has.grown_ h3 hg (fun e => by have := hr g e.symm; dsimp only at *; omega), h4, h5⟩
theorem Env.three {w0 w : World} {l : List Fb} {u0 u1 u2 : Value} (h : Env w0 w l) (k : Nat) (hb : Nat.blt k l.length = true) :
    Env w0 (((w.setCell ⟨numB k l, 0, none⟩ u0).setCell ⟨numB k l, 1, none⟩ u1).setCell ⟨numB k l, 2, none⟩ u2) (setB 2 u2 k (setB 1 u1 k (setB 0 u0 k l))) := by
  have e : ∀ (k : Nat) (l : List Fb) (i : Nat) (u : Value), numB k (setB i u k l) = numB k l := by
    intro k l i u
    induction l generalizing k with
    | nil => cases k <;> rfl
    | cons x l ih => cases k with
      | zero => rfl
      | succ k => exact ih k
  have e2 : ∀ (k : Nat) (l : List Fb) (i : Nat) (u : Value), (setB i u k l).length = l.length := by
    intro k l i u
    have := congrArg List.length (setB_g i u k l); simpa using this
  have h0 := h.put k 0 u0 hb
  have h1 := h0.put k 1 u1 (by rw [e2]; exact hb)
  have h2 := h1.put k 2 u2 (by rw [e2, e2]; exact hb)
  simp only [e] at h2
  exact h2
theorem at_put (w : World) (g i : Nat) (u : Value) : At g w (w.setCell ⟨g, i, none⟩ u) := (At.refl g w).put i u
theorem own_three {B g : Nat} {w : World} {v : Value} {n : Nat} {e : TypeId} {s : Nat} {xs : List Value} {u0 u1 u2 : Value} (h : w.ownsRow B e s v n xs) (hg : g < B) :
    (((w.setCell ⟨g, 0, none⟩ u0).setCell ⟨g, 1, none⟩ u1).setCell ⟨g, 2, none⟩ u2).ownsRow B e s v n xs :=
  own_at h ((at_put _ _ _ _).trans ((at_put _ _ _ _).trans (at_put _ _ _ _))) (fun k => by have := (h.lt g k).1; omega)
set_option maxHeartbeats 4000000 in
set_option maxRecDepth 100000 in
theorem Path_no (b : Bar) (w : World) (hk : b.Ok w) (hv : barB b = false) : Calls Try.prog 18 #[b.val] w fun e w' => e = .returned (.tuple #[.slice none 0 0, .int .i64 1]) ∧ Below w.heap.size w w' := by
  have hV := fun W (h : Below w.heap.size w W) => Legs_no b W (hk.on h) hv
  have E := (Env.nil w).add w.heap.size 32 b.cs rfl
  obtain ⟨mk, sz, ct, cd, p, ds, cap⟩ := b
  simp only [Bar.cs, Bar.val] at *
  have C := E.cells
  simp [BC, CF] at C
  clear hk hv
  go_enter Try.func18, Try.ntmps18
  go_wp2_with (go_at_call 17; (with_reducible refine (hV _ (envb E)).mono ?_); rintro X w1 ⟨rfl, hb⟩; replace E := E.on hb; clear hb)
  exact bodyPost_ret (v := .tuple #[.slice none 0 0, .int .i64 1]) (by simp [results, Try.results18, go_sem]) rfl ⟨rfl, E.1⟩
set_option maxHeartbeats 8000000 in
set_option maxRecDepth 100000 in
theorem Path_ok (b : Bar) (w : World) (hk : b.Ok w) (hv : barB b = true) : Calls Try.prog 18 #[b.val] w fun e w' =>
    ∃ v, e = .returned (.tuple #[v, .int .i64 0]) ∧ Own pc 40 3 w.heap.size w' v (pts b) ∧ Below w.heap.size w w' := by
  have hV := fun W (h : Below w.heap.size w W) => Legs_ok b W (hk.on h) hv
  have E := (Env.nil w).add w.heap.size 32 b.cs rfl
  obtain ⟨h1, h2, -⟩ := barB_and hv
  have hD := fun W => dir_any b.code W
  have n2 := nl_le h1
  have hs : ((⟨(dirS b.code).toArray⟩ : ByteArray).size : Nat) = nl b.code := by simp [ByteArray.size, nl]
  have hI : ∀ k, k < nl b.code → ∀ W, Sem.run Try.prog (Instr.index 9 (.string ⟨(dirS b.code).toArray⟩) (.int .i64 k)) W = .ok (.int .u8 (way b.code k)) W := fun k h W => str_at _ k h W
  have hM : ∀ k, k < nl b.code → ∀ W, Calls Try.prog 34 #[(pt b k).val, .int .u8 (way b.code k), .int .i64 (legF b k)] W fun e w' => e = .returned (pt b (k + 1)).val ∧ Below W.heap.size W w' := fun k h W =>
    moved_any (pt b k) (way b.code k) (legF b k) W (by have := pt_big hv (k := k) (by omega); unfold Pt.bd at this ⊢; omega) (by have := leg_bd hv h; omega)
  have hP : pts b = (List.range (nl b.code + 1)).map (pt b) := rfl
  have hL : legs b = (List.range (nl b.code)).map (legF b) := rfl
  have hp0 : pt b 0 = ⟨0, 0, 0⟩ := rfl
  have HP := Lib.hid hP
  have HL := Lib.hid hL
  have HI := Lib.hid hI
  have HM := Lib.hid hM
  have HP0 := Lib.hid hp0
  clear hI hM hP hL h2 hv hp0
  generalize legs b = LS at *
  generalize legF b = lf at *
  generalize pts b = PS at *
  generalize pt b = pf at *
  have hcs : b.cs = #[.string b.mark, .int .i64 b.size, .int .i64 b.count, .int .i64 b.code, .slice b.p b.ds.length b.cap] := rfl
  have hvv : b.val = .agg b.cs := rfl
  rw [hcs] at E hvv
  rw [hvv] at hV ⊢
  clear hk h1 hcs hvv
  generalize way b.code = wy at *
  generalize (⟨(dirS b.code).toArray⟩ : ByteArray) = D at *
  generalize nl b.code = n at *
  generalize mc b.code = m at *
  have C := E.cells
  simp [BC, CF] at C
  go_enter Try.func18, Try.ntmps18
  go_upto_region 4 with (go_at_call 17; (with_reducible refine (hV _ (envb E)).mono ?_); rintro X w1 ⟨gL, rfl, hR, hb⟩; replace E := E.on hb; clear hb; replace C := E.cells; simp [BC, CF] at C)
  have E3 := (Env.nil w1).add w1.heap.size 40 #[.int .i64 0, .int .i64 0, .int .i64 0] rfl
  have HR := Lib.hid hR
  have EW := E
  have hO0 : Own pc 40 3 (w1.heap.size + 1) ((w1.alloc (.cells #[.int .i64 0, .int .i64 0, .int .i64 0] 40)).alloc (.cells #[.int .i64 0, .int .i64 0, .int .i64 0] 40)) (.slice (some ⟨w1.heap.size + 1, 0, none⟩) 1 1) ((List.range (0 + 1)).map pf) := by
    unfold Own
    have e : ((List.range (0 + 1)).map pf).flatMap pc = (#[.int .i64 0, .int .i64 0, .int .i64 0] : Array Value).toList := by simp [pc, HP0.out]
    rw [e]
    refine own_lit (n := 1) ?_ rfl (Nat.le_refl _) (by decide)
    have h := Has.new_ (w1.alloc (.cells #[.int .i64 0, .int .i64 0, .int .i64 0] 40)) 40 #[.int .i64 0, .int .i64 0, .int .i64 0]
    rwa [show (w1.alloc (.cells #[.int .i64 0, .int .i64 0, .int .i64 0] 40)).heap.size = w1.heap.size + 1 by simp] at h
  have E4 := E3.more (.cells #[.int .i64 0, .int .i64 0, .int .i64 0] 40)
  obtain ⟨i0, hinf, hz0, hz1, hz2⟩ := info_parts info40
  go_wp2_with (go_at_call 31; (with_reducible refine (hD _).mono ?_); rintro X w2 ⟨rfl, rfl⟩)
  go_loopw [7, 26] (fun v7 v26 wr => ∃ (k : Nat) (F : Value), v26 = .int .i64 k ∧ F = v7 ∧ k ≤ n ∧ Env w1 wr [⟨w1.heap.size, 40, #[.int .i64 (pf k).x, .int .i64 (pf k).y, .int .i64 (pf k).z]⟩] ∧ Own pc 40 3 (w1.heap.size + 1) wr F ((List.range (k + 1)).map pf)) (fun _ v _ => n - (intOf v).toNat)
  case atStart => exact ⟨0, _, rfl, rfl, Nat.zero_le _, (by rw [HP0.out]; exact E4), hO0⟩
  case round =>
    clear E E3 E4 hO0 C
    obtain ⟨k, F, rfl, rfl, hk, E, hO⟩ := hrel
    have C := E.cells
    simp [BC, CF] at C
    have hsz := E.1.size
    have hsz2 := E.lt 0 (by simp)
    simp only [numB] at hsz2
    by_cases hlt : k < n
    · have g1 : decide ((k : Int) < (n : Int)) = true := by simp [hlt]
      have W1 : IntKind.i64.wrap ((k : Int) + 1) = ((k + 1 : Nat) : Int) := by rw [IntWalk.i64_in _ (by omega)]; omega
      have q1 : (0 : Int) ≤ (k : Int) := by omega
      have q2 : (k : Int) < (n : Int) := by omega
      obtain ⟨q, c, e0, hr⟩ := HR.out
      simp only [Value.slice.injEq] at e0
      obtain ⟨rfl, e1, -⟩ := e0
      obtain ⟨a, ea, d0⟩ := hr k (by omega)
      cases ea
      have d1 : w1.cell? ⟨gL, k, none⟩ = some (.int .i64 (lf k)) := by
        rw [Addr.add_lit, Nat.zero_add] at d0
        rw [d0]; simp [HL.out]
      have d2 := cell_later E.1 d1
      clear d0 d1 hr e1
      have hi := HI.out k hlt
      have hm := HM.out k hlt
      obtain ⟨⟨x1, y1, z1⟩, hP1⟩ : ∃ p : Pt, Hid (pf (k + 1) = p) := ⟨_, Lib.hid rfl⟩
      rw [hP1.out] at hm
      obtain ⟨⟨x0, y0, z0⟩, hP2⟩ : ∃ p : Pt, Hid (pf k = p) := ⟨_, Lib.hid rfl⟩
      rw [hP2.out] at hm E C
      have hl : Hid ((List.range (k + 1 + 1)).map pf = (List.range (k + 1)).map pf ++ [⟨x1, y1, z1⟩]) := Lib.hid (by rw [List.range_succ, List.map_append]; simp [hP1.out])
      have hlen : ((List.range (k + 1)).map pf).length = k + 1 := by simp
      generalize (List.range (k + 1)).map pf = O at *
      unfold Pt.val at hm
      dsimp only at hm C E
      go_upto_region 10 with fail
      refine wp_region_plan 9 [(0, true), (1, true), (2, true), (3, true), (4, true), (5, true), (6, true), (7, true), (8, false)] (fun W' => Env w1 W' [⟨w1.heap.size, 40, #[.int .i64 x0, .int .i64 y0, .int .i64 z0]⟩] ∧ W'.cell? ⟨w1.heap.size, 0, none⟩ = some (.int .i64 x0) ∧ W'.cell? ⟨w1.heap.size, 1, none⟩ = some (.int .i64 y0) ∧ W'.cell? ⟨w1.heap.size, 2, none⟩ = some (.int .i64 z0) ∧ W'.cell? ⟨gL, k, none⟩ = some (.int .i64 (lf k)) ∧ Own pc 40 3 (w1.heap.size + 1) W' F O) (by kernel_rfl) (by kernel_rfl) (fun _ _ d _ _ h => by cases d <;> exact h) ⟨E.drw, C.2.1.1, C.2.2.1.1, C.2.2.2.1, d2, hO⟩ ?_
      simp only [List.filterMap_cons, List.filterMap_nil, List.getElem?_cons_zero, List.getElem?_cons_succ, Option.map_some, List.drop_succ_cons, List.drop_zero]
      iterate 8 (first | (refine wpPlan_still (v := ?_) (Or.inl ⟨by rfl, ?_⟩) ?_; rotate_left; (focus (intro W hW; (try dsimp only at hW); go_split_ands; go_simp; try with_reducible rfl)); try simp only [Act.put, List.setIfInBounds_toArray, List.set_cons_zero, List.set_cons_succ]) | (refine wpPlan_still (Or.inr ⟨by rfl, rfl⟩) ?_; try simp only [Act.put, List.setIfInBounds_toArray, List.set_cons_zero, List.set_cons_succ]))
      refine wpPlan_only (fun K hK => ?_)
      try go_simp
      (go_at_call 34; (with_reducible refine (hm _).mono ?_); rintro X w4 ⟨rfl, hb⟩)
      replace E := E.drw.on hb
      replace C := E.cells
      simp [BC, CF] at C
      replace hO := own_on hO (show Below wr.heap.size wr w4 from belows (below_dr (Below.refl _ _)) hb)
      replace d2 := cell_later (belows (below_dr (Below.refl wr.heap.size wr)) hb) d2
      clear hb
      refine hK.out _ _ ⟨E, C.2.1.1, C.2.2.1.1, C.2.2.2.1, d2, hO⟩ ?_
      clear hK K
      try simp only [Act.put, List.setIfInBounds_toArray, List.set_cons_zero, List.set_cons_succ]
      refine wpPlan_end ?_
      go_upto_region 11 with fail
      replace E := E.three (u0 := .int .i64 x1) (u1 := .int .i64 y1) (u2 := .int .i64 z1) 0 rfl
      replace hO := own_three (g := w1.heap.size) (u0 := .int .i64 x1) (u1 := .int .i64 y1) (u2 := .int .i64 z1) hO (by omega)
      simp only [numB] at E
      generalize (((w4.setCell ⟨w1.heap.size, 0, none⟩ (.int .i64 x1)).setCell ⟨w1.heap.size, 1, none⟩ (.int .i64 y1)).setCell ⟨w1.heap.size, 2, none⟩ (.int .i64 z1)) = w5 at *
      replace E : Env w1 w5 [⟨w1.heap.size, 40, #[.int .i64 x1, .int .i64 y1, .int .i64 z1]⟩] := E
      replace C := E.cells
      simp [BC, CF] at C
      clear d2 hi hm
      have hs5 := E.lt 0 (by simp)
      simp only [numB] at hs5
      go_wp2_with (at_builtin; refine wpList_append_own_at _ rfl _ _ 36 rfl (w1.heap.size + 1) 40 i0 _ 3 24 Try.underlying36 hinf hz0 hz1 hz2 rfl (by decide) _ O.length (O.flatMap pc) rfl (own_on hO (al1 _ _)) ⟨_, 0, none⟩ 1 1 [.int .i64 x1, .int .i64 y1, .int .i64 z1] rfl rfl (World.news_of_block (cs := #[.int .i64 x1, .int .i64 y1, .int .i64 z1]) (t := 40) (fr := (0, 0)) (heap_alloc_new w5 _)) (by simp [Value.oneCell']) (by unfold maxLen; omega) (by omega) (by simp; omega) ?_)
      intro v' w6 p1 p2 p3 p4
      have O5 : Own pc 40 3 (w1.heap.size + 1) w6 v' (O ++ [⟨x1, y1, z1⟩]) := own_snoc (by rw [hlen]; exact p1)
      have E5 := env_row (E.more _) p2 (fun k hk => (World.ownsRow.lt hO k hk).1)
      clear p1 p2 p3 p4 hO E
      go_wp2
      go_roundw
      · exact ⟨k + 1, _, rfl, rfl, hlt, (by rw [hP1.out]; exact E5), (by rw [hl.out]; exact O5)⟩
      · simp [intOf]; omega
    · have g1 : decide ((k : Int) < (n : Int)) = false := by simp; omega
      obtain rfl : k = n := by omega
      have HO := hO.mono (B' := w.heap.size) (by have := EW.1.size; omega)
      rw [← HP.out] at HO
      have HB : Below w.heap.size w wr := belows EW.1 E.1
      clear hO E EW
      go_wp2
      exact bodyPost_ret (v := .tuple #[_, .int .i64 0]) (by simp [results, Try.results18, go_sem]) rfl ⟨_, rfl, HO, HB⟩
end Go.Proofs.Ytcadghenjcaaiaa
