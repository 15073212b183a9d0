/- Runs that are moved. -/
import Derived.Test.YtfkcogocaecodaaRl
import Derived.Deep.CutBlock
namespace Go.Proofs.Ytfkcogocaecodaa
open Go.ChangeShapes Go.WideShapes Go.ChangeAt Go.RowKit
set_option linter.unusedVariables false
set_option linter.unusedSimpArgs false

def atR (r : Rn) (p : Pt) : Rn := ⟨r.mark, r.tn, p, r.st, r.ct⟩
def movR (d : Pt) (r : Rn) : Rn := atR r (adp r.at_ d)
def okM (d : Pt) (r : Rn) : Bool := inB 1048576 r.at_ && inB 1048576 (adp r.at_ d)
/-- What Moved answers. -/
def movC (rs : List Rn) (d : Pt) : List Rn × Int := if 60 < rs.length then ([], 4) else if inB 2097152 d = false then ([], 2) else if rs.all (okM d) then (rs.map (movR d), 0) else ([], 2)
theorem set10 : ∀ (l : List Rn) (k : Nat) (hk : k < l.length) (q : Pt), ((((l.flatMap rc).set (k * 10 + 3) (.int .i64 q.x)).set (k * 10 + 4) (.int .i64 q.y)).set (k * 10 + 5) (.int .i64 q.z)) = (l.set k (atR l[k] q)).flatMap rc
  | [], k, hk, q => by simp at hk
  | x :: r, 0, hk, q => by simp [rc, atR]
  | x :: r, k + 1, hk, q => by
    have ih := set10 r k (by simpa using hk) q
    have e : (k + 1) * 10 = k * 10 + 10 := by omega
    rw [e, List.set_cons_succ, List.flatMap_cons, List.flatMap_cons]
    simp only [List.getElem_cons_succ]
    rw [← ih]
    simp [rc]
theorem own_put10 {B g cap n : Nat} {w : World} {l : List Rn} (h : Own rc 30 10 B w (.slice (some ⟨g, 0, none⟩) n cap) l) (hn : l.length = n) (k : Nat) (hk : k < l.length) (q : Pt) :
    Own rc 30 10 B (((w.setCell ⟨g, k * 10 + 3, none⟩ (.int .i64 q.x)).setCell ⟨g, k * 10 + 4, none⟩ (.int .i64 q.y)).setCell ⟨g, k * 10 + 5, none⟩ (.int .i64 q.z)) (.slice (some ⟨g, 0, none⟩) n cap) (l.set k (atR l[k] q)) := by
  subst hn
  unfold Own at *
  rw [List.length_set, ← set10 l k hk]
  exact own_put (own_put (own_put h _ _) _ _) _ _
theorem own_cells10 {B g cap n : Nat} {w : World} {l : List Rn} (h : Own rc 30 10 B w (.slice (some ⟨g, 0, none⟩) n cap) l) (hn : l.length = n) {k : Nat} (hk : k < l.length) :
    (∀ j, j < 10 → w.cell? ⟨g, k * 10 + j, none⟩ = (rc l[k])[j]?) ∧ (∀ j, w.frozen? ⟨g, j, none⟩ = false) ∧ B ≤ g ∧ g < w.heap.size := by
  subst hn
  obtain ⟨q, c, e, r⟩ := Own.rd rcl h
  obtain ⟨g', e', r⟩ := r k hk
  simp only [Value.slice.injEq] at e
  obtain ⟨rfl, -, -⟩ := e
  simp only [Option.some.injEq, Addr.mk.injEq] at e'
  obtain ⟨rfl, -⟩ := e'
  refine ⟨fun j hj => r j hj, ?_⟩
  obtain ⟨hl, ⟨h0, -⟩ | ⟨g', cap', cur, e', hB, hg, hn, hm, hs, ht⟩⟩ := h
  · cases h0
  · simp only [Value.slice.injEq, Option.some.injEq, Addr.mk.injEq] at e'
    obtain ⟨⟨rfl, -⟩, -, rfl⟩ := e'
    have F : Has w g 30 cur := hg
    exact ⟨fun j => F.open_ _, hB, F.size_⟩
/-- The first k runs are moved. -/
def mvr (d : Pt) (l : List Rn) (k : Nat) : List Rn := (l.take k).map (movR d) ++ l.drop k
theorem mvr_len (d : Pt) (l : List Rn) (k : Nat) : (mvr d l k).length = l.length := by simp [mvr]; omega
theorem mvr_at (d : Pt) (l : List Rn) (k : Nat) (h : k < l.length) : (mvr d l k)[k]'(by rw [mvr_len]; exact h) = l[k] := by
  unfold mvr
  have e : ((l.take k).map (movR d)).length = k := by simp; omega
  rw [List.getElem_append_right (by omega)]
  simp only [e, Nat.sub_self, List.getElem_drop, Nat.add_zero]
theorem mvr_set (d : Pt) (l : List Rn) (k : Nat) (h : k < l.length) : (mvr d l k).set k (movR d l[k]) = mvr d l (k + 1) := by
  unfold mvr
  have e : ((l.take k).map (movR d)).length = k := by simp; omega
  have e1 : l.take (k + 1) = l.take k ++ [l[k]] := List.take_succ_eq_append_getElem h
  rw [List.set_append_right _ _ (by omega), e, Nat.sub_self, List.drop_eq_getElem_cons h, List.set_cons_zero, e1, List.map_append, List.append_assoc]
  rfl
theorem mvr_zero (d : Pt) (l : List Rn) : mvr d l 0 = l := by simp [mvr]
theorem mvr_all (d : Pt) (l : List Rn) : mvr d l l.length = l.map (movR d) := by simp [mvr]
set_option maxHeartbeats 8000000 in
set_option maxRecDepth 100000 in
theorem Moved_full (q : Option Addr) (rs : List Rn) (cap : Nat) (d : Pt) (w : World) (hR : Slr w q rs cap) (h60 : 60 < rs.length) :
    Calls Try.prog 11 #[.slice q rs.length cap, d.val] w fun e w' => e = .returned (.tuple #[.slice none 0 0, .int .i64 4]) ∧ Below w.heap.size w w' := by
  obtain ⟨dx, dy, dz⟩ := d
  unfold Pt.val
  dsimp only
  have g1 : decide ((rs.length : Int) > 60) = true := by simp; omega
  clear h60
  go_enter Try.func11, Try.ntmps11
  go_wp2
  exact bodyPost_ret (v := .tuple #[.slice none 0 0, .int .i64 4]) (by simp [results, Try.results11, go_sem]) rfl ⟨rfl, al1 _ _⟩
set_option maxHeartbeats 8000000 in
set_option maxRecDepth 100000 in
theorem Moved_wide (q : Option Addr) (rs : List Rn) (cap : Nat) (d : Pt) (w : World) (hR : Slr w q rs cap) (h60 : rs.length ≤ 60) (hd : inB 2097152 d = false) :
    Calls Try.prog 11 #[.slice q rs.length cap, d.val] w fun e w' => e = .returned (.tuple #[.slice none 0 0, .int .i64 2]) ∧ Below w.heap.size w w' := by
  have h34 := fun W => within_34 d 2097152 (by decide) (by decide) W
  rw [hd] at h34
  obtain ⟨dx, dy, dz⟩ := d
  unfold Pt.val at *
  dsimp only at *
  have g1 : decide ((rs.length : Int) > 60) = false := by simp; omega
  clear h60 hd
  have E := (Env.nil w).add w.heap.size 24 #[.int .i64 dx, .int .i64 dy, .int .i64 dz] rfl
  have C := E.cells
  simp [BC, CF] at C
  go_enter Try.func11, Try.ntmps11
  go_wp2_with (go_at_call 34; (with_reducible refine (h34 _).mono ?_); rintro X wq ⟨rfl, hb⟩; replace E := E.on hb)
  exact bodyPost_ret (v := .tuple #[.slice none 0 0, .int .i64 2]) (by simp [results, Try.results11, go_sem]) rfl ⟨rfl, envb E⟩
set_option maxHeartbeats 8000000 in
set_option maxRecDepth 100000 in
theorem Moved_main (q : Option Addr) (rs : List Rn) (cap : Nat) (d : Pt) (w : World) (hR : Slr w q rs cap) (h60 : rs.length ≤ 60) (hd : inB 2097152 d = true) (cd : Int) (LL : List Rn) (hgood : rs.all (okM d) = true → cd = 0 ∧ LL = rs.map (movR d)) (hbad : rs.all (okM d) = false → cd = 2 ∧ LL = []) :
    Calls Try.prog 11 #[.slice q rs.length cap, d.val] w fun e w' => ∃ v, e = .returned (.tuple #[v, .int .i64 cd]) ∧ Own rc 30 10 w.heap.size w' v LL ∧ Below w.heap.size w w' := by
  have HGood := Lib.hid hgood
  have HBad := Lib.hid hbad
  clear hgood hbad
  have h34 := fun W => within_34 d 2097152 (by decide) (by decide) W
  rw [hd] at h34
  have HD := Lib.hid hd
  obtain ⟨dx, dy, dz⟩ := d
  unfold Pt.val at *
  dsimp only at *
  have g1 : decide ((rs.length : Int) > 60) = false := by simp; omega
  have H60 := Lib.hid h60
  clear h60 hd
  have E := (Env.nil w).add w.heap.size 24 #[.int .i64 dx, .int .i64 dy, .int .i64 dz] rfl
  have C := E.cells
  simp [BC, CF] at C
  have h35 := fun W (h : Below w.heap.size w W) => rclone_35 q rs cap W (hR.on h) H60.out
  go_enter Try.func11, Try.ntmps11
  go_upto_region 6 with (first
    | (go_at_call 34; (with_reducible refine (h34 _).mono ?_); rintro X wq ⟨rfl, hb⟩; replace E := E.on hb; replace C := E.cells; simp [BC, CF] at C; clear hb)
    | (go_at_call 35; (with_reducible refine (h35 _ (envb E)).mono ?_); rintro X wq ⟨v, rfl, hO, hb⟩; have hlt := E.lt 0 (by simp); replace E := E.on hb; replace C := E.cells; simp [BC, CF] at C; clear hb))
  simp only [numB] at hlt
  replace hO := Own.mono (B' := w.heap.size + 1) hO (by omega)
  obtain ⟨g, cp, rfl⟩ : ∃ g cp, v = .slice g rs.length cp := by
    obtain ⟨g, cp, e, -⟩ := Own.rd rcl hO
    exact ⟨g, cp, e⟩
  clear h34 h35 hlt
  go_wp2
  go_loopw [21] (fun v wr => ∃ k : Nat, v = .int .i64 k ∧ k ≤ rs.length ∧ Hid (∀ x ∈ rs.take k, okM ⟨dx, dy, dz⟩ x = true) ∧ Own rc 30 10 (w.heap.size + 1) wr (.slice g rs.length cp) (mvr ⟨dx, dy, dz⟩ rs k) ∧ Env w wr [⟨w.heap.size, 24, #[.int .i64 dx, .int .i64 dy, .int .i64 dz]⟩]) (fun v _ => rs.length - (intOf v).toNat)
  case atStart => exact ⟨0, rfl, Nat.zero_le _, Lib.hid (by simp), by rw [mvr_zero]; exact hO, E⟩
  case round =>
    clear E C hO
    obtain ⟨k, rfl, hk, hG, hO, E⟩ := hrel
    by_cases hlt : k < rs.length
    · have g2 : decide ((k : Int) < (rs.length : Int)) = true := by simp [hlt]
      have W1 : IntKind.i64.wrap ((k : Int) + 1) = ((k + 1 : Nat) : Int) := by rw [IntWalk.i64_in _ (by have := H60.out; omega)]; omega
      obtain ⟨a, rfl, h0, h1, h2, h3, h4, h5, h6, h7, h8, h9⟩ := (hR.on (envb E)).at_ k hlt
      obtain ⟨g', hgg⟩ : ∃ g', g = some ⟨g', 0, none⟩ := by
        obtain ⟨q1, c1, e1, r1⟩ := Own.rd rcl hO
        simp only [Value.slice.injEq] at e1
        obtain ⟨rfl, -, -⟩ := e1
        obtain ⟨g', e2, -⟩ := r1 k (by rw [mvr_len]; exact hlt)
        exact ⟨g', e2⟩
      subst hgg
      have HO := Lib.hid hO
      obtain ⟨oc, of, hBg, hgs⟩ := own_cells10 hO (mvr_len _ _ _) (k := k) (by rw [mvr_len]; exact hlt)
      have hSet := mvr_set ⟨dx, dy, dz⟩ rs k hlt
      have hAt := mvr_at ⟨dx, dy, dz⟩ rs k hlt
      rw [hAt] at oc
      have HSet := Lib.hid (And.intro hSet hAt)
      have e34 := fun W => within_34 rs[k].at_ 1048576 (by decide) (by decide) W
      have hok : okM ⟨dx, dy, dz⟩ rs[k] = (inB 1048576 rs[k].at_ && inB 1048576 (adp rs[k].at_ ⟨dx, dy, dz⟩)) := rfl
      have hallf : Hid (okM ⟨dx, dy, dz⟩ rs[k] = false → rs.all (okM ⟨dx, dy, dz⟩) = false) := Lib.hid fun e => List.all_eq_false.2 ⟨_, List.getElem_mem hlt, by simp [e]⟩
      have hallt : Hid (okM ⟨dx, dy, dz⟩ rs[k] = true → ∀ x ∈ rs.take (k + 1), okM ⟨dx, dy, dz⟩ x = true) := Lib.hid fun e => all_drop hlt hG.out e
      obtain ⟨A, hA⟩ : ∃ A, IntKind.i64.wrap (rs[k].at_.x + dx) = A := ⟨_, rfl⟩
      obtain ⟨B, hB⟩ : ∃ A, IntKind.i64.wrap (rs[k].at_.y + dy) = A := ⟨_, rfl⟩
      obtain ⟨C', hC'⟩ : ∃ A, IntKind.i64.wrap (rs[k].at_.z + dz) = A := ⟨_, rfl⟩
      have h36 := fun W => plus_w rs[k].at_.x rs[k].at_.y rs[k].at_.z dx dy dz A B C' hA hB hC' W
      have f34 := fun W => within_34 ⟨A, B, C'⟩ 1048576 (by decide) (by decide) W
      have E1 := E.add wr.heap.size 30 rs[k].cs rfl
      rw [rcs] at E1
      have hO1 := own_on hO (al1 wr (.cells rs[k].cs 30))
      rw [rcs] at hO1
      have oc3 := oc 3 (by omega)
      have oc4 := oc 4 (by omega)
      have oc5 := oc 5 (by omega)
      unfold Pt.val at e34 f34
      dsimp only at f34
      clear oc hG hSet hAt hO
      have C := E1.cells
      simp [BC, CF] at C
      go_upto_region 10 with (go_at_call 36; (with_reducible refine (h36 _).mono ?_); rintro X w5 ⟨rfl, hb5⟩; have hO5 := own_on hO1 hb5; obtain ⟨c5, f5, -, hg5⟩ := own_cells10 (B := w.heap.size + 1) hO5 (mvr_len _ _ _) (k := k) (by rw [mvr_len]; exact hlt); rw [HSet.out.2] at c5; have c53 : w5.cell? ⟨g', k * 10 + 3, none⟩ = some (.int .i64 rs[k].at_.x) := c5 3 (by omega); have c54 : w5.cell? ⟨g', k * 10 + 3 + 1, none⟩ = some (.int .i64 rs[k].at_.y) := c5 4 (by omega); have c55 : w5.cell? ⟨g', k * 10 + 3 + 2, none⟩ = some (.int .i64 rs[k].at_.z) := c5 5 (by omega); have f53 := f5 (k * 10 + 3); have f54 := f5 (k * 10 + 3 + 1); have f55 := f5 (k * 10 + 3 + 2); clear c5 f5; replace E1 := E1.on hb5; replace C := E1.cells; simp [BC, CF] at C)
      have P5 := own_put10 (B := w.heap.size + 1) hO5 (mvr_len _ _ _) k (by rw [mvr_len]; exact hlt) ⟨A, B, C'⟩
      rw [HSet.out.2] at P5
      replace P5 : Own rc 30 10 (w.heap.size + 1) (((w5.setCell ⟨g', k * 10 + 3, none⟩ (.int .i64 A)).setCell ⟨g', k * 10 + 3 + 1, none⟩ (.int .i64 B)).setCell ⟨g', k * 10 + 3 + 2, none⟩ (.int .i64 C')) (.slice (some ⟨g', 0, none⟩) rs.length cp) ((mvr ⟨dx, dy, dz⟩ rs k).set k (atR rs[k] ⟨A, B, C'⟩)) := P5
      have E6 := E1.chg (lo := g') (hi := g' + 1) (((Chg.put w5 ⟨g', k * 10 + 3, none⟩ (.int .i64 A) (Nat.le_refl _) (Nat.lt_succ_self _)).trans (Chg.put _ ⟨g', k * 10 + 3 + 1, none⟩ (.int .i64 B) (Nat.le_refl _) (Nat.lt_succ_self _))).trans (Chg.put _ ⟨g', k * 10 + 3 + 2, none⟩ (.int .i64 C') (Nat.le_refl _) (Nat.lt_succ_self _))) (by intro y hy; simp only [List.mem_cons, List.not_mem_nil, or_false] at hy; rcases hy with rfl | rfl <;> (dsimp only; omega)) (by omega)
      have d3 : (((w5.setCell ⟨g', k * 10 + 3, none⟩ (.int .i64 A)).setCell ⟨g', k * 10 + 3 + 1, none⟩ (.int .i64 B)).setCell ⟨g', k * 10 + 3 + 2, none⟩ (.int .i64 C')).heap.size = w5.heap.size := by simp [World.setCell]
      generalize ((w5.setCell ⟨g', k * 10 + 3, none⟩ (.int .i64 A)).setCell ⟨g', k * 10 + 3 + 1, none⟩ (.int .i64 B)).setCell ⟨g', k * 10 + 3 + 2, none⟩ (.int .i64 C') = w6 at *
      obtain ⟨c6, -⟩ := own_cells10 P5 (by rw [List.length_set, mvr_len]) (k := k) (by rw [List.length_set, mvr_len]; exact hlt)
      rw [List.getElem_set_self] at c6
      have c63 : w6.cell? ⟨g', k * 10 + 3, none⟩ = some (.int .i64 A) := c6 3 (by omega)
      have c64 : w6.cell? ⟨g', k * 10 + 3 + 1, none⟩ = some (.int .i64 B) := c6 4 (by omega)
      have c65 : w6.cell? ⟨g', k * 10 + 3 + 2, none⟩ = some (.int .i64 C') := c6 5 (by omega)
      have HP := Lib.hid P5
      clear c53 c54 c55 f53 f54 f55 hO5 hO1 HO P5 E E1 C c6 hb5 oc3 oc4 oc5 of
      have C := E6.cells
      simp [BC, CF] at C
      cases hn1 : inB 1048576 rs[k].at_
      · rw [hn1] at e34
        have HN : Hid (inB 1048576 rs[k].at_ = false) := Lib.hid hn1
        clear hn1
        have HF := Lib.hid (hallf.out (by rw [hok, HN.out]; simp))
        go_wp2_with (first
          | (go_at_call 34; (with_reducible refine (e34 _).mono ?_); rintro X w7 ⟨rfl, hb7⟩; have c6a := cell_later hb7 c63; have c6b := cell_later hb7 c64; have c6c := cell_later hb7 c65; replace E6 := E6.on hb7)
          | (go_at_call 34; (with_reducible refine (f34 _).mono ?_); rintro X w8 ⟨rfl, hb8⟩; replace E6 := E6.on hb8))
        refine bodyPost_ret (v := .tuple #[.slice none 0 0, .int .i64 2]) (by simp [results, Try.results11, go_sem]) rfl ⟨.slice none 0 0, ?_, ?_, envb E6⟩
        · rw [(HBad.out HF.out).1]
        · rw [(HBad.out HF.out).2]; exact Fm.own_nil _ _ _ _ _
      · have hbd := inB_bd.1 hn1
        have hdd := inB_bd.1 HD.out
        have hsum : adp rs[k].at_ ⟨dx, dy, dz⟩ = ⟨A, B, C'⟩ := by
          unfold Pt.bd at hbd hdd
          dsimp only at hdd
          unfold adp
          simp only [Pt.mk.injEq]
          rw [← hA, ← hB, ← hC']
          exact ⟨(IntWalk.i64_in _ (by omega)).symm, (IntWalk.i64_in _ (by omega)).symm, (IntWalk.i64_in _ (by omega)).symm⟩
        have hmv : movR ⟨dx, dy, dz⟩ rs[k] = atR rs[k] ⟨A, B, C'⟩ := by unfold movR; rw [hsum]
        rw [hn1] at e34
        rw [hsum] at hok
        have HN1 := Lib.hid hn1
        have HMv := Lib.hid hmv
        clear hn1 hbd hdd hsum hmv
        cases hn2 : inB 1048576 ⟨A, B, C'⟩
        · rw [hn2] at f34
          have HN : Hid (inB 1048576 ⟨A, B, C'⟩ = false) := Lib.hid hn2
          clear hn2
          have HF := Lib.hid (hallf.out (by rw [hok, HN.out]; simp))
          go_wp2_with (first
            | (go_at_call 34; (with_reducible refine (e34 _).mono ?_); rintro X w7 ⟨rfl, hb7⟩; have c6a := cell_later hb7 c63; have c6b := cell_later hb7 c64; have c6c := cell_later hb7 c65; replace E6 := E6.on hb7)
            | (go_at_call 34; (with_reducible refine (f34 _).mono ?_); rintro X w8 ⟨rfl, hb8⟩; replace E6 := E6.on hb8))
          refine bodyPost_ret (v := .tuple #[.slice none 0 0, .int .i64 2]) (by simp [results, Try.results11, go_sem]) rfl ⟨.slice none 0 0, ?_, ?_, envb E6⟩
          · rw [(HBad.out HF.out).1]
          · rw [(HBad.out HF.out).2]; exact Fm.own_nil _ _ _ _ _
        · rw [hn2] at f34
          have HN : Hid (inB 1048576 ⟨A, B, C'⟩ = true) := Lib.hid hn2
          clear hn2
          have HT := Lib.hid (hallt.out (by rw [hok, HN1.out, HN.out]; rfl))
          go_wp2_with (first
            | (go_at_call 34; (with_reducible refine (e34 _).mono ?_); rintro X w7 ⟨rfl, hb7⟩; have c6a := cell_later hb7 c63; have c6b := cell_later hb7 c64; have c6c := cell_later hb7 c65; replace E6 := E6.on hb7; have P7 := own_on HP.out hb7)
            | (go_at_call 34; (with_reducible refine (f34 _).mono ?_); rintro X w8 ⟨rfl, hb8⟩; replace E6 := E6.on hb8; have P8 := own_on P7 hb8))
          go_roundw
          case rel => exact ⟨k + 1, rfl, hlt, HT.out, (by rw [← HSet.out.1, HMv.out]; exact P8), E6.tail⟩
          case measure => simp [intOf]; omega
    · have g2 : decide ((k : Int) < (rs.length : Int)) = false := by simp; omega
      obtain rfl : k = rs.length := by omega
      rw [mvr_all] at hO
      have hall : rs.all (okM ⟨dx, dy, dz⟩) = true := by
        have := hG.out
        rw [List.take_length] at this
        exact List.all_eq_true.2 this
      have HA := Lib.hid hall
      clear hall hG
      go_wp2
      refine bodyPost_ret (v := .tuple #[.slice g rs.length cp, .int .i64 0]) (by simp [results, Try.results11, go_sem]) rfl ⟨.slice g rs.length cp, ?_, ?_, envb E⟩
      · rw [(HGood.out HA.out).1]
      · rw [(HGood.out HA.out).2]; exact Own.mono hO (by omega)
theorem Moved_11 (q : Option Addr) (rs : List Rn) (cap : Nat) (d : Pt) (w : World) (hR : Slr w q rs cap) :
    Calls Try.prog 11 #[.slice q rs.length cap, d.val] w fun e w' => ∃ v, e = .returned (.tuple #[v, .int .i64 (movC rs d).2]) ∧ Own rc 30 10 w.heap.size w' v (movC rs d).1 ∧ Below w.heap.size w w' := by
  unfold movC
  by_cases h : 60 < rs.length
  · rw [if_pos h]
    exact (Moved_full q rs cap d w hR h).mono fun e w' h => ⟨_, h.1, Fm.own_nil _ _ _ _ _, h.2⟩
  · rw [if_neg h]
    cases hd : inB 2097152 d
    · exact (Moved_wide q rs cap d w hR (by omega) hd).mono fun e w' h => ⟨_, h.1, Fm.own_nil _ _ _ _ _, h.2⟩
    · cases ha : rs.all (okM d)
      · exact Moved_main q rs cap d w hR (by omega) hd 2 [] (fun h => by rw [ha] at h; cases h) (fun _ => ⟨rfl, rfl⟩)
      · exact Moved_main q rs cap d w hR (by omega) hd 0 (rs.map (movR d)) (fun _ => ⟨rfl, rfl⟩) (fun h => by rw [ha] at h; cases h)
end Go.Proofs.Ytfkcogocaecodaa
