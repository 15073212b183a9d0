/- The reference: runs that are moved; Same. -/
import Derived.Test.YtfkcogocaecodaaMd
import Derived.Laws.StructEq
import Derived.Deep.CutBlock
namespace Go.Proofs.Ytfkcogocaecodaa
open Go.ChangeShapes Go.WideShapes Go.ChangeAt Go.RowKit
set_option linter.unusedVariables false
set_option linter.unusedSimpArgs false

set_option maxHeartbeats 4000000 in
theorem twice_37 (p : Pt) (w : World) : Calls Try.prog 37 #[p.val] w fun e w' => e = .returned (.bool (inB 2097152 p)) ∧ Below w.heap.size w w' := by
  obtain ⟨x, y, z⟩ := p
  have hv : inB 2097152 ⟨x, y, z⟩ = (decide (x ≥ -2097152) && decide (x ≤ 2097152) && decide (y ≥ -2097152) && decide (y ≤ 2097152) && decide (z ≥ -2097152) && decide (z ≤ 2097152)) := by
    unfold inB; simp only [ge_iff_le, Bool.and_assoc]
  rw [hv]
  clear hv
  have E := ((Env.nil w).add w.heap.size 24 #[.int .i64 x, .int .i64 y, .int .i64 z] rfl)
  have C := E.cells
  simp [BC, CF] at C
  unfold Pt.val
  dsimp only
  cases g0 : decide (x ≥ -2097152)
  · try simp only [Bool.and_false, Bool.false_and]
    go_enter Try.func37, Try.ntmps37
    go_wp2
    go_ret
    exact ⟨rfl, envb E⟩
  · try simp only [Bool.and_true, Bool.true_and]
    cases g1 : decide (x ≤ 2097152)
    · try simp only [Bool.and_false, Bool.false_and]
      go_enter Try.func37, Try.ntmps37
      go_wp2
      go_ret
      exact ⟨rfl, envb E⟩
    · try simp only [Bool.and_true, Bool.true_and]
      cases g2 : decide (y ≥ -2097152)
      · try simp only [Bool.and_false, Bool.false_and]
        go_enter Try.func37, Try.ntmps37
        go_wp2
        go_ret
        exact ⟨rfl, envb E⟩
      · try simp only [Bool.and_true, Bool.true_and]
        cases g3 : decide (y ≤ 2097152)
        · try simp only [Bool.and_false, Bool.false_and]
          go_enter Try.func37, Try.ntmps37
          go_wp2
          go_ret
          exact ⟨rfl, envb E⟩
        · try simp only [Bool.and_true, Bool.true_and]
          cases g4 : decide (z ≥ -2097152)
          · try simp only [Bool.and_false, Bool.false_and]
            go_enter Try.func37, Try.ntmps37
            go_wp2
            go_ret
            exact ⟨rfl, envb E⟩
          · try simp only [Bool.and_true, Bool.true_and]
            cases g5 : decide (z ≤ 2097152)
            · try simp only [Bool.and_false, Bool.false_and]
              go_enter Try.func37, Try.ntmps37
              go_wp2
              go_ret
              exact ⟨rfl, envb E⟩
            · try simp only [Bool.and_true, Bool.true_and]
              go_enter Try.func37, Try.ntmps37
              go_wp2
              go_ret
              exact ⟨rfl, envb E⟩
set_option maxHeartbeats 8000000 in
set_option maxRecDepth 100000 in
theorem rMoved_full (q : Option Addr) (rs : List Rn) (cap : Nat) (d : Pt) (w : World) (hR : Slr w q rs cap) (h60 : 60 < rs.length) :
    Calls Try.prog 12 #[.slice q rs.length cap, d.val] w fun e w' => e = .returned (.tuple #[.slice none 0 0, .int .i64 4]) ∧ Below w.heap.size w w' := by
  obtain ⟨dx, dy, dz⟩ := d
  unfold Pt.val
  dsimp only
  have g1 : decide ((rs.length : Int) > 60) = true := by simp; omega
  clear h60
  go_enter Try.func12, Try.ntmps12
  go_wp2
  exact bodyPost_ret (v := .tuple #[.slice none 0 0, .int .i64 4]) (by simp [results, Try.results12, go_sem]) rfl ⟨rfl, al1 _ _⟩
set_option maxHeartbeats 8000000 in
set_option maxRecDepth 100000 in
theorem rMoved_wide (q : Option Addr) (rs : List Rn) (cap : Nat) (d : Pt) (w : World) (hR : Slr w q rs cap) (h60 : rs.length ≤ 60) (hd : inB 2097152 d = false) :
    Calls Try.prog 12 #[.slice q rs.length cap, d.val] w fun e w' => e = .returned (.tuple #[.slice none 0 0, .int .i64 2]) ∧ Below w.heap.size w w' := by
  have h37 := fun W => twice_37 d W
  rw [hd] at h37
  obtain ⟨dx, dy, dz⟩ := d
  unfold Pt.val at *
  dsimp only at *
  have g1 : decide ((rs.length : Int) > 60) = false := by simp; omega
  clear h60 hd
  have E := (Env.nil w).add w.heap.size 24 #[.int .i64 dx, .int .i64 dy, .int .i64 dz] rfl
  have C := E.cells
  simp [BC, CF] at C
  go_enter Try.func12, Try.ntmps12
  go_wp2_with (go_at_call 37; (with_reducible refine (h37 _).mono ?_); rintro X wq ⟨rfl, hb⟩; replace E := E.on hb)
  exact bodyPost_ret (v := .tuple #[.slice none 0 0, .int .i64 2]) (by simp [results, Try.results12, go_sem]) rfl ⟨rfl, envb E⟩
set_option maxHeartbeats 8000000 in
set_option maxRecDepth 100000 in
theorem rMoved_main (q : Option Addr) (rs : List Rn) (cap : Nat) (d : Pt) (w : World) (hR : Slr w q rs cap) (h60 : rs.length ≤ 60) (hd : inB 2097152 d = true) (cd : Int) (LL : List Rn) (hgood : rs.all (okM d) = true → cd = 0 ∧ LL = rs.map (movR d)) (hbad : rs.all (okM d) = false → cd = 2 ∧ LL = []) :
    Calls Try.prog 12 #[.slice q rs.length cap, d.val] w fun e w' => ∃ v, e = .returned (.tuple #[v, .int .i64 cd]) ∧ Own rc 30 10 w.heap.size w' v LL ∧ Below w.heap.size w w' := by
  have HGood := Lib.hid hgood
  have HBad := Lib.hid hbad
  clear hgood hbad
  have h37 := fun W => twice_37 d W
  rw [hd] at h37
  have HD := Lib.hid hd
  obtain ⟨dx, dy, dz⟩ := d
  unfold Pt.val at *
  dsimp only at *
  have g1 : decide ((rs.length : Int) > 60) = false := by simp; omega
  have H60 := Lib.hid h60
  clear h60 hd
  obtain ⟨i0, hi, hz0, hz1, hz2⟩ := info_parts info30
  have E := (Env.nil w).add w.heap.size 24 #[.int .i64 dx, .int .i64 dy, .int .i64 dz] rfl
  have C := E.cells
  simp [BC, CF] at C
  go_enter Try.func12, Try.ntmps12
  go_upto_region 6 with (go_at_call 37; (with_reducible refine (h37 _).mono ?_); rintro X wq ⟨rfl, hb⟩; replace E := E.on hb; replace C := E.cells; simp [BC, CF] at C; clear hb)
  clear h37
  go_wp2
  go_loopw [6, 7] (fun v6 v wr => ∃ (k : Nat) (F : Value), v = .int .i64 k ∧ F = v6 ∧ k ≤ rs.length ∧ Hid (∀ x ∈ rs.take k, okM ⟨dx, dy, dz⟩ x = true) ∧ Own rc 30 10 (w.heap.size + 1) wr F ((rs.take k).map (movR ⟨dx, dy, dz⟩)) ∧ Env w wr [⟨w.heap.size, 24, #[.int .i64 dx, .int .i64 dy, .int .i64 dz]⟩]) (fun _ v _ => rs.length - (intOf v).toNat)
  case atStart => exact ⟨0, _, rfl, rfl, Nat.zero_le _, Lib.hid (by simp), Fm.own_nil _ _ _ _ _, E⟩
  case round =>
    clear E C
    obtain ⟨k, F, rfl, rfl, hk, hG, hO, E⟩ := hrel
    have hlw := E.lt 0 (by simp)
    simp only [numB] at hlw
    by_cases hlt : k < rs.length
    · have g2 : decide ((k : Int) < (rs.length : Int)) = true := by simp [hlt]
      have W1 : IntKind.i64.wrap ((k : Int) + 1) = ((k + 1 : Nat) : Int) := by rw [IntWalk.i64_in _ (by have := H60.out; omega)]; omega
      obtain ⟨a, rfl, h0, h1, h2, h3, h4, h5, h6, h7, h8, h9⟩ := (hR.on (envb E)).at_ k hlt
      have n38 := fun W => Fm.near_23 rs[k].at_ W
      have m38 := fun W => Fm.near_23 (adp rs[k].at_ ⟨dx, dy, dz⟩) W
      have hnr : Hid (∀ p : Pt, Fm.nearB p = inB 1048576 p) := Lib.hid fun p => rfl
      have hok : okM ⟨dx, dy, dz⟩ rs[k] = (inB 1048576 rs[k].at_ && inB 1048576 (adp rs[k].at_ ⟨dx, dy, dz⟩)) := rfl
      have hallf : Hid (okM ⟨dx, dy, dz⟩ rs[k] = false → rs.all (okM ⟨dx, dy, dz⟩) = false) := Lib.hid fun e => List.all_eq_false.2 ⟨_, List.getElem_mem hlt, by simp [e]⟩
      have hallt : Hid (okM ⟨dx, dy, dz⟩ rs[k] = true → ∀ x ∈ rs.take (k + 1), okM ⟨dx, dy, dz⟩ x = true) := Lib.hid fun e => all_drop hlt hG.out e
      have HS : Hid ((rs.take (k + 1)).map (movR ⟨dx, dy, dz⟩) = (rs.take k).map (movR ⟨dx, dy, dz⟩) ++ [movR ⟨dx, dy, dz⟩ rs[k]]) := Lib.hid (by rw [List.take_succ_eq_append_getElem hlt, List.map_append]; rfl)
      have hlen : ((rs.take k).map (movR ⟨dx, dy, dz⟩)).length = k := by simp; omega
      have HBd : Hid (inB 1048576 rs[k].at_ = true → (I64 (rs[k].at_.x + dx) ∧ I64 (rs[k].at_.y + dy) ∧ I64 (rs[k].at_.z + dz))) := Lib.hid fun e => by
        have hbd := inB_bd.1 e
        have hdd := inB_bd.1 HD.out
        unfold Pt.bd at hbd hdd
        unfold I64
        dsimp only at *
        omega
      have hmv : movR ⟨dx, dy, dz⟩ rs[k] = ⟨rs[k].mark, rs[k].tn, ⟨rs[k].at_.x + dx, rs[k].at_.y + dy, rs[k].at_.z + dz⟩, rs[k].st, rs[k].ct⟩ := rfl
      have HMv := Lib.hid hmv
      rw [hnr.out] at n38 m38
      generalize (rs.take k).map (movR ⟨dx, dy, dz⟩) = O at *
      generalize hrk : rs[k] = r at *
      clear hrk hG hmv
      obtain ⟨rm, ⟨tx, ty⟩, ⟨ax, ay, az⟩, ⟨sx, sy, sz⟩, ct⟩ := r
      unfold Pt.val at n38 m38
      unfold adp at m38 hok
      dsimp only at *
      have E1 := E.add wr.heap.size 30 #[.string rm, .int .i64 tx, .int .i64 ty, .int .i64 ax, .int .i64 ay, .int .i64 az, .int .i64 sx, .int .i64 sy, .int .i64 sz, .int .i64 ct] rfl
      have hO1 := own_on hO (al1 wr (.cells #[.string rm, .int .i64 tx, .int .i64 ty, .int .i64 ax, .int .i64 ay, .int .i64 az, .int .i64 sx, .int .i64 sy, .int .i64 sz, .int .i64 ct] 30))
      have hlr : w.heap.size < wr.heap.size := hlw
      have HOL := Lib.hid (World.ownsRow.lt hO)
      clear E hO
      go_upto_region 10 with fail
      generalize wr.alloc (.cells #[.string rm, .int .i64 tx, .int .i64 ty, .int .i64 ax, .int .i64 ay, .int .i64 az, .int .i64 sx, .int .i64 sy, .int .i64 sz, .int .i64 ct] 30) = w1 at *
      generalize wr.heap.size = rb at *
      have C := E1.cells
      simp [BC, CF] at C
      cases hn1 : inB 1048576 ⟨ax, ay, az⟩
      · rw [hn1] at n38
        have HF := Lib.hid (HBad.out (hallf.out (by rw [hok, hn1]; rfl)))
        clear hn1
        go_wp2_with (go_at_call 38; (with_reducible refine (n38 _).mono ?_); rintro X w7 ⟨rfl, hb7⟩; replace E1 := E1.on hb7)
        refine bodyPost_ret (v := .tuple #[.slice none 0 0, .int .i64 2]) (by simp [results, Try.results12, go_sem]) rfl ⟨.slice none 0 0, ?_, ?_, envb E1⟩
        · rw [HF.out.1]
        · rw [HF.out.2]; exact Fm.own_nil _ _ _ _ _
      · obtain ⟨i1, i2, i3⟩ := HBd.out hn1
        have h39 := fun W => Fm.plus_49 ax ay az dx dy dz i1 i2 i3 W
        unfold Pt.val Fm.pv at h39
        dsimp only at h39
        rw [hn1] at n38
        have HN1 := Lib.hid hn1
        clear hn1 i1 i2 i3
        cases hn2 : inB 1048576 ⟨ax + dx, ay + dy, az + dz⟩
        · rw [hn2] at m38
          have HF := Lib.hid (HBad.out (hallf.out (by rw [hok, hn2]; simp)))
          clear hn2
          go_wp2_with (first
            | (go_at_call 38; (with_reducible refine (n38 _).mono ?_); rintro X w7 ⟨rfl, hb7⟩; replace E1 := E1.on hb7; replace C := E1.cells; simp [BC, CF] at C)
            | (go_at_call 39; (with_reducible refine (h39 _).mono ?_); rintro X w8 ⟨rfl, hb8⟩; replace E1 := E1.on hb8; replace C := E1.cells; simp [BC, CF] at C)
            | (go_at_call 38; (with_reducible refine (m38 _).mono ?_); rintro X w9 ⟨rfl, hb9⟩; replace E1 := E1.on hb9))
          refine bodyPost_ret (v := .tuple #[.slice none 0 0, .int .i64 2]) (by simp [results, Try.results12, go_sem]) rfl ⟨.slice none 0 0, ?_, ?_, envb E1⟩
          · rw [HF.out.1]
          · rw [HF.out.2]; exact Fm.own_nil _ _ _ _ _
        · rw [hn2] at m38
          have HT := Lib.hid (hallt.out (by rw [hok, HN1.out, hn2]; rfl))
          clear hn2
          go_upto_region 12 with (first
            | (go_at_call 38; (with_reducible refine (n38 _).mono ?_); rintro X w7 ⟨rfl, hb7⟩; replace E1 := E1.on hb7; replace C := E1.cells; simp [BC, CF] at C; have o7 := own_on hO1 hb7)
            | (go_at_call 39; (with_reducible refine (h39 _).mono ?_); rintro X w8 ⟨rfl, hb8⟩; replace E1 := E1.on hb8; replace C := E1.cells; simp [BC, CF] at C; have o8 := own_on o7 hb8)
            | (go_at_call 38; (with_reducible refine (m38 _).mono ?_); rintro X w9 ⟨rfl, hb9⟩; replace E1 := E1.on hb9; replace C := E1.cells; simp [BC, CF] at C; have o9 := own_on o8 hb9))
          go_upto_region 13 with (go_at_call 39; (with_reducible refine (h39 _).mono ?_); rintro X wa ⟨rfl, hba⟩; replace E1 := E1.on hba; replace C := E1.cells; simp [BC, CF] at C; have oa := own_on o9 hba)
          have E13 := Env.put (Env.put (Env.put E1 0 3 (.int .i64 (ax + dx)) rfl) 0 4 (.int .i64 (ay + dy)) rfl) 0 5 (.int .i64 (az + dz)) rfl
          have o13 := own_at (own_at (own_at oa (at_put wa rb 3 (.int .i64 (ax + dx))) (fun e => by have := (HOL.out _ e).2; omega)) (at_put _ rb 4 (.int .i64 (ay + dy))) (fun e => by have := (HOL.out _ e).2; omega)) (at_put _ rb 5 (.int .i64 (az + dz))) (fun e => by have := (HOL.out _ e).2; omega)
          replace E13 : Env w (((wa.setCell ⟨rb, 3, none⟩ (.int .i64 (ax + dx))).setCell ⟨rb, 4, none⟩ (.int .i64 (ay + dy))).setCell ⟨rb, 5, none⟩ (.int .i64 (az + dz))) [⟨rb, 30, #[.string rm, .int .i64 tx, .int .i64 ty, .int .i64 (ax + dx), .int .i64 (ay + dy), .int .i64 (az + dz), .int .i64 sx, .int .i64 sy, .int .i64 sz, .int .i64 ct]⟩, ⟨w.heap.size, 24, #[.int .i64 dx, .int .i64 dy, .int .i64 dz]⟩] := E13
          clear E1 C oa o7 o8 o9 hO1
          generalize ((wa.setCell ⟨rb, 3, none⟩ (.int .i64 (ax + dx))).setCell ⟨rb, 4, none⟩ (.int .i64 (ay + dy))).setCell ⟨rb, 5, none⟩ (.int .i64 (az + dz)) = wb at *
          have C := E13.cells
          simp [BC, CF] at C
          have hn := Has.new_ wb 30 #[.string rm, .int .i64 tx, .int .i64 ty, .int .i64 (ax + dx), .int .i64 (ay + dy), .int .i64 (az + dz), .int .i64 sx, .int .i64 sy, .int .i64 sz, .int .i64 ct]
          have HN := Lib.hid hn
          have oo := own_on o13 (al1 wb (.cells #[.string rm, .int .i64 tx, .int .i64 ty, .int .i64 (ax + dx), .int .i64 (ay + dy), .int .i64 (az + dz), .int .i64 sx, .int .i64 sy, .int .i64 sz, .int .i64 ct] 30))
          have E14 := Lib.hid (E13.more (.cells #[.string rm, .int .i64 tx, .int .i64 ty, .int .i64 (ax + dx), .int .i64 (ay + dy), .int .i64 (az + dz), .int .i64 sx, .int .i64 sy, .int .i64 sz, .int .i64 ct] 30))
          have BB := envb E14.out
          have s6 := BB.size
          have s7 : w.heap.size + 1 ≤ (wb.alloc (.cells #[.string rm, .int .i64 tx, .int .i64 ty, .int .i64 (ax + dx), .int .i64 (ay + dy), .int .i64 (az + dz), .int .i64 sx, .int .i64 sy, .int .i64 sz, .int .i64 ct] 30)).heap.size := by
            have := E13.lt 1 (by simp); simp only [numB] at this; simp; omega
          have hlr2 := hlr
          clear hn o13 E13 hb7 hb8 hb9 hba BB
          go_wp2_with (at_builtin; refine wpList_append_own_at _ rfl _ _ 22 rfl (w.heap.size + 1) 30 i0 _ 10 88 Try.underlying22 hi hz0 hz1 hz2 rfl (by decide) _ O.length (O.flatMap rc) rfl oo ⟨_, 0, none⟩ 1 1 [.string rm, .int .i64 tx, .int .i64 ty, .int .i64 (ax + dx), .int .i64 (ay + dy), .int .i64 (az + dz), .int .i64 sx, .int .i64 sy, .int .i64 sz, .int .i64 ct] rfl rfl (World.news_of_block (cs := #[.string rm, .int .i64 tx, .int .i64 ty, .int .i64 (ax + dx), .int .i64 (ay + dy), .int .i64 (az + dz), .int .i64 sx, .int .i64 sy, .int .i64 sz, .int .i64 ct]) (t := 30) (fr := (0, 0)) HN.out) (by simp [Value.oneCell']) (by have := H60.out; unfold maxLen; omega) (by have := H60.out; omega) s7 ?_)
          intro v' wc r1 r2 r3 r4
          have O7 : Own rc 30 10 (w.heap.size + 1) wc v' (O ++ [⟨rm, ⟨tx, ty⟩, ⟨ax + dx, ay + dy, az + dz⟩, ⟨sx, sy, sz⟩, ct⟩]) := own_snoc (by rw [hlen]; exact r1)
          have hge := fun q (hq : _ = some q) => (World.ownsRow.lt oo q hq).1
          have E7 : Env w wc [⟨w.heap.size, 24, #[.int .i64 dx, .int .i64 dy, .int .i64 dz]⟩] := (E14.out.tail).grow r2 (fun q hq => ⟨fun y hy => by have := hge q hq; simp at hy; rcases hy with rfl; dsimp only; omega, by have := hge q hq; omega⟩)
          clear r1 r2 r3 r4 oo E14 hge
          go_wp2
          go_roundw
          · exact ⟨k + 1, _, rfl, rfl, hlt, HT.out, (by rw [HS.out, HMv.out]; exact O7), E7⟩
          · simp [intOf]; omega
    · have g2 : decide ((k : Int) < (rs.length : Int)) = false := by simp; omega
      obtain rfl : k = rs.length := by omega
      rw [List.take_length] at hO hG
      have HA := Lib.hid (HGood.out (List.all_eq_true.2 hG.out))
      clear hG
      go_wp2
      refine bodyPost_ret (v := .tuple #[F, .int .i64 0]) (by simp [results, Try.results12, go_sem]) rfl ⟨F, ?_, ?_, envb E⟩
      · rw [HA.out.1]
      · rw [HA.out.2]; exact Own.mono hO (by omega)
theorem rMoved_12 (q : Option Addr) (rs : List Rn) (cap : Nat) (d : Pt) (w : World) (hR : Slr w q rs cap) :
    Calls Try.prog 12 #[.slice q rs.length cap, d.val] w fun e w' => ∃ v, e = .returned (.tuple #[v, .int .i64 (movC rs d).2]) ∧ Own rc 30 10 w.heap.size w' v (movC rs d).1 ∧ Below w.heap.size w w' := by
  unfold movC
  by_cases h : 60 < rs.length
  · rw [if_pos h]
    exact (rMoved_full q rs cap d w hR h).mono fun e w' h => ⟨_, h.1, Fm.own_nil _ _ _ _ _, h.2⟩
  · rw [if_neg h]
    cases hd : inB 2097152 d
    · exact (rMoved_wide q rs cap d w hR (by omega) hd).mono fun e w' h => ⟨_, h.1, Fm.own_nil _ _ _ _ _, h.2⟩
    · cases ha : rs.all (okM d)
      · exact rMoved_main q rs cap d w hR (by omega) hd 2 [] (fun h => by rw [ha] at h; cases h) (fun _ => ⟨rfl, rfl⟩)
      · exact rMoved_main q rs cap d w hR (by omega) hd 0 (rs.map (movR d)) (fun _ => ⟨rfl, rfl⟩) (fun h => by rw [ha] at h; cases h)
end Go.Proofs.Ytfkcogocaecodaa
