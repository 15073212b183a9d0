/- The reference's Add and Least. -/
import Derived.Test.YtbohcedclnbcdaaL5
import Derived.Deep.AppendLies
namespace Go.Proofs.Ytbohcedclnbcdaa
open Go.ChangeShapes Go.WideShapes Go.ChangeAt Go.RowKit
set_option linter.unusedVariables false
set_option linter.unusedSimpArgs false

theorem full_any (p : Option Addr) (n c : Nat) (w : World) :
    Calls Try.prog 48 #[.slice p n c] w fun e w' => e = .returned (if n ≤ 200 then .tuple #[.slice p n c, .int .i64 0] else .tuple #[.slice none 0 0, .int .i64 4]) ∧ w' = w := by
  by_cases h : n ≤ 200
  · have h4 : ¬ (200 : Int) < n := by omega
    rw [if_pos h]
    go_enter Try.func48, Try.ntmps48
    go_wp2
    exact bodyPost_ret (v := .tuple #[.slice p n c, .int .i64 0]) (by simp [results, Try.results48, go_sem]) rfl ⟨rfl, rfl⟩
  · have h4 : (200 : Int) < n := by omega
    rw [if_neg h]
    go_enter Try.func48, Try.ntmps48
    go_wp2
    exact bodyPost_ret (v := .tuple #[.slice none 0 0, .int .i64 4]) (by simp [results, Try.results48, go_sem]) rfl ⟨rfl, rfl⟩
theorem opl_take (o : Int → Int → Int) (t : List (Int × Int × Int)) {k : Nat} (hk : k < t.length) : opl o (t.take (k + 1)) = opl o (t.take k) ++ [(t[k].1, o t[k].2.1 t[k].2.2)] := by
  unfold opl
  rw [List.take_succ_eq_append_getElem hk, List.map_append]; rfl
theorem opl_len (o : Int → Int → Int) (t : List (Int × Int × Int)) : (opl o t).length = t.length := by simp [opl]
/-- The short steps behind a list of the call's own, and whether they are too many. -/
theorem tail_any (p : Option Addr) (l : List Stp) (c : Nat) (w : World) (hS : Sl w p l) (hl : l.length ≤ 1000) (h6 : ∀ x ∈ l, I64 x.1 ∧ I64 x.2) :
    Calls Try.prog 19 #[.slice p l.length c] w fun e w' => ∃ p' c', e = .returned (.slice p' (sht l).length c') ∧ Sl w' p' (sht l) ∧ Below w.heap.size w w' := by
  refine (rshort_any p l c w hS hl).mono ?_
  rintro e w' ⟨v, rfl, ho, hb⟩
  obtain ⟨p', c', rfl, hs, -⟩ := ho.sl (len_sht hl) (fun x hx => h6 x (shF_sub.subset hx))
  exact ⟨p', c', rfl, hs, hb⟩
theorem opl_i64 {o : Int → Int → Int} {la lb : List Stp} (oa : OkS la) (ob : OkS lb) (h : ∀ s ∈ opl o (tog la lb), ara s.2 = true) : ∀ x ∈ opl o (tog la lb), I64 x.1 ∧ I64 x.2 := fun x hx => by
  refine ⟨?_, .of_ara (h x hx)⟩
  obtain ⟨e, he, rfl⟩ := List.mem_map.1 hx
  rcases tg_place e he with ⟨t, ht, k⟩ | ⟨t, ht, k⟩
  · show I64 e.1; rw [← k]; exact .of_plc (oa.pl t ht)
  · show I64 e.1; rw [← k]; exact .of_plc (ob.pl t ht)
theorem cmb_all {o : Int → Int → Int} {la lb : List Stp} (h : ∀ s ∈ opl o (tog la lb), ara s.2 = true) : cmb o la lb = if (sht (opl o (tog la lb))).length ≤ 200 then (sht (opl o (tog la lb)), 0) else ([], 4) := by
  have h1 : (opl o (tog la lb)).all (fun s => ara s.2) = true := List.all_eq_true.2 h
  unfold cmb
  simp only [h1, if_true]
theorem cmb_big {o : Int → Int → Int} {la lb : List Stp} {k : Nat} (hk : k < (tog la lb).length) (h : ara (o (tog la lb)[k].2.1 (tog la lb)[k].2.2) = false) : cmb o la lb = ([], 5) := by
  have h1 : (opl o (tog la lb)).all (fun s => ara s.2) = false := List.all_eq_false.2 ⟨((tog la lb)[k].1, o (tog la lb)[k].2.1 (tog la lb)[k].2.2), List.mem_map.2 ⟨_, List.getElem_mem hk, rfl⟩, by simp [h]⟩
  unfold cmb
  simp only [h1, Bool.false_eq_true, if_false]
set_option maxHeartbeats 4000000 in
set_option maxRecDepth 100000 in
theorem radd_any (p q : Option Addr) (la lb : List Stp) (ca cb : Nat) (w : World) (hA : Sl w p la) (hB : Sl w q lb) (oa : OkS la) (ob : OkS lb) :
    Calls Try.prog 22 #[.slice p la.length ca, .slice q lb.length cb] w fun e w' => ∃ p' c', e = .returned (.tuple #[.slice p' (cmb o45 la lb).1.length c', .int .i64 (cmb o45 la lb).2]) ∧ Sl w' p' (cmb o45 la lb).1 ∧ Below w.heap.size w w' := by
  obtain ⟨i0, hi, hz0, hz1, hz2⟩ := info_parts info34
  have l1 := oa.len
  have l2 := ob.len
  have h1 := places_ri p q la lb ca cb w hA hB (by omega) (by omega)
  have HV := Lib.hid (tog_val oa.asc ob.asc)
  have htl : (tog la lb).length ≤ 400 := Nat.le_trans (tg_len _ _ _ _ _) (by omega)
  have HP : Hid (∀ j (h : j < (tog la lb).length), ∃ h' : j < (pls la lb).length, (pls la lb)[j] = (tog la lb)[j].1) := Lib.hid fun j h => ⟨by simp [pls]; exact h, by simp [pls]⟩
  have HA := Lib.hid (fun x => (ara_iff _).1 (va_ara oa.ar x))
  have HB := Lib.hid (fun x => (ara_iff _).1 (va_ara ob.ar x))
  have HO := Lib.hid (And.intro oa ob)
  clear oa ob l1 l2
  go_enter Try.func22, Try.ntmps22
  go_wp2_with (go_at_call 47; (with_reducible refine h1.mono ?_); rintro e w1 ⟨p1, c1, rfl, hr, B⟩)
  clear h1
  have HR := Lib.hid hr
  clear hr
  go_loopw [7, 8] (fun v i wr => ∃ k : Nat, i = .int .i64 k ∧ k ≤ (tog la lb).length ∧ Hid (∀ s ∈ opl o45 ((tog la lb).take k), ara s.2 = true) ∧ OwnS w1.heap.size wr v (opl o45 ((tog la lb).take k)) ∧ Below w1.heap.size w1 wr) (fun v i _ => (tog la lb).length - (intOf i).toNat)
  case atStart => exact ⟨0, rfl, Nat.zero_le _, Lib.hid (by simp [opl]), OwnS.nil _ _, Below.refl _ _⟩
  case round =>
    obtain ⟨k, rfl, hk, hG, ho, hbw⟩ := hrel
    by_cases hlt : k < (tog la lb).length
    · have gk : decide ((k : Int) < ((tog la lb).length : Int)) = true := by simp [hlt]
      have W1 : IntKind.i64.wrap ((k : Int) + 1) = ((k + 1 : Nat) : Int) := by rw [IntWalk.i64_in _ (by omega)]; omega
      have q1 : (0 : Int) ≤ (k : Int) := by omega
      have q2 : (k : Int) < ((tog la lb).length : Int) := by omega
      obtain ⟨hk', hpk⟩ := HP.out k hlt
      obtain ⟨a1, rfl, d0⟩ := (HR.out.on hbw) k hk'
      rw [hpk] at d0
      have hv := HV.out _ (List.getElem_mem hlt)
      have t1 := fun W h => rat_any p la ca (tog la lb)[k].1 W h
      have t2 := fun W h => rat_any q lb cb (tog la lb)[k].1 W h
      have ra := HA.out (tog la lb)[k].1
      have rb := HB.out (tog la lb)[k].1
      rw [← hv.1] at t1 ra
      rw [← hv.2] at t2 rb
      have HT := Lib.hid (opl_take o45 (tog la lb) hlt)
      have HBG := Lib.hid (fun h => cmb_big (o := o45) hlt h)
      have hlen : Hid ((opl o45 ((tog la lb).take k)).length ≤ 400) := Lib.hid (by rw [opl_len, List.length_take]; omega)
      clear hv hpk hk'
      generalize (tog la lb)[k].1 = x at *
      generalize (tog la lb)[k].2.1 = n2 at *
      generalize (tog la lb)[k].2.2 = m2 at *
      have hA1 := (hA.on B).on hbw
      have hB1 := (hB.on B).on hbw
      have u1 := fun nn => t1 (wr.drewN nn) (show Sl (wr.drewN nn) p la from hA1)
      have u2 := fun nn => t2 (wr.drewN nn) (show Sl (wr.drewN nn) q lb from hB1)
      clear t1 t2 hA1 hB1
      have ws : IntKind.i64.wrap (n2 + m2) = n2 + m2 := IntWalk.i64_in _ (by omega)
      by_cases hbig : 1099511627776 < n2 + m2
      · have gb : decide (1099511627776 < n2 + m2) = true := decide_eq_true hbig
        have HF := Lib.hid (HBG.out (by show ara (n2 + m2) = false; cases e : ara (n2 + m2); · rfl
                                        · have := (ara_iff _).1 e; omega))
        clear hbig ra rb
        go_wp2_with fail
        go_quiet (first | (with_reducible exact Calls.quiet_of_same (u1 _)) | (with_reducible exact Calls.quiet_of_same (u2 _)))
        go_wp2
        exact bodyPost_ret (v := .tuple #[.slice none 0 0, .int .i64 5]) (by simp [results, Try.results22, go_sem]) rfl ⟨none, 0, by rw [HF.out]; rfl, by rw [HF.out]; exact ⟨fun _ => rfl, fun a ha => (by cases ha), Nat.zero_le _, fun x hx => (by cases hx)⟩, below_drewN (belows B hbw) _⟩
      · have gb : decide (1099511627776 < n2 + m2) = false := decide_eq_false hbig
        have HF : Hid (∀ s ∈ opl o45 ((tog la lb).take (k + 1)), ara s.2 = true) := Lib.hid (by
          rw [HT.out]
          intro s hs
          rcases List.mem_append.1 hs with hs | hs
          · exact hG.out s hs
          · rw [List.mem_singleton.1 hs]; exact (ara_iff _).2 (by show 0 ≤ n2 + m2 ∧ n2 + m2 ≤ _; omega))
        clear hbig ra rb
        go_wp2_with fail
        go_quiet (first | (with_reducible exact Calls.quiet_of_same (u1 _)) | (with_reducible exact Calls.quiet_of_same (u2 _)))
        have ho' : OwnS w1.heap.size (wr.drewN nq) _ (opl o45 ((tog la lb).take k)) := ho
        have hb' := below_drewN hbw nq
        have d0' : (wr.drewN nq).cell? (a1.add k) = some (.int .i64 x) := d0
        clear ho u1 u2 d0 hbw
        generalize wr.drewN nq = V at *
        have HNw := Has.new_ V 34 #[.int .i64 x, .int .i64 (n2 + m2)]
        have hcl : ∀ (j : Nat) (u : Value), [Value.int .i64 x, Value.int .i64 (n2 + m2)][j]? = some u → (V.alloc (.cells #[.int .i64 x, .int .i64 (n2 + m2)] 34)).cell? ((⟨V.heap.size, 0, none⟩ : Addr).add j) = some u := fun j u h => by
          rw [Addr.add_lit, Nat.zero_add, HNw.read j]
          simpa using h
        have ho1 := ho'.on (al1 V (.cells #[.int .i64 x, .int .i64 (n2 + m2)] 34))
        have hbk := World.ownsRow.lt ho'
        have BN := al hb' (.cells #[.int .i64 x, .int .i64 (n2 + m2)] 34)
        have hsz := B.size
        have hsz2 := hb'.size
        clear HNw ho'
        go_wp2_with (at_builtin; refine wpList_append_own_at _ rfl _ _ 22 rfl w1.heap.size 34 i0 _ 2 16 Try.underlying22 hi hz0 hz1 hz2 rfl (by decide) _ _ _ rfl ho1 ⟨V.heap.size, 0, none⟩ 1 1 [.int .i64 x, .int .i64 (n2 + m2)] rfl rfl hcl (by simp [Value.oneCell']) (by have := hlen.out; unfold maxLen; omega) (by have := hlen.out; omega) (by simp; omega) ?_; intro v' w5 hown' hgrow _ _)
        have B5 := BN.grown hgrow BN.size (fun k e => (hbk _ e).1)
        exact ⟨⟨k + 1, rfl, hlt, HF, by rw [HT.out]; unfold OwnS; rw [List.length_append, cells_app]; exact hown', B5⟩, by simp [intOf]; omega⟩
    · have gk : decide ((k : Int) < ((tog la lb).length : Int)) = false := by simp; omega
      have e : (tog la lb).take k = tog la lb := List.take_of_length_le (by omega)
      rw [e] at ho hG
      clear e
      have hall := hG.out
      have hi6 := opl_i64 HO.out.1 HO.out.2 hall
      have hln : (opl o45 (tog la lb)).length ≤ 1000 := by rw [opl_len]; omega
      obtain ⟨p8, c8, rfl, hS8, -⟩ := ho.sl (by unfold maxLen; omega) hi6
      have HC := Lib.hid (cmb_all hall)
      have t19 := fun W h => tail_any p8 (opl o45 (tog la lb)) c8 W h hln hi6
      have HSI : Hid (∀ x ∈ sht (opl o45 (tog la lb)), I64 x.1 ∧ I64 x.2) := Lib.hid (fun x hx => hi6 x (shF_sub.subset hx))
      have hf := fun p9 c9 W => full_any p9 (sht (opl o45 (tog la lb))).length c9 W
      generalize opl o45 (tog la lb) = L at *
      clear hall hi6 hln hG HSI ho
      generalize sht L = M at *
      have BW := belows B hbw
      clear hbw
      by_cases h2 : M.length ≤ 200
      · have HC2 : Hid (cmb o45 la lb = (M, 0)) := Lib.hid (by rw [HC.out, if_pos h2])
        simp only [if_pos h2] at hf
        clear h2 HC
        go_wp2_with (first
          | (go_at_call 19; (with_reducible refine (t19 _ hS8).mono ?_); rintro e w5 ⟨p9, c9, rfl, S9, hb⟩; replace BW := belows BW hb; clear hb t19)
          | (go_at_call 48; (with_reducible refine (hf p9 c9 _).mono ?_); rintro e w6 ⟨rfl, hw⟩; obtain rfl := hw.symm; clear hw))
        exact bodyPost_ret (v := .tuple #[.slice p9 M.length c9, .int .i64 0]) (by simp [results, Try.results22, go_sem]) rfl ⟨p9, c9, by rw [HC2.out], by rw [HC2.out]; exact S9, BW⟩
      · have HC2 : Hid (cmb o45 la lb = ([], 4)) := Lib.hid (by rw [HC.out, if_neg h2])
        simp only [if_neg h2] at hf
        clear h2 HC
        go_wp2_with (first
          | (go_at_call 19; (with_reducible refine (t19 _ hS8).mono ?_); rintro e w5 ⟨p9, c9, rfl, S9, hb⟩; replace BW := belows BW hb; clear hb t19)
          | (go_at_call 48; (with_reducible refine (hf p9 c9 _).mono ?_); rintro e w6 ⟨rfl, hw⟩; obtain rfl := hw.symm; clear hw))
        exact bodyPost_ret (v := .tuple #[.slice none 0 0, .int .i64 4]) (by simp [results, Try.results22, go_sem]) rfl ⟨none, 0, by rw [HC2.out]; rfl, by rw [HC2.out]; exact ⟨fun _ => rfl, fun a ha => (by cases ha), Nat.zero_le _, fun x hx => (by cases hx)⟩, BW⟩
end Go.Proofs.Ytbohcedclnbcdaa
