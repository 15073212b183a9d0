/- The reference's Least. -/
import Derived.Test.YtbohcedclnbcdaaV15
import Derived.Deep.RegionHeldLaw
namespace Go.Proofs.Ytbohcedclnbcdaa
open Go.ChangeShapes Go.WideShapes Go.ChangeAt Go.RowKit
set_option linter.unusedVariables false
set_option linter.unusedSimpArgs false

set_option maxHeartbeats 8000000 in
set_option maxRecDepth 100000 in
theorem rleast_any (p q : Option Addr) (la lb : List Stp) (ca cb : Nat) (w : World) (hA : Sl w p la) (hB : Sl w q lb) (oa : OkS la) (ob : OkS lb) :
    Calls Try.prog 23 #[.slice p la.length ca, .slice q lb.length cb] w fun e w' => ∃ p' c', e = .returned (.tuple #[.slice p' (cmb o46 la lb).1.length c', .int .i64 (cmb o46 la lb).2]) ∧ Sl w' p' (cmb o46 la lb).1 ∧ Below w.heap.size w w' := by
  obtain ⟨i0, hi, hz0, hz1, hz2⟩ := info_parts info34
  have l1 := oa.len
  have l2 := ob.len
  have h1 := places_ri p q la lb ca cb w hA hB (by omega) (by omega)
  have HV := Lib.hid (tog_val oa.asc ob.asc)
  have htl : (tog la lb).length ≤ 400 := Nat.le_trans (tg_len _ _ _ _ _) (by omega)
  have HP : Hid (∀ j (h : j < (tog la lb).length), ∃ h' : j < (pls la lb).length, (pls la lb)[j] = (tog la lb)[j].1) := Lib.hid fun j h => ⟨by simp [pls]; exact h, by simp [pls]⟩
  have HA := Lib.hid (fun x => (ara_iff _).1 (va_ara oa.ar x))
  have HB := Lib.hid (fun x => (ara_iff _).1 (va_ara ob.ar x))
  have HO := Lib.hid (And.intro oa ob)
  clear oa ob l1 l2
  go_enter Try.func23, Try.ntmps23
  go_wp2_with (go_at_call 47; (with_reducible refine h1.mono ?_); rintro e w1 ⟨p1, c1, rfl, hr, B⟩)
  clear h1
  have HR := Lib.hid hr
  clear hr
  go_loopw [7, 8] (fun v i wr => ∃ k : Nat, i = .int .i64 k ∧ k ≤ (tog la lb).length ∧ Hid (∀ s ∈ opl o46 ((tog la lb).take k), ara s.2 = true) ∧ OwnS w1.heap.size wr v (opl o46 ((tog la lb).take k)) ∧ Below w1.heap.size w1 wr) (fun v i _ => (tog la lb).length - (intOf i).toNat)
  case atStart => exact ⟨0, rfl, Nat.zero_le _, Lib.hid (by simp [opl]), OwnS.nil _ _, Below.refl _ _⟩
  case round =>
    obtain ⟨k, rfl, hk, hG, ho, hbw⟩ := hrel
    by_cases hlt : k < (tog la lb).length
    · have gk : decide ((k : Int) < ((tog la lb).length : Int)) = true := by simp [hlt]
      have W1 : IntKind.i64.wrap ((k : Int) + 1) = ((k + 1 : Nat) : Int) := by rw [IntWalk.i64_in _ (by omega)]; omega
      have q1 : (0 : Int) ≤ (k : Int) := by omega
      have q2 : (k : Int) < ((tog la lb).length : Int) := by omega
      obtain ⟨hk', hpk⟩ := HP.out k hlt
      obtain ⟨a1, rfl, d00⟩ := HR.out k hk'
      rw [hpk] at d00
      have d0 := cell_later hbw d00
      have hv := HV.out _ (List.getElem_mem hlt)
      have t1 := fun W h => rat_any p la ca (tog la lb)[k].1 W h
      have t2 := fun W h => rat_any q lb cb (tog la lb)[k].1 W h
      have ra := HA.out (tog la lb)[k].1
      have rb := HB.out (tog la lb)[k].1
      rw [← hv.1] at t1 ra
      rw [← hv.2] at t2 rb
      have HT := Lib.hid (opl_take o46 (tog la lb) hlt)
      have HBG := Lib.hid (fun h => cmb_big (o := o46) hlt h)
      have hlen : Hid ((opl o46 ((tog la lb).take k)).length ≤ 400) := Lib.hid (by rw [opl_len, List.length_take]; omega)
      clear hv hpk hk'
      generalize (tog la lb)[k].1 = x at *
      generalize (tog la lb)[k].2.1 = n2 at *
      generalize (tog la lb)[k].2.2 = m2 at *
      have hA1 := (hA.on B).on hbw
      have hB1 := (hB.on B).on hbw
      have v1 := t1 wr hA1
      have v2 := t2 wr hB1
      have x1 := t1 wr.drew (show Sl wr.drew p la from hA1)
      have x2 := t2 wr.drew (show Sl wr.drew q lb from hB1)
      have y1 := fun nn => t1 (wr.drewN nn) (show Sl (wr.drewN nn) p la from hA1)
      have y2 := fun nn => t2 (wr.drewN nn) (show Sl (wr.drewN nn) q lb from hB1)
      clear t1 t2 hA1 hB1
      have HMIN : Hid (ara (min n2 m2) = true) := Lib.hid ((ara_iff _).2 (by omega))
      have HF : Hid (∀ s ∈ opl o46 ((tog la lb).take (k + 1)), ara s.2 = true) := Lib.hid (by
          rw [HT.out]
          intro s hs
          rcases List.mem_append.1 hs with hs | hs
          · exact hG.out s hs
          · rw [List.mem_singleton.1 hs]; exact HMIN.out)
      have hbk := World.ownsRow.lt ho
      have hsz2 := hbw.size
      clear ra rb
      have hmn : min n2 m2 = (if m2 < n2 then m2 else n2) := by split <;> omega
      have HMN := Lib.hid hmn
      clear hmn
      have BN := below_dr (al hbw (.cells #[.int .i64 x, .int .i64 (if m2 < n2 then m2 else n2)] 34))
      focus (
        go_wp2_with fail
        go_region_held_law (fun W' => W'.cell? (a1.add k) = some (.int .i64 x)) (first | exact d0 | assumption | exact cell_later (al1 wr _) d0 | exact cell_later (al1 wr.drew _) d0 | go_keep) ((first
          | (go_at_call 17; (first
            | (with_reducible refine v1.mono ?_) | (with_reducible refine v2.mono ?_) | (with_reducible refine x1.mono ?_) | (with_reducible refine x2.mono ?_)); rintro e wx ⟨rfl, hw⟩; obtain rfl := hw)
          | (refine step_append_lies _ (by rfl) _ _ _ (by rfl) w1.heap.size 34 i0 _ 2 16 Try.underlying22 hi hz0 hz1 hz2 rfl (by omega) u7 (opl o46 ((tog la lb).take k)).length (cells (opl o46 ((tog la lb).take k))) (by simp [Act.eval, Act.put]) (own_on ho (Below.drew (al1 wr (.cells #[.int .i64 x, .int .i64 (if m2 < n2 then m2 else n2)] 34)))) ⟨wr.heap.size, 0, none⟩ 1 1 [.int .i64 x, .int .i64 (if m2 < n2 then m2 else n2)] (by simp [Act.eval, Act.put]) rfl (World.news_of_block (cs := #[.int .i64 x, .int .i64 (if m2 < n2 then m2 else n2)]) (t := 34) (fr := (0, 0)) (heap_alloc_new wr (.cells #[.int .i64 x, .int .i64 (if m2 < n2 then m2 else n2)] 34))) (by simp [Value.oneCell']) (by omega) (by have := hlen.out; unfold maxLen; omega) (by have := hlen.out; omega) (by simp; omega) (wr.heap.size + 1) (by simp) ?_; intro gg cap2 w5 hown1 hgrow hat hlt2; have B5 := BN.grown hgrow BN.size (fun k e => (hbk _ e).1); have d5 := cell_later B5 d00)))
        go_wp2
        exact ⟨⟨k + 1, rfl, hlt, HF, by
          have e : cells [(x, min n2 m2)] = [.int .i64 x, .int .i64 (if m2 < n2 then m2 else n2)] := by rw [HMN.out]; rfl
          rw [HT.out]; unfold OwnS; rw [List.length_append, cells_app, e]; exact hown1, B5⟩, by simp [intOf]; omega⟩)
    · have gk : decide ((k : Int) < ((tog la lb).length : Int)) = false := by simp; omega
      have e : (tog la lb).take k = tog la lb := List.take_of_length_le (by omega)
      rw [e] at ho hG
      clear e
      have hall := hG.out
      have hi6 := opl_i64 HO.out.1 HO.out.2 hall
      have hln : (opl o46 (tog la lb)).length ≤ 1000 := by rw [opl_len]; omega
      obtain ⟨p8, c8, rfl, hS8, -⟩ := ho.sl (by unfold maxLen; omega) hi6
      have HC := Lib.hid (cmb_all hall)
      have t19 := fun W h => tail_any p8 (opl o46 (tog la lb)) c8 W h hln hi6
      have HSI : Hid (∀ x ∈ sht (opl o46 (tog la lb)), I64 x.1 ∧ I64 x.2) := Lib.hid (fun x hx => hi6 x (shF_sub.subset hx))
      have hf := fun p9 c9 W => full_any p9 (sht (opl o46 (tog la lb))).length c9 W
      generalize opl o46 (tog la lb) = L at *
      clear hall hi6 hln hG HSI ho
      generalize sht L = M at *
      have BW := belows B hbw
      clear hbw
      by_cases h2 : M.length ≤ 200
      · have HC2 : Hid (cmb o46 la lb = (M, 0)) := Lib.hid (by rw [HC.out, if_pos h2])
        simp only [if_pos h2] at hf
        clear h2 HC
        go_wp2_with (first
          | (go_at_call 19; (with_reducible refine (t19 _ hS8).mono ?_); rintro e w5 ⟨p9, c9, rfl, S9, hb⟩; replace BW := belows BW hb; clear hb t19)
          | (go_at_call 48; (with_reducible refine (hf p9 c9 _).mono ?_); rintro e w6 ⟨rfl, hw⟩; obtain rfl := hw.symm; clear hw))
        exact bodyPost_ret (v := .tuple #[.slice p9 M.length c9, .int .i64 0]) (by simp [results, Try.results23, go_sem]) rfl ⟨p9, c9, by rw [HC2.out], by rw [HC2.out]; exact S9, BW⟩
      · have HC2 : Hid (cmb o46 la lb = ([], 4)) := Lib.hid (by rw [HC.out, if_neg h2])
        simp only [if_neg h2] at hf
        clear h2 HC
        go_wp2_with (first
          | (go_at_call 19; (with_reducible refine (t19 _ hS8).mono ?_); rintro e w5 ⟨p9, c9, rfl, S9, hb⟩; replace BW := belows BW hb; clear hb t19)
          | (go_at_call 48; (with_reducible refine (hf p9 c9 _).mono ?_); rintro e w6 ⟨rfl, hw⟩; obtain rfl := hw.symm; clear hw))
        exact bodyPost_ret (v := .tuple #[.slice none 0 0, .int .i64 4]) (by simp [results, Try.results23, go_sem]) rfl ⟨none, 0, by rw [HC2.out]; rfl, by rw [HC2.out]; exact ⟨fun _ => rfl, fun a ha => (by cases ha), Nat.zero_le _, fun x hx => (by cases hx)⟩, BW⟩
end Go.Proofs.Ytbohcedclnbcdaa
