/- Cycles: the walk. -/
import Derived.Test.YtampfciacjifgaaCyc
import Derived.Deep.RegionLaw
namespace Go.Proofs.Ytampfciacjifgaa
open Go.ChangeShapes Go.WideShapes Go.ChangeAt Go.RowKit
set_option linter.unusedVariables false
set_option linter.unusedSimpArgs false

theorem cyc_at {l : List (Nat × Nat)} {f : Nat → Int} {i : Nat} (hi : i < l.length) : cyc l f i = i :: ((wk l (adj l (inF l l.length)) f (f l[i].2 + f l[i].1).toNat l[i].2 l[i].1).1 ++ (wk l (adj l (inF l l.length)) f (f l[i].2 + f l[i].1).toNat l[i].2 l[i].1).2.reverse) := by
  simp [cyc, hi]
theorem below_grown' {a w w' : World} {row : Option Nat} (h : Below a.heap.size a w) (hg : w.grownBy w' row) (hr : ∀ k, row = some k → a.heap.size ≤ k) : Below a.heap.size a w' := h.grown hg h.size hr
theorem own_cons {B : Nat} {w : World} {g c i : Nat} {zl : List Nat} (h : w.ownsRow B 3 1 (.slice (some ⟨g, 0, none⟩) (1 + zl.length) c) (1 + zl.length) ([.int .i64 (i : Int)] ++ ints zl)) : Own B w (.slice (some ⟨g, 0, none⟩) (zl.length + 1) c) (i :: zl) := by
  unfold Own
  rw [Nat.add_comm] at h
  exact h
theorem own_news {B : Nat} {w : World} {g c : Nat} {zl : List Nat} (h : Own B w (.slice (some ⟨g, 0, none⟩) zl.length c) zl) : ∀ j u, (ints zl)[j]? = some u → w.cell? ((⟨g, 0, none⟩ : Addr).add j) = some u := fun j u hj => by
  have hj2 := (List.getElem?_eq_some_iff.1 hj).1
  simp [ints] at hj2
  rw [Addr.add_lit, Nat.zero_add, Own.cell h rfl hj2]
  rw [List.getElem?_eq_getElem (by simpa [ints] using hj2)] at hj
  simp [ints] at hj
  rw [hj]
theorem ints_one (zl : List Nat) : ∀ u ∈ ints zl, u.oneCell' = true := by
  intro u hu; simp [ints] at hu; obtain ⟨x, -, rfl⟩ := hu; rfl
/-- The lists behind the two appends. -/
theorem cyc_end {B : Nat} {wr w7 w8 : World} {u9 v' : Value} {ls : List (List Nat)} {vs : List Value} {gg c : Nat} {zs : List Nat} (h : Bes B wr u9 ls (.slice none 0 0) [] vs) (Q : Below wr.heap.size wr w7) (U : Own B w7 (.slice (some ⟨gg, 0, none⟩) zs.length c) zs) (hgg : wr.heap.size ≤ gg)
    (o1 : w8.ownsRow B 29 1 v' (ls.length + 1) (vs ++ [.slice (some ⟨gg, 0, none⟩) zs.length c])) (hg : w7.grownBy w8 u9.ownBlock) (hv : v'.ownBlock = u9.ownBlock ∨ v'.ownBlock = some w7.heap.size) : Nest B w8 v' (ls ++ [zs]) := by
  refine Nest.push (own_on h.o Q) (h.i.on Q) U (fun i y b hy hb e => ?_) (fun b hb e => ?_) o1 hg hv
  · obtain ⟨ys, -, ho⟩ := h.i.get hy
    have := (World.ownsRow.lt ho _ hb).2
    simp [Value.ownBlock] at e; omega
  · have := (h.o.lt _ e).2
    simp [Value.ownBlock] at hb; omega
set_option maxRecDepth 100000 in
set_option maxHeartbeats 8000000 in
theorem cycles_ok (p : Option Addr) (n : Nat) (l : List (Nat × Nat)) (cap : Nat) (w : World) (hG : Gr w p n l) :
    Calls Try.prog 19 #[.int .i64 n, .slice p l.length cap] w fun e w' => ∃ v f ro, e = .returned (.tuple #[v, .int .i64 0]) ∧ Fo (nbr l n (adj l (inF l l.length))) n n f ro ∧ Nest w.heap.size w' v ((outF l l.length).map (cyc l f)) ∧ Below w.heap.size w w' := by
  have hn := hG.2.2.1
  have hm := hG.2.1
  have hl : ∀ x ∈ l, x.1 < n ∧ x.2 < n ∧ x.1 ≠ x.2 := hG.2.2.2
  go_enter Try.func19, Try.ntmps19
  go_wp2_with (first
    | (go_at_call 14; (with_reducible refine (valid_ok cap hG).mono ?_); rintro e w1 ⟨rfl, b1⟩; have hG1 := hG.on b1)
    | (go_at_call 40; (with_reducible refine (divide_any p n l cap _ hG1).mono ?_); rintro e w2 ⟨v4, v5, rfl, o4, o5, -, b2⟩; have hG2 := hG1.on b2; have r5 := o5.rd; obtain ⟨q5, c5, rfl, hq5⟩ := own_form o5)
    | (go_at_call 46; (with_reducible refine (walker_any p n l cap v4 (inF l l.length) _ hG2 o4.rd (fun i hi => (inF_mem.1 hi).1) (Nat.le_trans (inF_len l _) hm)).mono ?_); rintro e w4 ⟨Rb, Eb, G, D, f, ro, rfl, HR, HE, hwD, hDw, g4, R4, F4, b3⟩))
  have b12 := belows b1 b2
  have bw4 : Below w.heap.size w w4 := belows b12 b3
  have r54 := r5.on b3
  obtain ⟨q6, c6, e6, k5⟩ := r54
  simp only [Value.slice.injEq, true_and] at e6
  obtain ⟨rfl, rfl⟩ := e6
  have K5 := Lib.hid k5
  have ro_e := ro_edge hl F4
  have HC : ∀ i (hi : i < l.length) W, Below w4.heap.size w4 W → Calls Try.prog 66 #[.int .i64 (l[i].2 : Nat), .int .i64 (l[i].1 : Nat), .pointer (some ⟨Rb, 0, none⟩), .pointer (some ⟨Eb, 0, none⟩)] W fun e w' => ∃ z zl, e = .returned z ∧ cyc l f i = i :: zl ∧ 0 < zl.length ∧ zl.length ≤ 4000 ∧ Own W.heap.size w' z zl ∧ Below W.heap.size W w' := fun i hi W hW => by
    have hx := hl _ (List.getElem_mem hi)
    have c := clo_any p l n (inF l l.length) _ rfl (Nat.le_trans (inF_len l _) hm) f ro D G cap Rb Eb l[i].2 l[i].1 W (g4.on (hW.mono (Nat.le_of_lt hDw))) (Has.on R4 hW) F4 (Has.on HR hW) (Has.on HE hW) hx.2.1 hx.1 (ro_e i hi).symm
    refine c.mono ?_
    rintro e w' ⟨z, rfl, ho, hb⟩
    refine ⟨z, _, rfl, cyc_at hi, wk_ne hl F4 hx.2.1 hx.1 (Ne.symm hx.2.2) (ro_e i hi).symm, ?_, ho, hb⟩
    have := wk_len l (adj l (inF l l.length)) f (f l[i].2 + f l[i].1).toNat l[i].2 l[i].1
    have x1 := F4.x l[i].1
    have x2 := F4.x l[i].2
    simp only [List.length_append, List.length_reverse]
    omega
  have HF := Lib.hid F4
  have hol := outF_len l l.length
  obtain ⟨i0, hi, hz0, hz1, hz2⟩ := info_parts info3
  obtain ⟨j0, hj, hy0, hy1, hy2⟩ := info_parts info29
  clear F4 HR HE g4 R4 k5 r5 o4 o5 hq5 ro_e hG1 hG2 b1 b2 b3 b12
  go_wp2
  go_loopw [9, 28] (fun v9 v28 wr => ∃ k : Nat, v28 = .int .i64 k ∧ k ≤ (outF l l.length).length ∧ Hid (Nest w4.heap.size wr v9 (((outF l l.length).take k).map (cyc l f))) ∧ Below w4.heap.size w4 wr) (fun _ v _ => (outF l l.length).length - (intOf v).toNat)
  case atStart => exact ⟨0, rfl, Nat.zero_le _, Lib.hid (Nest.nil _ _), Below.refl _ _⟩
  case round =>
    obtain ⟨k, rfl, hk, hN, hB⟩ := hrel
    by_cases hlt : k < (outF l l.length).length
    · have g1 : decide ((k : Int) < ((outF l l.length).length : Int)) = true := by simp [hlt]
      have W1 : IntKind.i64.wrap ((k : Int) + 1) = ((k + 1 : Nat) : Int) := by rw [IntWalk.i64_in _ (by omega)]; omega
      obtain ⟨g, rfl, ck⟩ := K5.out k hlt
      have ck := cell_later hB ck
      have him := List.getElem_mem hlt
      have hil : (outF l l.length)[k] < l.length := (outF_mem.1 him).1
      have hcyc : ((outF l l.length).take (k + 1)).map (cyc l f) = ((outF l l.length).take k).map (cyc l f) ++ [cyc l f (outF l l.length)[k]] := by
        rw [List.take_succ_eq_append_getElem hlt, List.map_append]; rfl
      obtain ⟨i, hi2⟩ : ∃ i, i = (outF l l.length)[k] := ⟨_, rfl⟩
      rw [← hi2] at ck hil hcyc
      obtain ⟨a, rfl, d0, d1, l1, l2, ne⟩ := (hG.on (bw4.trans (hB.mono bw4.size))).at hil
      have hC := fun W hW => HC i hil W hW
      obtain ⟨x, hx⟩ : ∃ x, x = l[i].1 := ⟨_, rfl⟩
      obtain ⟨y, hy⟩ : ∃ y, y = l[i].2 := ⟨_, rfl⟩
      rw [← hx] at d0 hC
      rw [← hy] at d1 hC
      have HL := Lib.hid hcyc
      clear hcyc hi2 hx hy l1 l2 ne him HC
      have q1 : (0 : Int) ≤ (i : Int) := by omega
      have q2 : (i : Int) < (l.length : Int) := by omega
      obtain ⟨vs, hb9⟩ := Nst.start hN.out
      have hls : ((((outF l l.length).take k).map (cyc l f)).length) = k := by rw [List.length_map, List.length_take]; omega
      generalize hLS : ((outF l l.length).take k).map (cyc l f) = ls at *
      have HB9 := Lib.hid hb9
      have HLS := Lib.hid hls
      clear hb9 hLS hls hN
      have zb : (a.add (i * 2)).block < wr.heap.size := lt_of_cell d0
      have B0 : Below wr.heap.size wr wr := Below.refl _ _
      go_wp2_with fail
      go_region_law (first
        | (go_simp; go_at_call 66; (refine (hC _ (by repeat' (first | exact hB | refine below_al ?_ _ | refine below_dr ?_))).mono ?_); rintro e w5 ⟨z, zl, rfl, hcy, zp, zl4, ho, hb⟩; have B5 : Below w4.heap.size w4 w5 := belows (by repeat' (first | exact hB | refine below_al ?_ _ | refine below_dr ?_)) hb; have Q5 : Below wr.heap.size wr w5 := belows (by repeat' (first | exact B0 | refine below_al ?_ _ | refine below_dr ?_)) hb; have O5 := Own.mono ho (Below.size (show Below w4.heap.size w4 _ from (by repeat' (first | exact hB | refine below_al ?_ _ | refine below_dr ?_)))); obtain ⟨gz, cz, rfl, gz1, gz2⟩ := World.ownsRow.form O5 zp; (first | (have Li : w5.ownsRow w4.heap.size 3 1 (.slice (some ⟨wr.heap.size, 0, none⟩) 1 1) 1 [.int .i64 (i : Int)] := own_on (World.ownsRow_lit wr #[.int .i64 (i : Int)] 1 hB.size (by unfold maxLen; omega) rfl) (Below.trans (Below.drew (Below.refl _ _)) hb)) | (have Li : w5.ownsRow w4.heap.size 3 1 (.slice (some ⟨wr.heap.size, 0, none⟩) 1 1) 1 [.int .i64 (i : Int)] := own_on (World.ownsRow_lit wr #[.int .i64 (i : Int)] 1 hB.size (by unfold maxLen; omega) rfl) hb) | skip))
        | (refine step_append_lies _ rfl (.tmp 32) (.tmp 48) 25 rfl w4.heap.size 29 j0 _ 1 24 Try.underlying25 hj hy0 hy1 hy2 rfl (by omega) u9 ls.length vs (by simp [Act.eval, Act.put]) (own_on HB9.out.o (below_al Q6 (.cells #[.slice (some ⟨gg, 0, none⟩) (1 + zl.length) cap6] 29))) ⟨w6.heap.size, 0, none⟩ 1 1 [.slice (some ⟨gg, 0, none⟩) (1 + zl.length) cap6] (by simp [Act.eval, Act.put]) rfl (World.news_of_block (cs := #[.slice (some ⟨gg, 0, none⟩) (1 + zl.length) cap6]) (t := 29) (fr := (0, 0)) (heap_alloc_new w6 _)) (by simp [Value.oneCell']) (by omega) (by have := HLS.out; unfold maxLen; omega) (by have := HLS.out; omega) (Below.size (below_al B6 _)) _ rfl ?_; intro g8 cap8 w8 h8 gr8 at8 lt8)
        | (refine step_append_lies _ rfl (.tmp 34) (.tmp 46) 29 rfl w4.heap.size 3 i0 _ 1 8 Try.underlying29 hi hz0 hz1 hz2 rfl (by omega) (.slice (some ⟨w5.heap.size, 0, none⟩) 1 1) 1 [.int .i64 (i : Int)] (by simp [Act.eval, Act.put]) (World.ownsRow_lit w5 #[.int .i64 (i : Int)] 1 B5.size (by unfold maxLen; omega) rfl) ⟨gz, 0, none⟩ zl.length cz (ints zl) (by simp [Act.eval, Act.put]) (by simp [ints]) (own_news (own_on O5 (al1 w5 (.cells #[.int .i64 (i : Int)] 3)))) (ints_one zl) zp (by unfold maxLen; omega) (by omega) (Below.size (below_al B5 (.cells #[.int .i64 (i : Int)] 3))) _ rfl ?_; intro gg cap6 w6 h6 g6 at6 lt6; have gd : wr.heap.size ≤ gg := (by have := Below.size Q5; rcases at6 with e | e; (focus (simp [Value.ownBlock] at e; omega)); (first | omega | (simp at e; omega))); have Q6 : Below wr.heap.size wr w6 := below_grown' (below_al Q5 (.cells #[.int .i64 (i : Int)] 3)) g6 (fun k hk => by have := Below.size Q5; simp [Value.ownBlock] at hk; omega); have B6 : Below w4.heap.size w4 w6 := below_grown' (below_al B5 (.cells #[.int .i64 (i : Int)] 3)) g6 (fun k hk => by have := Below.size Q5; have := Below.size hB; simp [Value.ownBlock] at hk; omega); have U6 := own_cons h6)
        | (refine step_append_lies _ rfl (.tmp 34) (.tmp 46) 29 rfl w4.heap.size 3 i0 _ 1 8 Try.underlying29 hi hz0 hz1 hz2 rfl (by omega) (.slice (some ⟨wr.heap.size, 0, none⟩) 1 1) 1 [.int .i64 (i : Int)] (by simp [Act.eval, Act.put]) Li ⟨gz, 0, none⟩ zl.length cz (ints zl) (by simp [Act.eval, Act.put]) (by simp [ints]) (own_news O5) (ints_one zl) zp (by unfold maxLen; omega) (by omega) (Below.size B5) _ rfl ?_; intro gg cap6 w6 h6 g6 at6 lt6; have gd : wr.heap.size ≤ gg := (by have := Below.size Q5; rcases at6 with e | e; (focus (simp [Value.ownBlock] at e; omega)); (first | omega | (simp at e; omega))); have Q6 : Below wr.heap.size wr w6 := below_grown' Q5 g6 (fun k hk => by have := Below.size Q5; simp [Value.ownBlock] at hk; omega); have B6 : Below w4.heap.size w4 w6 := below_grown' B5 g6 (fun k hk => by have := Below.size Q5; have := Below.size hB; simp [Value.ownBlock] at hk; omega); have U6 := own_cons h6))
      all_goals (
        have N8 : Hid (Nest w4.heap.size w8 (.slice (some ⟨g8, 0, none⟩) (ls.length + 1) cap8) (((outF l l.length).take (k + 1)).map (cyc l f))) := Lib.hid (by
          rw [HL.out, hcy]
          refine cyc_end HB9.out (below_al Q6 (.cells #[.slice (some ⟨gg, 0, none⟩) (1 + zl.length) cap6] 29)) (own_on U6 (al1 w6 _)) gd ?_ gr8 ?_
          · rw [Nat.add_comm 1 zl.length] at h8; exact h8
          · rcases at8 with e | e
            · exact .inl e.symm
            · exact .inr (by rw [e]; rfl))
        have B8 : Below w4.heap.size w4 w8 := below_grown' (below_al B6 _) gr8 (fun k hk => (HB9.out.o.lt _ hk).1)
        clear h8 gr8 at8 lt8 h6 g6 at6 lt6 U6 Q6 B6 O5 Q5 B5 ho hb
        go_wp2
        exact ⟨⟨k + 1, rfl, hlt, N8, B8⟩, by simp [intOf]; omega⟩)
    · have g1 : decide ((k : Int) < ((outF l l.length).length : Int)) = false := by simp; omega
      have hfin : ((outF l l.length).take k).map (cyc l f) = (outF l l.length).map (cyc l f) := by rw [List.take_of_length_le (by omega)]
      have HFI := Lib.hid hfin
      clear hfin
      go_wp2
      refine bodyPost_ret (v := .tuple #[_, .int .i64 0]) (by simp [results, Try.results19, go_sem]; rfl) rfl ⟨_, f, ro, rfl, HF.out, by rw [← HFI.out]; exact hN.out.mono bw4.size, bw4.trans (hB.mono bw4.size)⟩
end Go.Proofs.Ytampfciacjifgaa
