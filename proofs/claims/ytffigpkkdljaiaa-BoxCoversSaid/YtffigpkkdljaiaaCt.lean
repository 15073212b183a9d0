/- cut: the parts of a side between the ends of others. -/
import Derived.Test.YtffigpkkdljaiaaSrt
namespace Go.Proofs.Ytffigpkkdljaiaa
open Go.ChangeShapes Go.WideShapes Go.ChangeAt Go.RowKit
set_option linter.unusedVariables false
set_option linter.unusedSimpArgs false

theorem two0 (a b : Int) (w : World) : Sem.run Try.prog (Instr.index 100 (.agg #[.int .i64 a, .int .i64 b]) (.int .i64 0)) w = .ok (.int .i64 a) w := by
  simp [Instr.index, go_sem, Try.underlying100]
theorem two1 (a b : Int) (w : World) : Sem.run Try.prog (Instr.index 100 (.agg #[.int .i64 a, .int .i64 b]) (.int .i64 1)) w = .ok (.int .i64 b) w := by
  simp [Instr.index, go_sem, Try.underlying100]
theorem info67 : (Try.prog.info? 67).map (fun i => (i.zero, i.size, i.bytes)) = some (some (.agg #[.int .i64 0, .int .i64 0]), 2, 16) := by kernel_rfl
def ine (lo hi e : Int) : Bool := decide (lo < e) && decide (e < hi)
def eo (lo hi : Int) (o : S2) : List Int := [o.1, o.2].filter (ine lo hi)
def ends (lo hi : Int) (os : List S2) : List Int := [lo, hi] ++ os.flatMap (eo lo hi)
def srt (l : List Int) : List Int := Lib.compact (l.mergeSort fun x y => decide (x ≤ y))
def prs (l : List Int) : List S2 := (List.range (l.length - 1)).map fun i => (l.getD i 0, l.getD (i + 1) 0)
def cutS (lo hi : Int) (os : List S2) : List S2 := if lo = hi then [(lo, hi)] else prs (srt (ends lo hi os))
theorem ends_next (lo hi : Int) (os : List S2) {k : Nat} (h : k < os.length) : ends lo hi (os.take (k + 1)) = ends lo hi (os.take k) ++ eo lo hi os[k] := by
  unfold ends
  rw [List.take_succ_eq_append_getElem h, List.flatMap_append, List.append_assoc]
  simp
theorem flt_y {p : Int → Bool} {b : Int} (X l : List Int) (h : p b = true) : X ++ l.filter p ++ [b] = X ++ (l ++ [b]).filter p := by simp [h]
theorem flt_n {p : Int → Bool} {b : Int} (X l : List Int) (h : p b = false) : X ++ l.filter p = X ++ (l ++ [b]).filter p := by simp [h]
theorem ends_len (lo hi : Int) (os : List S2) : (ends lo hi os).length ≤ 2 + 2 * os.length := by
  induction os with
  | nil => simp [ends]
  | cons o os ih =>
    have : (eo lo hi o).length ≤ 2 := List.length_filter_le _ _
    simp only [ends, List.flatMap_cons, List.length_append, List.length_cons, List.length_nil] at ih ⊢
    omega
set_option maxHeartbeats 4000000 in
set_option maxRecDepth 100000 in
theorem cut_any (v : Value) (lo hi' : Int) (os : List S2) (w : World) (hR : Rd sc 2 w v os) (hl : os.length ≤ 40) :
    Calls Try.prog 64 #[.agg #[.int .i64 lo, .int .i64 hi'], v] w fun e w' => ∃ u, e = .returned u ∧ Own sc 67 2 w.heap.size w' u (cutS lo hi' os) ∧ Below w.heap.size w w' := by
  obtain ⟨q, c, rfl, hC⟩ := hR.s
  obtain ⟨i0, hi, hz0, hz1, hz2⟩ := info_parts info3
  obtain ⟨j0, hj, hy0, hy1, hy2⟩ := info_parts info67
  have hP := Has.new_ w 67 #[.int .i64 lo, .int .i64 hi']
  have hB0 := al1 w (.cells #[.int .i64 lo, .int .i64 hi'] 67)
  by_cases hlh : lo = hi'
  · have e : cutS lo hi' os = [(lo, hi')] := by unfold cutS; rw [if_pos hlh]
    subst hlh
    rw [e]
    clear e
    go_enter Try.func64, Try.ntmps64
    go_wp2
    go_ret
    have this := World.ownsRow_lit (e := 67) (size := 2) (base := w.heap.size) (w.alloc (.cells #[.int .i64 lo, .int .i64 lo] 67)) #[.int .i64 lo, .int .i64 lo] 1 (by simp) (by unfold maxLen; omega) (by simp)
    exact ⟨_, rfl, by simpa [Own, sc] using this, al hB0 _⟩
  · have hP1 := hP.on (al1 _ (.cells #[.int .i64 lo, .int .i64 hi'] 3))
    have hB1 := al hB0 (.cells #[.int .i64 lo, .int .i64 hi'] 3)
    have hO1 : OwnZ (w.heap.size + 1) ((w.alloc (.cells #[.int .i64 lo, .int .i64 hi'] 67)).alloc (.cells #[.int .i64 lo, .int .i64 hi'] 3)) (.slice (some ⟨w.heap.size + 1, 0, none⟩) 2 2) (ends lo hi' (os.take 0)) := by
      have := World.ownsRow_lit (e := 3) (size := 1) (base := w.heap.size + 1) (w.alloc (.cells #[.int .i64 lo, .int .i64 hi'] 67)) #[.int .i64 lo, .int .i64 hi'] 2 (by simp) (by unfold maxLen; omega) (by simp)
      simpa [ends, OwnZ, zv] using this
    obtain ⟨RES, hRES⟩ : ∃ R, R = cutS lo hi' os := ⟨_, rfl⟩
    rw [← hRES]
    have hdc : decide (lo = hi') = false := by simp [hlh]
    have hbe : (lo == hi') = false := by simp [hlh]
    go_enter Try.func64, Try.ntmps64
    go_wp2
    go_loopw [5, 26] (fun v5 v26 wr => ∃ k : Nat, v26 = .int .i64 k ∧ k ≤ os.length ∧ OwnZ (w.heap.size + 1) wr v5 (ends lo hi' (os.take k)) ∧ Has wr w.heap.size 67 #[.int .i64 lo, .int .i64 hi'] ∧ Below w.heap.size w wr ∧ w.heap.size + 1 ≤ wr.heap.size) (fun _ v _ => os.length - (intOf v).toNat)
    case atStart => exact ⟨0, rfl, Nat.zero_le _, hO1, hP1, hB1, by simp⟩
    case round =>
      clear hP hB0 hP1 hB1 hO1
      obtain ⟨k, rfl, hk, hO, hP, hB, hS⟩ := hrel
      by_cases hlt : k < os.length
      · have g1 : decide ((k : Int) < (os.length : Int)) = true := by simp [hlt]
        obtain ⟨g, rfl, c0, c1⟩ := hC k hlt
        have d0 := cell_later hB c0
        have d1 := cell_later hB c1
        have hP1 := hP.on (al1 wr (.cells #[.int .i64 os[k].1, .int .i64 os[k].2] 67))
        have hB1 := al hB (.cells #[.int .i64 os[k].1, .int .i64 os[k].2] 67)
        have hO1 : OwnZ (w.heap.size + 1) _ _ _ := own_on hO (al1 wr (.cells #[.int .i64 os[k].1, .int .i64 os[k].2] 67))
        have W1 : IntKind.i64.wrap ((k : Int) + 1) = ((k + 1 : Nat) : Int) := by rw [IntWalk.i64_in _ (by omega)]; omega
        have hel := ends_len lo hi' (os.take k)
        rw [List.length_take] at hel
        have HX := Lib.hid (ends_next lo hi' os hlt)
        have HC := Lib.hid hC
        clear hC hO hP hB
        go_wp2
        go_loopw [5, 35] (fun v5 v35 wq => ∃ (i : Nat) (E : List Int), v35 = .int .i64 (i : Int) ∧ i ≤ 2 ∧ Hid (E = ends lo hi' (os.take k) ++ ([os[k].1, os[k].2].take i).filter (ine lo hi')) ∧ Hid (E.length ≤ 82 + i) ∧ OwnZ (w.heap.size + 1) wq v5 E ∧ Has wq w.heap.size 67 #[.int .i64 lo, .int .i64 hi'] ∧ Below w.heap.size w wq ∧ w.heap.size + 1 ≤ wq.heap.size) (fun _ v _ => 2 - (intOf v).toNat)
        case atStart => exact ⟨0, _, rfl, by omega, Lib.hid (by simp), Lib.hid (by omega), hO1, hP1, hB1, by simp; omega⟩
        case round =>
          clear hO1 hP1 hB1 d0 d1
          obtain ⟨i, E, rfl, hi2, HE, HN, hO, hPq, hBq, hS⟩ := hrel
          rcases (by omega : i = 0 ∨ i = 1 ∨ i = 2) with rfl | rfl | rfl
          · have ix := fun W => two0 os[k].1 os[k].2 W
            have p0 := hPq.read 0
            have p1 := hPq.read 1
            simp at p0 p1
            have hnn := HN.out
            by_cases c1 : lo < os[k].1
            · by_cases c2 : os[k].1 < hi'
              · have hq := (by omega : E.length ≤ 90)
                go_wp2_with (at_builtin; refine wpList_append_own_at _ rfl _ _ 65 rfl (w.heap.size + 1) 3 i0 _ 1 8 Try.underlying65 hi hz0 hz1 hz2 rfl (by decide) _ E.length (zv E) rfl (own_on hO (al1 _ _)) ⟨_, 0, none⟩ 1 1 [.int .i64 os[k].1] rfl rfl (cell_one_new _ _ _) (by simp [Value.oneCell']) (by unfold maxLen; omega) (by omega) (Nat.le_trans hS (al1 _ _).size) ?_)
                intro v' w3 o1 o2 o3 o4
                have ob := al1 wr (.cells #[.int .i64 os[k].1] 3)
                have O4 : OwnZ (w.heap.size + 1) w3 v' (E ++ [os[k].1]) := by
                  unfold OwnZ
                  rw [List.length_append, show zv (E ++ [os[k].1]) = zv E ++ [.int .i64 os[k].1] by simp [zv]]
                  exact o1
                have hP4 := Has.grown_ (hPq.on ob) o2 (fun e => by have := (hO.lt _ e.symm).1; omega)
                have hB4 : Below w.heap.size w w3 := (hBq.trans (ob.mono hBq.size)).grown o2 (by have := ob.size; have := hBq.size; omega) (fun j hj => by have := (hO.lt _ hj).1; omega)
                have hS4 : w.heap.size + 1 ≤ w3.heap.size := Nat.le_trans hS (Nat.le_trans ob.size o2.size)
                have hEE := HE.out
                have hnn := HN.out
                clear o1 o2 o3 o4 ob hO
                go_wp2
                go_roundw
                · exact ⟨1, E ++ [os[k].1], rfl, by omega, Lib.hid (by rw [hEE]; exact flt_y _ (List.take 0 [os[k].1, os[k].2]) (by simp [ine, c1, c2])), Lib.hid (by rw [List.length_append]; simp; omega), O4, hP4, hB4, hS4⟩
                · simp [intOf]

              · 
                have hEE := HE.out
                have hnn := HN.out
                go_wp2
                refine ⟨⟨1, E, rfl, by omega, Lib.hid (by rw [hEE]; exact flt_n _ (List.take 0 [os[k].1, os[k].2]) (by simp [ine, *])), Lib.hid (by omega), hO, hPq, hBq, hS⟩, by simp [intOf]⟩

            · 
              have hEE := HE.out
              have hnn := HN.out
              go_wp2
              refine ⟨⟨1, E, rfl, by omega, Lib.hid (by rw [hEE]; exact flt_n _ (List.take 0 [os[k].1, os[k].2]) (by simp [ine, *])), Lib.hid (by omega), hO, hPq, hBq, hS⟩, by simp [intOf]⟩


          · have ix := fun W => two1 os[k].1 os[k].2 W
            have p0 := hPq.read 0
            have p1 := hPq.read 1
            simp at p0 p1
            have hnn := HN.out
            by_cases c1 : lo < os[k].2
            · by_cases c2 : os[k].2 < hi'
              · have hq := (by omega : E.length ≤ 90)
                go_wp2_with (at_builtin; refine wpList_append_own_at _ rfl _ _ 65 rfl (w.heap.size + 1) 3 i0 _ 1 8 Try.underlying65 hi hz0 hz1 hz2 rfl (by decide) _ E.length (zv E) rfl (own_on hO (al1 _ _)) ⟨_, 0, none⟩ 1 1 [.int .i64 os[k].2] rfl rfl (cell_one_new _ _ _) (by simp [Value.oneCell']) (by unfold maxLen; omega) (by omega) (Nat.le_trans hS (al1 _ _).size) ?_)
                intro v' w3 o1 o2 o3 o4
                have ob := al1 wr (.cells #[.int .i64 os[k].2] 3)
                have O4 : OwnZ (w.heap.size + 1) w3 v' (E ++ [os[k].2]) := by
                  unfold OwnZ
                  rw [List.length_append, show zv (E ++ [os[k].2]) = zv E ++ [.int .i64 os[k].2] by simp [zv]]
                  exact o1
                have hP4 := Has.grown_ (hPq.on ob) o2 (fun e => by have := (hO.lt _ e.symm).1; omega)
                have hB4 : Below w.heap.size w w3 := (hBq.trans (ob.mono hBq.size)).grown o2 (by have := ob.size; have := hBq.size; omega) (fun j hj => by have := (hO.lt _ hj).1; omega)
                have hS4 : w.heap.size + 1 ≤ w3.heap.size := Nat.le_trans hS (Nat.le_trans ob.size o2.size)
                have hEE := HE.out
                have hnn := HN.out
                clear o1 o2 o3 o4 ob hO
                go_wp2
                go_roundw
                · exact ⟨2, E ++ [os[k].2], rfl, by omega, Lib.hid (by rw [hEE]; exact flt_y _ (List.take 1 [os[k].1, os[k].2]) (by simp [ine, c1, c2])), Lib.hid (by rw [List.length_append]; simp; omega), O4, hP4, hB4, hS4⟩
                · simp [intOf]

              · 
                have hEE := HE.out
                have hnn := HN.out
                go_wp2
                refine ⟨⟨2, E, rfl, by omega, Lib.hid (by rw [hEE]; exact flt_n _ (List.take 1 [os[k].1, os[k].2]) (by simp [ine, *])), Lib.hid (by omega), hO, hPq, hBq, hS⟩, by simp [intOf]⟩

            · 
              have hEE := HE.out
              have hnn := HN.out
              go_wp2
              refine ⟨⟨2, E, rfl, by omega, Lib.hid (by rw [hEE]; exact flt_n _ (List.take 1 [os[k].1, os[k].2]) (by simp [ine, *])), Lib.hid (by omega), hO, hPq, hBq, hS⟩, by simp [intOf]⟩


          · have hEE := HE.out
            have e2 : E = ends lo hi' (os.take (k + 1)) := by rw [hEE, HX.out]; rfl
            rw [e2] at hO
            go_wp2
            exact ⟨⟨k + 1, rfl, hlt, hO, hPq, hBq, hS⟩, by simp [intOf]; omega⟩
      · have g1 : decide ((k : Int) < (os.length : Int)) = false := by simp; omega
        have e : k = os.length := by omega
        subst e
        rw [List.take_length] at hO
        have hE2 : 2 ≤ (ends lo hi' os).length := by simp [ends]
        have hel := ends_len lo hi' os
        have hcut : cutS lo hi' os = prs (srt (ends lo hi' os)) := by unfold cutS; rw [if_neg hlh]
        unfold srt at hcut
        generalize ends lo hi' os = E at *
        have hO' := hO
        obtain ⟨-, ⟨-, h2⟩ | ⟨G, cap, cur, rfl, hBg, -, hn1, hcap, -, -⟩⟩ := hO'
        · omega
        have hM : (E.mergeSort fun x y => decide (x ≤ y)).length = E.length := List.length_mergeSort ..
        have s1 := sortz_any (w.heap.size + 1) G cap E wr hO (by omega) hn1
        have s2 := fun W h => compactz_any (w.heap.size + 1) G cap (E.mergeSort fun x y => decide (x ≤ y)) W h (by rw [hM]; omega) (by rw [hM]; omega)
        have hL1 := compact_len (E.mergeSort fun x y => decide (x ≤ y))
        rw [hM] at s2 hL1
        generalize (E.mergeSort fun x y => decide (x ≤ y)) = M at *
        generalize Lib.compact M = L at *
        have hll : L.length ≤ 90 := by omega
        have W0 : IntKind.i64.wrap ((L.length : Int) - 1) = (L.length : Int) - 1 := IntWalk.i64_in _ (by omega)
        clear hO hP hC g1 hlt hel hE2
        go_wp2_with (first
          | (go_at_call 66; (with_reducible refine s1.mono ?_); rintro X w1 ⟨rfl, q1, b1⟩; clear s1; have B1 := hB.trans (b1.mono (Nat.le_succ _)))
          | (go_at_call 67; (with_reducible refine (s2 _ q1).mono ?_); rintro X w2 ⟨rfl, q2, b2⟩; clear s2; have B2 := B1.trans (b2.mono (Nat.le_succ _)))
          | (at_make; refine wpList_make_own _ rfl _ _ 97 rfl w.heap.size 67 j0 _ 2 Try.underlying97 hj hy0 hy1 _ _ _ L.length rfl rfl rfl (by rw [hy2]; omega) (by unfold maxLen; omega) B2.size ?_; intro w3 r1 r2))
        have b3 : Below w2.heap.size w2 w3 := (Below.refl _ w2).grown r2 (Nat.le_refl _) (fun k hk => by cases hk)
        have B3 := B2.trans (b3.mono B2.size)
        have q3 : OwnZ (w.heap.size + 1) w3 (.slice (some ⟨G, 0, none⟩) L.length cap) L := own_on q2 b3
        have hG2 : G < w2.heap.size := (World.ownsRow.lt q2 G rfl).2
        have r3 : Own sc 67 2 w.heap.size w3 (.slice (some ⟨w2.heap.size, 0, none⟩) 0 L.length) ((prs L).take 0) := by simpa [Own] using r1
        have hpl : (prs L).length = L.length - 1 := by simp [prs]
        have hpe : ∀ i (h : i + 1 < L.length), (prs L).take (i + 1) = (prs L).take i ++ [(L[i], L[i + 1])] := by
          intro i h
          rw [List.take_succ_eq_append_getElem (by omega)]
          have h1 : i < L.length := by omega
          simp [prs, List.getElem?_eq_getElem h1, List.getElem?_eq_getElem h]
        rw [← hRES] at hcut
        generalize prs L = P at *
        have HCUT := Lib.hid hcut
        clear hcut
        clear r1 r2 q1 q2 b1 b2 B1 hB
        have hne0 : (Value.slice (some ⟨w2.heap.size, 0, none⟩) 0 L.length).ownBlock ≠ some G := by simp [Value.ownBlock]; omega
        go_loopw [10, 64] (fun v10 v64 wr => ∃ i : Nat, v64 = .int .i64 (i : Int) ∧ (i = 0 ∨ i < L.length) ∧ Own sc 67 2 w.heap.size wr v10 (P.take i) ∧ OwnZ (w.heap.size + 1) wr (.slice (some ⟨G, 0, none⟩) L.length cap) L ∧ v10.ownBlock ≠ some G ∧ Below w.heap.size w wr) (fun _ v _ => L.length - (intOf v).toNat)
        case atStart => exact ⟨0, rfl, .inl rfl, r3, q3, hne0, B3⟩
        case round =>
        clear r3 q3 hne0 B3 b3 B2
        obtain ⟨i, rfl, hi2, hO, hL, hne, hB⟩ := hrel
        by_cases hlt : i + 1 < L.length
        · have g1 : decide ((i : Int) < (L.length : Int) - 1) = true := by simp; omega
          have h1 : i < L.length := by omega
          have c0 := hL.at_ h1
          have c1 := hL.at_ hlt
          have W1 : IntKind.i64.wrap ((i : Int) + 1) = (i : Int) + 1 := IntWalk.i64_in _ (by omega)
          have g2 : (i : Int) + 1 < (L.length : Int) := by omega
          have g3 : ((i : Int) + 1).toNat = i + 1 := by omega
          have g4 : (0 : Int) ≤ (i : Int) + 1 := by omega
          have hpi := hpe i hlt
          have hpli : (P.take i).length = i := by rw [List.length_take]; omega
          generalize P.take i = Q at *
          go_wp2_with fail
          go_region_law ((refine step_append_lies _ rfl _ _ _ rfl w.heap.size 67 j0 _ 2 16 Try.underlying97 hj hy0 hy1 hy2 rfl (by omega) _ Q.length (Q.flatMap sc) (by simp [Act.eval, Act.put]) (own_on hO (Below.drew (al1 wr (.cells #[.int .i64 L[i], .int .i64 L[i + 1]] 67)))) ⟨wr.heap.size, 0, none⟩ 1 1 [.int .i64 L[i], .int .i64 L[i + 1]] (by simp [Act.eval, Act.put]) rfl (World.news_of_block (cs := #[.int .i64 L[i], .int .i64 L[i + 1]]) (t := 67) (fr := (0, 0)) (heap_alloc_new wr _)) (by simp [Value.oneCell']) (by omega) (by unfold maxLen; omega) (by omega) (by have := hB.size; simp; omega) (wr.heap.size + 1) (by simp) ?_); intro gg cap2 w1 hown1 hgrow hat hlt2)
          all_goals (
            have ob : Below wr.heap.size wr (wr.alloc (.cells #[.int .i64 L[i], .int .i64 L[i + 1]] 67)).drew := Below.drew (al1 wr _)
            have hO2 : Own sc 67 2 w.heap.size w1 (.slice (some ⟨gg, 0, none⟩) (Q.length + 1) cap2) (Q ++ [(L[i], L[i + 1])]) := by
              unfold Own
              rw [List.flatMap_append, List.length_append]
              exact hown1
            rw [← hpi, hpli] at hO2
            have hGl := (World.ownsRow.lt hL G rfl).2
            have hL2 := World.ownsRow.kept (own_on hL ob) hgrow (.inr (fun e => hne e.symm))
            have hne2 : (Value.slice (some ⟨gg, 0, none⟩) (i + 1) cap2).ownBlock ≠ some G := by
              rcases hat with e | rfl
              · exact fun h => hne (e.trans h)
              · simp [Value.ownBlock]; omega
            have hB2 : Below w.heap.size w w1 := (hB.trans (ob.mono hB.size)).grown hgrow (by have := ob.size; have := hB.size; omega) (fun j hj => (World.ownsRow.lt hO _ hj).1)
            clear hown1 hgrow hat hO hL
            go_wp2
            exact ⟨⟨i + 1, by simp, .inr hlt, hO2, hL2, hne2, hB2⟩, by simp [intOf]; omega⟩)
        · have g1 : decide ((i : Int) < (L.length : Int) - 1) = false := by simp; omega
          have e : P.take i = P := List.take_of_length_le (by omega)
          rw [e, ← HCUT.out] at hO
          go_wp2
          go_ret
          exact ⟨_, rfl, hO, hB⟩
end Go.Proofs.Ytffigpkkdljaiaa
